/- Long lists: how ",0" so many times is cut into tokens, and how such a list is read. Plain. -/
import Derived.Test.YtohjfikjbeafiaaGreatDoorIab
import Derived.Test.YtohjfikjbeafiaaGreatDoorGaw
namespace Go.Proofs.YtohjfikjbeafiaaGreatDoor.T1
namespace Tx
theorem byte_of {c : UInt8} {n : Nat} (h : (c.toNat : Int) = n) (hn : n < 256) : c = UInt8.ofNat n := by
  apply UInt8.toNat_inj.1
  rw [UInt8.toNat_ofNat_of_lt' (by simpa using hn)]
  omega
theorem sub_self (bs : List UInt8) (i : Nat) : sub bs i i = [] := by simp [sub]
theorem one_comma {bs : List UInt8} {k : Nat} (hk : k + 1 < bs.length) (h : B bs k = 44) (h1 : B bs (k + 1) = 48) : one bs k = .ok (⟨5, 0, [44]⟩, k + 1) := by
  obtain ⟨c, hc, hcB⟩ := sub_cons (bs := bs) (i := k) (j := k + 2) (by omega) (by omega)
  obtain ⟨d, hd, hdB⟩ := sub_cons (bs := bs) (i := k + 1) (j := k + 2) (by omega) (by omega)
  obtain ⟨c', hc', hcB'⟩ := sub_cons (bs := bs) (i := k) (j := k + 1) (by omega) (by omega)
  have e1 : c = 44 := byte_of (n := 44) (by omega) (by omega)
  have e2 : d = 48 := byte_of (n := 48) (by omega) (by omega)
  have e3 : c' = 44 := byte_of (n := 44) (by omega) (by omega)
  rw [sub_self] at hd hc'
  have hs : sub bs k (k + 2) = [44, 48] := by rw [hc, hd, e1, e2]
  have hs' : sub bs k (k + 1) = [44] := by rw [hc', e3]
  have m : oneMark bs k = .ok (⟨5, 0, [44]⟩, k + 1) := by
    unfold oneMark
    rw [hs, hs', h, if_neg (by intro x; exact absurd x.2 (by decide)), if_pos (by decide)]
  unfold one
  rw [h, m]
  rfl
theorem one_zero {bs : List UInt8} {k : Nat} (hk : k + 1 < bs.length) (h : B bs k = 48) (h1 : innerB (B bs (k + 1)) = false) : one bs k = .ok (⟨3, 0, []⟩, k + 1) := by
  obtain ⟨c', hc', hcB'⟩ := sub_cons (bs := bs) (i := k) (j := k + 1) (by omega) (by omega)
  have e3 : c' = 48 := byte_of (n := 48) (by omega) (by omega)
  rw [sub_self] at hc'
  have hs' : sub bs k (k + 1) = [48] := by rw [hc', e3]
  have hu : upTo innerB bs k = k + 1 := by rw [upTo_in (by omega) (by rw [h]; rfl), upTo_out (by omega) h1]
  have m : oneNum bs k = .ok (⟨3, 0, []⟩, k + 1) := by
    unfold oneNum
    rw [hu, hs', if_neg (by omega), show numOf [48] = some 0 by decide]
  unfold one
  rw [h, m]
  rfl
/-- The tokens of ",0" so many times. -/
def run : Nat → Nat → List (Tk × Nat)
  | 0, _ => []
  | n + 1, p => (⟨5, 0, [44]⟩, p) :: (⟨3, 0, []⟩, p + 1) :: run n (p + 2)
theorem run_len : ∀ n p, (run n p).length = 2 * n
  | 0, _ => rfl
  | n + 1, p => by simp only [run, List.length_cons, run_len n]; omega
theorem run_get : ∀ n p i, i < n → (run n p)[2 * i]? = some (⟨5, 0, [44]⟩, p + 2 * i) ∧ (run n p)[2 * i + 1]? = some (⟨3, 0, []⟩, p + 2 * i + 1)
  | n + 1, p, 0, _ => ⟨rfl, rfl⟩
  | n + 1, p, i + 1, h => by
    have ih := run_get n (p + 2) i (by omega)
    rw [show 2 * (i + 1) = 2 * i + 1 + 1 by omega, show 2 * i + 1 + 1 + 1 = (2 * i + 1) + 1 + 1 from rfl]
    simp only [run, List.getElem?_cons_succ]
    refine ⟨ih.1.trans ?_, ih.2.trans ?_⟩ <;> simp <;> omega
theorem ahead_app (a b : List (Tk × Nat)) (r : Except (Int × Nat) (List (Tk × Nat))) : ahead a (ahead b r) = ahead (a ++ b) r := by
  cases r <;> simp [ahead]
theorem toks_run {bs : List UInt8} (f : Nat) : ∀ n p, (∀ i, i < n → B bs (p + 2 * i) = 44 ∧ B bs (p + 2 * i + 1) = 48) → innerB (B bs (p + 2 * n)) = false → p + 2 * n < bs.length →
    toks bs (2 * n + f) p = ahead (run n p) (toks bs f (p + 2 * n))
  | 0, p, _, _, _ => by simp [run, ahead_nil]
  | n + 1, p, h, hi, hl => by
    obtain ⟨c0, c1⟩ := h 0 (by omega)
    simp only [Nat.mul_zero, Nat.add_zero] at c0 c1
    have hn : innerB (B bs (p + 2)) = false := by
      rcases Nat.eq_zero_or_pos n with rfl | h0
      · exact hi
      · have := (h 1 (by omega)).1
        rw [show p + 2 = p + 2 * 1 by omega, this]; rfl
    have ih := toks_run f n (p + 2) (fun i hi => by
      have := h (i + 1) (by omega)
      rw [show p + 2 * (i + 1) = p + 2 + 2 * i by omega] at this
      exact this) (by rw [show p + 2 + 2 * n = p + 2 * (n + 1) by omega]; exact hi) (by omega)
    have o1 := one_comma (bs := bs) (k := p) (by omega) c0 c1
    have o2 := one_zero (bs := bs) (k := p + 1) (by omega) c1 hn
    rw [show 2 * (n + 1) + f = (2 * n + f) + 1 + 1 by omega, ← ahead_nil (toks bs _ p), toks_ok [] (by omega) (by rw [c0]; rfl) (by rw [c0]; rfl) o1, toks_ok _ (by omega) (by rw [c1]; rfl) (by rw [c1]; rfl) o2, ih, ahead_app, show p + 2 + 2 * n = p + 2 * (n + 1) by omega]
    rfl
end Tx
end Go.Proofs.YtohjfikjbeafiaaGreatDoor.T1
namespace Go.Proofs.YtohjfikjbeafiaaGreatDoor
namespace Ps
open Tr (T Nd)
section
variable {L : List PT} {e : PT}
def leaf (L : List PT) (e : PT) (k : Nat) : T := .nd { mkN 1 0 (tok L e k) with n := (tok L e k).n, s := bs (tok L e k).s } []
theorem sg_num {k : Nat} (h : kd L k = 3) : sg L k = [] := by
  unfold kd at h; unfold sg
  split at h
  · rename_i t ht
    rw [if_neg (by omega)]
  · omega
theorem u_rk (d k : Nat) : pe L e (d + 1) .rk k = bnd (pe L e d .sm k) fun a k => if relK (sg L k) ≠ 0 then binR L e (relK (sg L k)) a (pe L e d .sm) k else .ok (a, k, []) := rfl
theorem u_sm (d k : Nat) : pe L e (d + 1) .sm k = bnd (pe L e d .tm k) fun a k => pe L e d (.sml a) k := rfl
theorem u_sml (d k : Nat) (a : T) : pe L e (d + 1) (.sml a) k = if sumK (sg L k) ≠ 0 then (bnd (binR L e (sumK (sg L k)) a (pe L e d .tm) k) fun b k => pe L e d (.sml b) k) else .ok (a, k, []) := rfl
theorem u_tm (d k : Nat) : pe L e (d + 1) .tm k = bnd (pe L e d .fc k) fun a k => pe L e d (.tml a) k := rfl
theorem u_tml (d k : Nat) (a : T) : pe L e (d + 1) (.tml a) k = if sg L k = [42] then (bnd (binR L e 12 a (pe L e d .fc) k) fun b k => pe L e d (.tml b) k) else .ok (a, k, []) := rfl
theorem u_fc (d k : Nat) : pe L e (d + 1) .fc k = if sg L k = [45] then unR L e 16 (pe L e d .fc) k else if sg L k = [33] then unR L e 27 (pe L e d .fc) k else pe L e d .cl k := rfl
theorem u_cl (d k : Nat) : pe L e (d + 1) .cl k = bnd (pe L e d .at k) fun a k => pe L e d (.cll a) k := rfl
theorem u_cll (d k : Nat) (a : T) : pe L e (d + 1) (.cll a) k = if sg L k = [40] then (bnd (pe L e d .ex (k + 1)) fun b j => bnd (expc L e [41] j) fun _ j => pe L e d (.cll (two 7 (tok L e k) a b)) j) else .ok (a, k, []) := rfl
theorem u_ex (d k : Nat) : pe L e (d + 1) .ex k = if sg L k = [102, 110] then fnR L e (pe L e d .ex) k
    else if sg L k = [114, 101, 99] then recR L e (pe L e d .ex) k
    else if sg L k = [108, 101, 116] then letR L e (pe L e d .ex) k
    else if sg L k = [105, 102] then ifR L e (pe L e d .ex) k
    else bnd (pe L e d .rk k) fun a k => if sg L k = [58, 61] then binR L e 28 a (pe L e d .ex) k else .ok (a, k, []) := rfl
theorem u_lsl (d k : Nat) (p : PT) (acc : List T) : pe L e (d + 1) (.lsl p acc) k = if sg L k = [44] then (bnd (pe L e d .ex (k + 1)) fun b k => pe L e d (.lsl p (acc ++ [b])) k) else bnd (expc L e [93] k) fun _ k => .ok (.nd (mkN 21 acc.length p) acc, k, []) := rfl
theorem u_at (d k : Nat) (h3 : kd L k ≠ 3) (h4 : kd L k ≠ 4) (h2 : kd L k ≠ 2) (hs : sg L k = [91]) : pe L e (d + 1) .at k = lsR L e (pe L e d .ex) (fun p l k => pe L e d (.lsl p l) k) k := by
  simp only [pe]
  rw [if_neg h3, if_neg h4, if_neg h2, if_neg (by rw [hs]; decide), if_neg (by rw [hs]; decide), if_pos hs]
theorem u_num (d k : Nat) (h3 : kd L k = 3) : pe L e (d + 1) .at k = leafR L e 1 k := by
  simp only [pe]
  rw [if_pos h3]
/-- An atom, and behind it what ends an expression. -/
def Stop (s : List UInt8) : Prop := s ≠ [40] ∧ s ≠ [42] ∧ sumK s = 0 ∧ relK s = 0 ∧ s ≠ [58, 61]
theorem pe_sm (d : Nat) {k j : Nat} {a : T} (hs1 : sg L k ≠ [45]) (hs2 : sg L k ≠ [33]) (h : pe L e (d + 1) .at k = .ok (a, j, [])) (h1 : sg L j ≠ [40]) (h2 : sg L j ≠ [42]) (h3 : sumK (sg L j) = 0) : pe L e (d + 5) .sm k = .ok (a, j, []) := by
  have a3 : pe L e (d + 2) .cl k = .ok (a, j, []) := by
    rw [u_cl, bnd_ok _ h]; rw [u_cll, if_neg h1]; rfl
  have a6 : pe L e (d + 4) .tm k = .ok (a, j, []) := by
    rw [u_tm, u_fc, if_neg hs1, if_neg hs2, bnd_ok _ a3]; rw [u_tml, if_neg h2]; rfl
  rw [u_sm, bnd_ok _ a6]; rw [u_sml, if_neg (by simpa using h3)]; rfl
theorem pe_atom (d : Nat) {k j : Nat} {a : T} (hk : ∀ s ∈ ([[45], [33], [102, 110], [114, 101, 99], [108, 101, 116], [105, 102]] : List (List UInt8)), sg L k ≠ s) (h : pe L e (d + 1) .at k = .ok (a, j, [])) (hj : Stop (sg L j)) : pe L e (d + 7) .ex k = .ok (a, j, []) := by
  have a8 := pe_sm d (hk _ (by simp)) (hk _ (by simp)) h hj.1 hj.2.1 hj.2.2.1
  have a9 : pe L e (d + 6) .rk k = .ok (a, j, []) := by
    rw [u_rk, bnd_ok _ a8]; rw [if_neg (by simpa using hj.2.2.2.1)]; rfl
  rw [u_ex, if_neg (hk _ (by simp)), if_neg (hk _ (by simp)), if_neg (hk _ (by simp)), if_neg (hk _ (by simp)), bnd_ok _ a9]
  rw [if_neg hj.2.2.2.2]; rfl
/-- A number ahead of a comma, of a bracket. -/
theorem pe_num (d : Nat) {k : Nat} (h : kd L k = 3) (h2 : sg L (k + 1) = [44] ∨ sg L (k + 1) = [93]) : pe L e (d + 7) .ex k = .ok (leaf L e k, k + 1, []) := by
  have hs := sg_num h
  refine pe_atom d (fun s hm => by rw [hs]; simp at hm; rcases hm with rfl | rfl | rfl | rfl | rfl | rfl <;> decide) ((u_num d k h).trans rfl) ?_
  rcases h2 with x | x <;> rw [x] <;> exact ⟨by decide, by decide, by decide, by decide, by decide⟩
/-- The leaves of a list, from a place on. -/
def leaves (L : List PT) (e : PT) : Nat → Nat → List T
  | 0, _ => []
  | m + 1, k => leaf L e (k + 1) :: leaves L e m (k + 2)
theorem leaves_len : ∀ m k, (leaves L e m k).length = m
  | 0, _ => rfl
  | m + 1, k => by simp [leaves, leaves_len m]
theorem pe_lsl (p : PT) : ∀ (m D k : Nat) (acc : List T), m + 8 ≤ D → (∀ i, i < m → sg L (k + 2 * i) = [44] ∧ kd L (k + 2 * i + 1) = 3) → sg L (k + 2 * m) = [93] →
    pe L e D (.lsl p acc) k = .ok (.nd (mkN 21 (acc.length + m) p) (acc ++ leaves L e m k), k + 2 * m + 1, [])
  | 0, D, k, acc, hD, _, hb => by
    obtain ⟨d, rfl⟩ : ∃ d, D = d + 1 := ⟨D - 1, by omega⟩
    have hb' : sg L k = [93] := hb
    rw [u_lsl, if_neg (by rw [hb']; decide)]
    unfold expc
    rw [if_pos hb']
    simp [bnd, leaves]
  | m + 1, D, k, acc, hD, h, hb => by
    obtain ⟨d, rfl⟩ : ∃ d, D = d + 7 + 1 := ⟨D - 8, by omega⟩
    obtain ⟨c0, c1⟩ := h 0 (by omega)
    simp only [Nat.mul_zero, Nat.add_zero] at c0 c1
    have hn : sg L (k + 1 + 1) = [44] ∨ sg L (k + 1 + 1) = [93] := by
      rcases Nat.eq_zero_or_pos m with rfl | h0
      · exact .inr hb
      · exact .inl (h 1 (by omega)).1
    have ih := pe_lsl p m (d + 7) (k + 2) (acc ++ [leaf L e (k + 1)]) (by omega) (fun i hi => by
      have := h (i + 1) (by omega)
      rw [show k + 2 * (i + 1) = k + 2 + 2 * i by omega] at this
      exact this) (by rw [show k + 2 + 2 * m = k + 2 * (m + 1) by omega]; exact hb)
    rw [u_lsl]
    rw [if_pos c0, bnd_ok _ (pe_num d c1 hn)]
    rw [show k + 1 + 1 = k + 2 from rfl, ih]
    simp only [List.length_append, List.length_cons, List.length_nil, leaves, List.append_assoc, List.cons_append, List.nil_append]
    rw [show acc.length + (0 + 1) + m = acc.length + (m + 1) by omega, show k + 2 + 2 * m + 1 = k + 2 * (m + 1) + 1 by omega]
end
end Ps
end Go.Proofs.YtohjfikjbeafiaaGreatDoor
