/- CheckParts: its helpers; parts, plain. -/
import Derived.Test.YthihnkgjkmaplaaDoorWaa
import Derived.Test.YthihnkgjkmaplaaDoorWab
namespace Go.Proofs.YthihnkgjkmaplaaDoor
open Go.RowKit Ck
open T3.Tp (Ty enc cns met)
open Tr (flat wf)
set_option maxRecDepth 100000
set_option linter.unusedSimpArgs false

theorem IsNodes.cut {w : World} {b o n c : Nat} {l : List Tr.Nd} (h : IsNodes w (.slice (some ⟨b, o, none⟩) n c) l) {i j : Nat} (hij : i < j) (hj : j ≤ l.length) :
    IsNodes w (.slice (some ⟨b, o + i * 8, none⟩) (j - i) (c - i)) ((l.drop i).take (j - i)) ∧ ((l.drop i).take (j - i)).length = j - i := by
  have hlen : ((l.drop i).take (j - i)).length = j - i := by simp; omega
  refine ⟨.inr ⟨b, o + i * 8, c - i, by rw [hlen], ?_, ?_, fun k x hk q u hu => ?_⟩, hlen⟩
  · rcases h with ⟨rfl, _⟩ | ⟨b', o', c', e, h1, _⟩
    · simp at hj; omega
    · cases e; rw [hlen]; omega
  · rcases h with ⟨rfl, _⟩ | ⟨b', o', c', e, h1, h2, _⟩
    · simp at hj; omega
    · cases e; exact h2
  · have hkj : k < j - i := by have := (List.getElem?_eq_some_iff.1 hk).1; omega
    rw [List.getElem?_take, if_pos hkj, List.getElem?_drop] at hk
    obtain ⟨b', o', e, _, _, hc⟩ := h.at hk
    cases e
    have := hc q u hu
    rw [show o + (i + k) * 8 + q = o + i * 8 + k * 8 + q by omega] at this
    exact this
theorem getT {a : List (List UInt8)} {k : Nat} (h : k < a.length) : ∃ x, a[k]? = some x := ⟨a[k], List.getElem?_eq_getElem h⟩

set_option maxHeartbeats 4000000 in
theorem eqTexts_same (l : List (List UInt8)) (hlen : l.length ≤ 2199023255552) (va vb : Value) (w : World) (hla : IsTexts w va l) (hlb : IsTexts w vb l) :
    Calls Tryd.prog 15 #[va, vb] w fun e w' => e = .returned (.bool true) ∧ ∃ n, w' = w.drewN n := by
  obtain ⟨a, c, rfl⟩ := hla.form
  obtain ⟨a2, c2, rfl⟩ := hlb.form
  have hne : ((l.length : Int) != (l.length : Int)) = false := by simp
  go_enter Tryd.func15, Tryd.ntmps15
  go_wp2_with fail
  clear hne
  go_loopg [5] l.length (fun g t wr => ∃ k n : Nat, k + g = l.length ∧ t = .int .i64 (k : Int) ∧ wr = w.drewN n)
  case atStart => exact ⟨0, 0, by omega, rfl, rfl⟩
  case round =>
    obtain ⟨k, n, hkg, rfl, rfl⟩ := hrel
    by_cases hk : k < l.length
    · have hk' : (k : Int) < (l.length : Int) := by omega
      have hk0 : (0 : Int) ≤ (k : Int) := by omega
      obtain ⟨x, hx⟩ := getT hk
      obtain ⟨b1, o1, rfl, hc1, hl1, p0⟩ := hla.at hx
      obtain ⟨b2, o2, rfl, hc2, hl2, q0⟩ := hlb.at hx
      clear hx hla hlb
      go_wp2_with fail
      go_quiet (fail)
      go_wp2_with fail
      go_roundg (l.length - (k + 1))
      case measure => omega
      case rel => exact ⟨k + 1, _, by omega, by go_num, by first | rfl | exact World.drewN_drewN⟩
    · have hk' : ¬ (k : Int) < (l.length : Int) := by omega
      go_wp2_with fail
      go_ret
      exact ⟨rfl, n, rfl⟩

set_option maxHeartbeats 2000000 in
theorem copyNodes_any (l : List Tr.Nd) (hp : 0 < l.length) (hlen : l.length ≤ 5000) (v : Value) (w : World) (hl : IsNodes w v l) :
    Calls Tryd.prog 13 #[v] w fun e w' => ∃ a c, e = .returned (.slice a l.length c) ∧ IsNodes w' (.slice a l.length c) l ∧ Low (.slice a l.length c) w'.heap.size ∧ Below w.heap.size w w' := by
  obtain ⟨i0, hi, hz0, hz1, hz2⟩ := info_parts infoN
  rcases hl with ⟨rfl, _⟩ | ⟨b, o, c, rfl, hc, hb, hcell⟩
  · simp at hp
  have hnews := nodes_news (w := w) (b := b) (o := o) (c := c) (l := l) (.inr ⟨b, o, c, rfl, hc, hb, hcell⟩)
  clear hcell
  go_enter Tryd.func13, Tryd.ntmps13
  go_wp2_with (at_builtin; go_must (refine wpList_append_own _ rfl _ _ 22 rfl w.heap.size 45 i0 _ 8 88 tyNodes hi hz0 hz1 hz2 rfl (by decide) (.slice none 0 0) _ _ rfl (own_nil _ _ _ _) ⟨b, o, none⟩ l.length c (nrow l) rfl (nrow_len l) hnews (nrow_one l) (by unfold maxLen; omega) (by omega) (Nat.le_refl _) ?_); intro v3 w3 hown3 hg3 _)
  simp only [Nat.zero_add, List.nil_append] at hown3
  obtain ⟨a3, c3, rfl⟩ := own_len hown3
  go_ret
  refine ⟨a3, c3, rfl, IsNodes.own hown3, fun b o n c h => ?_, ⟨hg3.os, hg3.tape, hg3.output, hg3.size, fun k hk => hg3.block k hk (by simp [Value.ownBlock])⟩⟩
  have hb2 : (Value.slice a3 l.length c3).ownBlock = some b := by rw [h]; rfl
  exact (hown3.lt b hb2).2


theorem txs_cut {w : World} {b o n c : Nat} {l : List (List UInt8)} (h : IsTexts w (.slice (some ⟨b, o, none⟩) n c) l) {i j : Nat} (hij : i < j) (hj : j ≤ l.length) :
    IsTexts w (.slice (some ⟨b, o + i, none⟩) (j - i) (c - i)) ((l.drop i).take (j - i)) := by
  have hlen : ((l.drop i).take (j - i)).length = j - i := by simp; omega
  refine .inr ⟨b, o + i, c - i, by rw [hlen], ?_, ?_, fun k x hk => ?_⟩
  · rcases h with ⟨rfl, _⟩ | ⟨b', o', c', e, h1, _⟩
    · simp at hj; omega
    · cases e; rw [hlen]; omega
  · rcases h with ⟨rfl, _⟩ | ⟨b', o', c', e, h1, h2, _⟩
    · simp at hj; omega
    · cases e; exact h2
  · have hkj : k < j - i := by have := (List.getElem?_eq_some_iff.1 hk).1; omega
    rw [List.getElem?_take, if_pos hkj, List.getElem?_drop] at hk
    obtain ⟨b', o', e, _, _, hc⟩ := h.at hk
    cases e
    rw [show o + i + k = o + (i + k) by omega]
    exact hc

theorem freeN_one {t : Tr.T} (hw : Tr.wf t) (hc : (chkN (Tr.flat t)).1 = 0) {ns : List (List UInt8)} (h : freeN (Tr.flat t) ns) : ns = Tr.free t := by
  rcases h with ⟨h, _⟩ | ⟨t', _, hw', e, rfl⟩
  · exact absurd hc h
  · rw [tree_one hw hw' e]

/-- What is known of the part at a place of a tree that is taken. -/
theorem part_known {l : List Tr.Nd} {t : Tr.T} {env : Env} {a : List Ty} (hc : (chkN l).1 = 0) (hw : wf t) (hl : l = flat t) (hk : ckT env t 0 = .ok a) {p : Nat} (hp : p < l.length) :
    ∃ (u : Tr.T) (e : Nat), bhI l p = e ∧ p < e ∧ e ≤ l.length ∧ (l.drop p).take (e - p) = flat u ∧ wf u ∧ (chkN (flat u)).1 = 0 ∧ (Tr.free u = [] → ckT (envOf [] []) u 0 = .ok ((a.drop p).take (e - p))) := by
  obtain ⟨x, ks, e, P⟩ := part_at hc hp
  obtain ⟨u, rest, f, h1, h2, h3⟩ := Ck.part_T t env 0 a p hw hk (by rw [← hl]; exact hp)
  have hwu : wf (.nd x ks) := ⟨P.kids, P.wfk⟩
  have hfl : (flat (.nd x ks)).length = e - p := by
    rw [← P.all]; have := P.lt; have := P.le; simp; omega
  have hd : l.drop p = flat (.nd x ks) ++ (l.drop p).drop (e - p) := by rw [← P.all, List.take_append_drop]
  have hu : u = .nd x ks := by
    have hd2 : flat u ++ rest = flat (.nd x ks) ++ (l.drop p).drop (e - p) := by rw [← h1, ← hl, ← hd]
    exact (Tr.flat_inj u (.nd x ks) _ _ h2 hwu hd2).1
  subst hu
  refine ⟨.nd x ks, e, P.fin, P.lt, P.le, P.all, hwu, by rw [P.chk], fun hfr => ?_⟩
  rw [hfl] at h3
  exact Ck.closed (Ck.nv_free hfr) h3

theorem Ex.zero {l : List Tr.Nd} {N Th : List (List UInt8)} {r : List (List UInt8)} {at' : Int} (hx : Ex l N Th r 0 at') : ∃ (ts : List Ty) (t : Tr.T) (a : List Ty), (chkN l).1 = 0 ∧ wf t ∧ l = flat t ∧ ckT (envOf N ts) t 0 = .ok a ∧ (∀ u ∈ a, (enc u).length ≤ 64) ∧ a.length = l.length ∧ r = a.map enc ∧ N.length = ts.length ∧ Th = ts.map enc ∧ envB N Th = true := by
  generalize hz : (0 : Int) = z at hx
  cases hx with
  | arg h => omega
  | tree h h1 => omega
  | bad h h1 ts t h2 h3 h4 h5 q h6 h7 => exact absurd hz.symm h7
  | good h h1 ts t h2 h3 h4 h5 a h6 h7 h8 => exact ⟨ts, t, a, h1, h4, h5, h6, h7, h8, rfl, h2, h3, h⟩

/-- More than a statement checks. -/
def longB (l : List Tr.Nd) (N Th : List (List UInt8)) : Bool := decide (400 < l.length) || decide (100 < N.length) || decide (100 < Th.length)
set_option maxHeartbeats 2000000 in
theorem long_any (l : List Tr.Nd) (N Th : List (List UInt8)) (aL aN aT : Option Addr) (cL cN cT : Nat) (w : World) :
    Calls Tryd.prog 7 #[.agg #[.slice aL l.length cL, .slice aN N.length cN, .slice aT Th.length cT]] w fun e w' => e = .returned (.bool (longB l N Th)) ∧ Below w.heap.size w w' := by
  have HB : ∀ o : Obj, Below w.heap.size w (w.alloc o) := fun o => (Below.refl _ _).alloc (Nat.le_refl _) _
  by_cases h1 : 400 < l.length
  · have h1' : (400 : Int) < (l.length : Int) := by omega
    go_enter Tryd.func7, Tryd.ntmps7
    go_wp2_with fail
    go_ret
    exact ⟨ret_bool (by unfold longB; simp [h1]), HB _⟩
  · have h1' : ¬ (400 : Int) < (l.length : Int) := by omega
    by_cases h2 : 100 < N.length
    · have h2' : (100 : Int) < (N.length : Int) := by omega
      go_enter Tryd.func7, Tryd.ntmps7
      go_wp2_with fail
      go_ret
      exact ⟨ret_bool (by unfold longB; simp [h2]), HB _⟩
    · have h2' : ¬ (100 : Int) < (N.length : Int) := by omega
      go_enter Tryd.func7, Tryd.ntmps7
      go_wp2_with fail
      go_ret
      refine ⟨ret_bool ?_, HB _⟩
      unfold longB
      rw [Bool.eq_iff_iff]
      simp
      omega
theorem long_no {l : List Tr.Nd} {N Th : List (List UInt8)} (h : longB l N Th = false) : l.length ≤ 400 ∧ N.length ≤ 100 ∧ Th.length ≤ 100 := by
  unfold longB at h
  simp at h
  omega
end Go.Proofs.YthihnkgjkmaplaaDoor
