/- What the document's end and Looser answer. -/
import Derived.Test.YtgkmoifibcmooaaDoorMat
import Derived.Deep.AppendLies
import Derived.Deep.RegionLaw
namespace Go.Proofs.YtgkmoifibcmooaaDoor
open Go.RowKit
set_option maxRecDepth 100000

set_option maxHeartbeats 1000000 in
theorem rend_any (s : ByteArray) (hs : s.size ≤ 64) (k n : Nat) (hb : Tp.beh (s.data.toList.drop k) 1 = (n, true)) (w : World) :
    Calls Tryd.prog 21 #[.string s, .int .i64 k] w fun e w' => e = .returned (.int .i64 (k + n : Nat)) ∧ w' = w := by
  have HL : Aside (s.data.toList.length = s.size) := str_len s
  have HB : Aside (Tp.beh (s.data.toList.drop k) 1 = (n, true)) := hb
  have HJ : k < s.size := by have := (beh_true hb).1; rw [HL.out] at this; exact this
  clear hb
  go_enter Tryd.func21, Tryd.ntmps21
  go_wp2_with fail
  go_loopg [1, 5] n (fun g t mv wr => ∃ j m : Nat, wr = w ∧ t = .int .i64 j ∧ mv = .int .i64 m ∧ j + g = k + n ∧ m ≤ j + 1 ∧ j ≤ s.size ∧ Aside (Tp.beh (s.data.toList.drop j) m = (g, true)))
  case atStart => exact ⟨k, 1, rfl, rfl, rfl, by omega, by omega, by omega, HB⟩
  case round =>
    obtain ⟨j, m, rfl, rfl, rfl, hjg, hmj, hjs, HS⟩ := hrel
    cases m with
    | zero =>
      have hg : gk = 0 := by have := HS.out; rw [Tp.beh_zero] at this; exact (Prod.mk.inj this).1.symm
      go_wp2_with fail
      go_ret
      exact ⟨ret_int (by omega), rfl⟩
    | succ m =>
      obtain ⟨hj, ha, n', rfl, h2⟩ := beh_true HS.out
      rw [HL.out] at hj
      have hj' : (j : Int) < (s.size : Int) := by omega
      have hBk := str_B s j hj
      have hj0 : (0 : Int) ≤ (j : Int) := by omega
      have had := Tp.ar_bd (Tp.B s.data.toList j)
      have hm0 : (0 : Int) < (((m + 1 : Nat) : Int)) := by omega
      have H2 : Aside (Tp.beh (s.data.toList.drop (j + 1)) (m + (Tp.ar (Tp.B s.data.toList j)).toNat) = (n', true)) := h2
      clear h2
      go_wp2_with (go_at_call 18; refine (arity_any _ _).mono ?_; rintro e w' ⟨rfl, rfl⟩)
      go_roundg n'
      case measure => omega
      case rel => exact ⟨j + 1, m + (Tp.ar (Tp.B s.data.toList j)).toNat, rfl, by go_num, by go_num, by omega, by omega, by omega, H2⟩

namespace Tp
theorem encs_app (a b : List Ty) : encs (a ++ b) = encs a ++ encs b := by simp [encs]
theorem los_app : ∀ (a b : List Ty) (pre post : List UInt8), los pre post (a ++ b) = los pre (encs b ++ post) a ++ los (pre ++ encs a) post b
  | [], b, pre, post => by simp [los, encs]
  | x :: a, b, pre, post => by
    rw [List.cons_append, los, los_app a b, los, encs_app, List.append_assoc, List.append_assoc, encs_cons, List.append_assoc]
/-- Nothing is known below the head. -/
def bareB (x : Ty) : Bool := (hd x != 63) && (encs (kids x)).all (· == 63)
theorem enc_q {a : Ty} (h : (enc a).all (· == 63) = true) : a = .tq := by
  cases a <;> simp [enc] at h ⊢
theorem bare_iff (x : Ty) : bareB x = decide (gr x = enc x) := by
  have key : ∀ a : Ty, (enc a).all (· == 63) = decide (a = .tq) := by
    intro a
    by_cases h : a = .tq
    · subst h; rfl
    · rw [show decide (a = .tq) = false by simpa using h]
      cases e : (enc a).all (· == 63) with
      | false => rfl
      | true => exact absurd (enc_q e) h
  have q : ∀ a : Ty, [(63 : UInt8)] = enc a ↔ a = .tq := fun a => ⟨fun h => (enc_inj (a := .tq) h).symm, fun h => by subst h; rfl⟩
  cases x with
  | ti | tb | tt | tq => rfl
  | tl a =>
    have e : encs (kids (.tl a)) = enc a := by simp [kids, encs]
    have h2 : (gr (.tl a) = enc (.tl a)) ↔ (a = .tq) := by
      rw [← q a]; simp [gr, enc, hd, kids]
    unfold bareB
    rw [e, key]
    simp [h2, hd]
  | tx a =>
    have e : encs (kids (.tx a)) = enc a := by simp [kids, encs]
    have h2 : (gr (.tx a) = enc (.tx a)) ↔ (a = .tq) := by
      rw [← q a]; simp [gr, enc, hd, kids]
    unfold bareB
    rw [e, key]
    simp [h2, hd]
  | tf a b =>
    have e : encs (kids (.tf a b)) = enc a ++ enc b := by simp [kids, encs]
    have h2 : (gr (.tf a b) = enc (.tf a b)) ↔ (a = .tq ∧ b = .tq) := by
      constructor
      · intro h
        have h2 : [(63 : UInt8), 63] = enc a ++ enc b := by simpa [gr, enc, hd, kids, List.replicate] using h
        obtain ⟨h3, h4⟩ := enc_pre .tq a [63] (enc b) h2
        exact ⟨h3.symm, (q b).1 h4⟩
      · rintro ⟨rfl, rfl⟩; rfl
    unfold bareB
    rw [e, List.all_append, key, key]
    simp [h2, hd]
  | tp a b =>
    have e : encs (kids (.tp a b)) = enc a ++ enc b := by simp [kids, encs]
    have h2 : (gr (.tp a b) = enc (.tp a b)) ↔ (a = .tq ∧ b = .tq) := by
      constructor
      · intro h
        have h2 : [(63 : UInt8), 63] = enc a ++ enc b := by simpa [gr, enc, hd, kids, List.replicate] using h
        obtain ⟨h3, h4⟩ := enc_pre .tq a [63] (enc b) h2
        exact ⟨h3.symm, (q b).1 h4⟩
      · rintro ⟨rfl, rfl⟩; rfl
    unfold bareB
    rw [e, List.all_append, key, key]
    simp [h2, hd]
theorem los_ground {x : Ty} (h : gr x = enc x) (pre post : List UInt8) : los pre post (kids x) = [] := by
  have q : ∀ a : Ty, [(63 : UInt8)] = enc a → a = .tq := fun a h => (enc_inj (a := .tq) h).symm
  cases x with
  | ti | tb | tt | tq => rfl
  | tl a | tx a =>
    have := q a (by simpa [gr, enc, hd, kids] using h)
    subst this; rfl
  | tf a b | tp a b =>
    have h2 : [(63 : UInt8), 63] = enc a ++ enc b := by simpa [gr, enc, hd, kids, List.replicate] using h
    obtain ⟨rfl, h3⟩ := enc_pre .tq a [63] (enc b) h2
    have := q b h3
    subst this; rfl
/-- The steps of a forest, one letter on. -/
theorem los_step (x : Ty) (ks : List Ty) (pre : List UInt8) : los pre [] (x :: ks) = (if gr x = enc x then [pre ++ ([63] ++ encs ks)] else []) ++ los (pre ++ [hd x]) [] (kids x ++ ks) := by
  have e : pre ++ [hd x] ++ encs (kids x) = pre ++ enc x := by rw [enc_eq x]; simp
  rw [los, los_app, List.append_nil, e]
  by_cases h : gr x = enc x
  · rw [if_pos h, lo_ground h, los_ground h, List.nil_append]
  · rw [if_neg h, lo_kids h, List.nil_append]
theorem los_one (t : Ty) : los [] [] [t] = (loo t).map enc := by simp [los, lo, encs]
end Tp

set_option maxHeartbeats 1000000 in
theorem rlooser_no (s : ByteArray) (hc : (Tp.chk s.data.toList).1 ≠ 0) (w : World) :
    Calls Tryd.prog 8 #[.string s] w fun e w' => e = .returned (.slice none 0 0) ∧ w' = w := by
  go_enter Tryd.func8, Tryd.ntmps8
  go_wp2_with (go_at_call 16; refine (ris_no _ hc _).mono ?_; rintro e w' ⟨rfl, rfl⟩)
  go_ret
  exact ⟨rfl, rfl⟩

theorem hd_ne63 (x : Tp.Ty) : (((Tp.hd x).toNat : Int) != 63) = (Tp.hd x != 63) := by cases x <;> rfl
theorem at_B {l pre r : List UInt8} {c : UInt8} (h : l = pre ++ c :: r) : Tp.B l pre.length = (c.toNat : Int) := by
  unfold Tp.B; rw [h]; simp
set_option maxHeartbeats 4000000 in
theorem rlooser_yes (t : Tp.Ty) (h64 : (Tp.enc t).length ≤ 64) (w : World) :
    Calls Tryd.prog 8 #[.string (S (Tp.enc t))] w fun e w' => ∃ v, e = .returned v ∧ w'.ownsRow w.heap.size 9 1 v (Tp.loo t).length (tcells ((Tp.loo t).map Tp.enc)) ∧ Below w.heap.size w w' := by
  have hc : (Tp.chk (S (Tp.enc t)).data.toList).1 = 0 := by rw [S_list, Tp.chk_enc t h64]
  have hz := S_size (Tp.enc t)
  have hsl := S_list (Tp.enc t)
  have HS : Aside (S (Tp.enc t) = S (Tp.enc t)) := rfl
  have HR : Aside (∀ w k n, Tp.beh ((Tp.enc t).drop k) 1 = (n, true) → Calls Tryd.prog 21 #[.string (S (Tp.enc t)), .int .i64 k] w fun e w' => e = .returned (.int .i64 (k + n : Nat)) ∧ w' = w) := fun w k n hb => rend_any _ (by rw [S_size]; exact h64) k n (by rw [S_list]; exact hb) w
  have HBy : Aside (∀ (k : Nat) (hk : k < (S (Tp.enc t)).size), (((S (Tp.enc t))[k]'hk).toNat : Int) = Tp.B (Tp.enc t) k) := fun k hk => by have := str_B (S (Tp.enc t)) k hk; rw [S_list] at this; exact this
  have HC : Aside (∀ a b, (S (Tp.enc t)).extract a b = S (((Tp.enc t).drop a).take (b - a))) := fun a b => S_cut _ a b
  obtain ⟨i0, hi, hz0, hz1, hz2⟩ := info_parts info9
  clear hsl HS
  generalize hst : S (Tp.enc t) = s at *
  have hs64 : s.size ≤ 64 := by omega
  have HZ : Aside (s.size = (Tp.enc t).length) := hz
  clear hz hst
  go_enter Tryd.func8, Tryd.ntmps8
  go_wp2_with (go_at_call 16; refine (ris_yes _ hc _).mono ?_; rintro e w' ⟨rfl, hw'⟩; replace hw' := hw'.symm; subst hw')
  go_loopg [3, 4] (Tp.enc t).length (fun g v iv wr => ∃ (pre : List UInt8) (ks : List Tp.Ty) (out : List (List UInt8)), Aside (Tp.enc t = pre ++ Tp.encs ks) ∧ pre.length + g = (Tp.enc t).length ∧ iv = .int .i64 pre.length ∧ wr.ownsRow w.heap.size 9 1 v out.length (tcells out) ∧ out.length ≤ pre.length ∧ Aside (out ++ Tp.los pre [] ks = (Tp.loo t).map Tp.enc) ∧ Below w.heap.size w wr)
  case atStart => exact ⟨[], [t], [], by show _ = _; simp [Tp.encs], by simp, rfl, own_nil _ _ _ _, by simp, by show _ = _; rw [List.nil_append, Tp.los_one], Below.refl _ _⟩
  case round =>
    obtain ⟨pre, ks, out, HE, hpg, rfl, hown, hol, HO, hB⟩ := hrel
    have hBs := hB.size
    obtain ⟨va, vc, rfl⟩ := own_len hown
    obtain ⟨p, hp⟩ : ∃ p, p = pre.length := ⟨_, rfl⟩
    rw [← hp] at hpg hol ⊢
    have HP : Aside (p = pre.length) := hp
    clear hp
    cases ks with
    | nil =>
      have hlt : decide ((p : Int) < (s.size : Int)) = false := by
        have h1 := congrArg List.length HE.out
        rw [List.length_append] at h1
        have h2 := HP.out
        have h3 := HZ.out
        simp [Tp.encs] at h1 ⊢; omega
      have hlt2 : decide (p < s.size) = false := by simpa using hlt
      go_wp2_with fail
      go_ret
      have hO := HO.out
      rw [Tp.los, List.append_nil] at hO
      refine ⟨_, rfl, ?_, hB⟩
      rw [← hO]
      have hlen := congrArg List.length hO
      rw [List.length_map] at hlen
      rw [← hlen]
      exact hown
    | cons x ks =>
      have hE := HE.out
      rw [Tp.encs_cons, Tp.enc_eq x] at hE
      have hxx := Tp.enc_eq x
      have hlx : (Tp.enc x).length = 1 + (Tp.encs (Tp.kids x)).length := by rw [hxx]; simp; omega
      have hlen : (Tp.enc t).length = p + ((Tp.enc x).length + (Tp.encs ks).length) := by rw [HE.out, Tp.encs_cons]; simp [HP.out]
      have hps : p < s.size := by rw [HZ.out, hlen]; omega
      have hlt : (p : Int) < (s.size : Int) := by omega
      have hp0 : (0 : Int) ≤ (p : Int) := by omega
      have hdr : (Tp.enc t).drop p = Tp.enc x ++ Tp.encs ks := by rw [HE.out, Tp.encs_cons, HP.out, List.drop_left' rfl]
      have hend := fun w => HR.out w p (Tp.enc x).length (by rw [hdr, Tp.beh_enc, Tp.beh_zero]; rfl)
      have hByp := HBy.out p hps
      have hat : Tp.B (Tp.enc t) p = ((Tp.hd x).toNat : Int) := by rw [HP.out]; exact at_B (r := Tp.encs (Tp.kids x) ++ Tp.encs ks) (by rw [hE]; simp)
      rw [hat] at hByp
      obtain ⟨n, hn⟩ : ∃ n, n = (Tp.enc x).length := ⟨_, rfl⟩
      rw [← hn] at hlen hend hlx
      have HNX : Aside (n = (Tp.enc x).length) := hn
      have hn1 : 1 ≤ n := by omega
      obtain ⟨pn, hpe⟩ : ∃ pn, pn = p + n := ⟨_, rfl⟩
      have HPN : Aside (pn = p + n) := hpe
      have hpn : pn ≤ s.size := by rw [hpe, HZ.out, hlen]; omega
      have hpn1 : p + 1 ≤ pn := by omega
      rw [← hpe] at hend
      have HLX : Aside (n = 1 + (Tp.encs (Tp.kids x)).length) := hlx
      have HLE : Aside ((Tp.enc t).length = p + (n + (Tp.encs ks).length)) := hlen
      have HIN : Aside (∀ (k : Nat) (hk : k < s.size), p + 1 ≤ k → k < pn → ((s[k]'hk).toNat : Int) = (((Tp.encs (Tp.kids x))[k - (p + 1)]?.getD 0).toNat : Int)) := by
        intro k hk h1 h2
        rw [HBy.out k hk]
        unfold Tp.B
        have : (Tp.enc t)[k]? = (Tp.encs (Tp.kids x))[k - (p + 1)]? := by
          rw [hE, List.getElem?_append_right (by rw [← HP.out]; omega), ← HP.out, List.cons_append, show k - p = (k - (p + 1)) + 1 by omega, List.getElem?_cons_succ, List.getElem?_append_left (by omega)]
        rw [this]
      clear hn hE hxx hdr hat hlx hlen hpe hn1
      go_wp2_with (go_at_call 21; refine (hend _).mono ?_; rintro e w' ⟨rfl, hw'⟩; replace hw' := hw'.symm; subst hw')
      go_loopg [6, 7] (pn - p - 1) (fun g bv kv wr' => wr' = wr ∧ ∃ j : Nat, j + g = pn - p - 1 ∧ kv = .int .i64 ((p + 1 + j : Nat) : Int) ∧ bv = .bool ((Tp.hd x != 63) && ((Tp.encs (Tp.kids x)).take j).all (· == 63)))
      case atStart => exact ⟨rfl, 0, by omega, by go_num, by simp; exact hd_ne63 x⟩
      case round =>
        obtain ⟨rfl, j, hjg, rfl, rfl⟩ := hrel
        obtain ⟨q, hq⟩ : ∃ q, q = p + 1 + j := ⟨_, rfl⟩
        rw [← hq]
        have HQ : Aside (q = p + 1 + j) := hq
        have hq0 : (0 : Int) ≤ (q : Int) := by omega
        by_cases hj : j < pn - p - 1
        · have hqn : (q : Int) < (pn : Int) := by omega
          have hqn2 : q < pn := by omega
          have hqs : q < s.size := by omega
          have hqs' : (q : Int) < (s.size : Int) := by omega
          have hjl : j < (Tp.encs (Tp.kids x)).length := by have := HLX.out; have := HPN.out; omega
          have hby := HIN.out q hqs (by omega) (by omega)
          rw [show q - (p + 1) = j by omega, List.getElem?_eq_getElem hjl, Option.getD_some] at hby
          have htk : ((Tp.encs (Tp.kids x)).take (j + 1)).all (· == 63) = (((Tp.encs (Tp.kids x)).take j).all (· == 63) && ((Tp.encs (Tp.kids x))[j] == 63)) := by
            rw [List.take_succ_eq_append_getElem hjl, List.all_append]; simp
          have HT : Aside (((Tp.hd x != 63) && ((Tp.encs (Tp.kids x)).take (j + 1)).all (· == 63)) = (((Tp.hd x != 63) && ((Tp.encs (Tp.kids x)).take j).all (· == 63)) && ((Tp.encs (Tp.kids x))[j] == 63))) := by
            show _ = _
            rw [htk, Bool.and_assoc]
          generalize (Tp.encs (Tp.kids x))[j] = c at *
          have hc63 : (((c.toNat : Int)) == 63) = (c == 63) := by
            rw [Bool.eq_iff_iff]
            simp only [beq_iff_eq]
            constructor
            · intro h; exact UInt8.toNat_inj.1 (by have : (63 : UInt8).toNat = 63 := rfl; omega)
            · rintro rfl; rfl
          clear hq htk hjl
          generalize hbb : ((Tp.hd x != 63) && ((Tp.encs (Tp.kids x)).take j).all (· == 63)) = bb at *
          cases bb with
          | true =>
            go_wp2_with fail
            go_roundg (gk - 1)
            case measure => omega
            case rel => exact ⟨rfl, j + 1, by omega, by have hqq := HQ.out; rw [show p + 1 + (j + 1) = q + 1 by omega]; go_num, by rw [HT.out]; rfl⟩
          | false =>
            go_wp2_with fail
            go_roundg (gk - 1)
            case measure => omega
            case rel => exact ⟨rfl, j + 1, by omega, by have hqq := HQ.out; rw [show p + 1 + (j + 1) = q + 1 by omega]; go_num, by rw [HT.out]; rfl⟩
        · have hqn : decide ((q : Int) < (pn : Int)) = false := by simp; omega
          have hqn2 : decide (q < pn) = false := by simp; omega
          have hbare : ((Tp.hd x != 63) && ((Tp.encs (Tp.kids x)).take j).all (· == 63)) = decide (Tp.gr x = Tp.enc x) := by
            rw [List.take_of_length_le (by have := HLX.out; have := HPN.out; omega)]; exact Tp.bare_iff x
          have hstep := Tp.los_step x ks pre
          have hE2 : Tp.enc t = (pre ++ [Tp.hd x]) ++ Tp.encs (Tp.kids x ++ ks) := by
            rw [HE.out, Tp.encs_cons, Tp.enc_eq x, Tp.encs_app]; simp
          have hO := HO.out
          rw [hbare]
          by_cases hg : Tp.gr x = Tp.enc x
          · rw [show decide (Tp.gr x = Tp.enc x) = true by simpa using hg]
            rw [if_pos hg] at hstep
            have x1 : s.extract 0 p = S pre := by
              rw [HC.out, List.drop_zero, Nat.sub_zero, HE.out, HP.out, List.take_left' rfl]
            have x2 : s.extract pn s.size = S (Tp.encs ks) := by
              rw [HC.out, HPN.out, HE.out, Tp.encs_cons, ← List.append_assoc, List.drop_left' (by rw [List.length_append, ← HP.out, HNX.out]), List.take_of_length_le (by rw [HZ.out, HLE.out]; omega)]
            have x3 : S pre ++ (⟨#[63]⟩ : ByteArray) = S (pre ++ [63]) := S_add pre [63]
            have x4 : S (pre ++ [63]) ++ S (Tp.encs ks) = S (pre ++ ([63] ++ Tp.encs ks)) := by rw [S_add, List.append_assoc]
            have y1 : (S pre).size ≤ 64 := by rw [S_size, ← HP.out]; omega
            have y2 : (S (pre ++ [63])).size ≤ 65 := by rw [S_size, List.length_append, ← HP.out]; simp; omega
            have y3 : (S (Tp.encs ks)).size ≤ 64 := by rw [S_size]; have := HLE.out; omega
            have hps' : (p : Int) ≤ (s.size : Int) := by omega
            have hpn' : (pn : Int) ≤ (s.size : Int) := by omega
            have HST : Aside (Tp.los pre [] (x :: ks) = [pre ++ ([63] ++ Tp.encs ks)] ++ Tp.los (pre ++ [Tp.hd x]) [] (Tp.kids x ++ ks)) := hstep
            have HE3 : Aside (Tp.enc t = (pre ++ [Tp.hd x]) ++ Tp.encs (Tp.kids x ++ ks)) := hE2
            clear hq hstep hE2 hbare hO
            generalize hr : S (pre ++ ([63] ++ Tp.encs ks)) = r at *
            generalize S (pre ++ [63]) = r1 at *
            generalize S pre = r0 at *
            generalize S (Tp.encs ks) = r2 at *
            have k1 : ¬ 9223372036854775807 < r0.size + 1 := by omega
            have k2 : ¬ 9223372036854775807 < r1.size + r2.size := by omega
            go_wp2_with fail
            go_region_law ((refine step_append_lies _ (by rfl) _ _ _ (by rfl) w.heap.size 9 i0 (.string ⟨#[]⟩) 1 16 ty23 hi hz0 hz1 hz2 rfl (by decide) (.slice va out.length vc) _ _ (by rfl) (World.ownsRow.alloc (w := wr.drew) hown _) ⟨wr.heap.size, 0, none⟩ 1 1 [.string r] (by rfl) rfl (cells_list_new wr.drew [.string r] 9) (fun u hu => by simp at hu; subst hu; rfl) (by omega) (by unfold maxLen; omega) (by omega) (by simp; omega) (wr.heap.size + 1) (by simp) ?_; intro g2 cap2 w2 hown2 hg2 hat hlt))
            all_goals
              go_wp2_with fail
              go_roundg ((Tp.enc t).length - (p + 1))
              case measure => have := HLE.out; have := HPN.out; omega
              case rel =>
                refine ⟨pre ++ [Tp.hd x], Tp.kids x ++ ks, out ++ [pre ++ ([63] ++ Tp.encs ks)], HE3.out, ?_, ?_, ?_, ?_, ?_, ?_⟩
                · rw [List.length_append, ← HP.out]; have := HLE.out; have := HPN.out; simp; omega
                · rw [List.length_append, ← HP.out]; simp
                · rw [tcells_append, List.length_append]
                  have : tcells [pre ++ ([63] ++ Tp.encs ks)] = [.string r] := by rw [← hr]; rfl
                  rw [this]
                  exact hown2
                · rw [List.length_append, List.length_append, ← HP.out]; simp; omega
                · show _ = _
                  rw [List.append_assoc, ← HST.out]; exact HO.out
                · exact hB.drew.grown (grownBy_alloc_pre hg2) hBs (fun x e => (hown.lt x e).1)
          · rw [show decide (Tp.gr x = Tp.enc x) = false by simpa using hg]
            rw [if_neg hg, List.nil_append] at hstep
            rw [hstep] at hO
            clear hq hbare
            go_wp2_with fail
            go_roundg ((Tp.enc t).length - (p + 1))
            case measure => have := HLE.out; have := HPN.out; omega
            case rel =>
              refine ⟨pre ++ [Tp.hd x], Tp.kids x ++ ks, out, hE2, ?_, ?_, hown, ?_, hO, hB⟩
              · rw [List.length_append, ← HP.out]; have := HLE.out; have := HPN.out; simp; omega
              · rw [List.length_append, ← HP.out]; simp
              · rw [List.length_append, ← HP.out]; simp; omega
end Go.Proofs.YtgkmoifibcmooaaDoor
