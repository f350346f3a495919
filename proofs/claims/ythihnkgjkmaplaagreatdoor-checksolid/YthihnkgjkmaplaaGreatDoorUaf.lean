/- What the document's Meet answers of two types (layer 8's own). What Match answers, the program's and the document's. What the document's Match and Note answer (layer 8's own). -/
import Derived.Test.YthihnkgjkmaplaaGreatDoorUae
import Derived.Test.YthihnkgjkmaplaaGreatDoorUad
import Derived.BigQuiet
namespace Go.Proofs.YthihnkgjkmaplaaGreatDoor.T3
open Go.RowKit
set_option maxRecDepth 100000
set_option linter.unusedSimpArgs false

theorem S_add (a b : List UInt8) : S a ++ S b = S (a ++ b) := by apply ByteArray.ext; simp [S]

namespace Tp
theorem met_len : ∀ {a b : Ty}, cns a b = true → (enc (met a b)).length ≤ (enc a).length + (enc b).length := by
  intro a
  induction a with
  | ti | tb | tt | tq => intro b h; cases b <;> simp [cns, met, enc] at h ⊢
  | tl a ih | tx a ih => intro b h; cases b <;> simp [cns, met, enc] at h ⊢; have := ih h; omega
  | tf a c iha ihc | tp a c iha ihc => intro b h; cases b <;> simp [cns, met, enc] at h ⊢; have := iha h.1; have := ihc h.2; omega
theorem encs_take {L : List Ty} {k : Nat} {m : Ty} (h : L[k]? = some m) : encs (L.take (k + 1)) = encs (L.take k) ++ enc m := by
  rw [List.take_add_one, h]; simp [encs]
theorem encs_bound {L : List Ty} (hL : ∀ u ∈ L, (enc u).length ≤ 128) (h2 : L.length ≤ 2) (k : Nat) : (encs (L.take k)).length ≤ 256 := by
  match L, h2 with
  | [], _ => simp [encs]
  | [x], _ =>
    have := hL x (by simp)
    cases k <;> simp [encs] <;> omega
  | [x, y], _ =>
    have := hL x (by simp)
    have := hL y (by simp)
    match k with
    | 0 => simp [encs]
    | 1 => simp [encs]; omega
    | _ + 2 => simp [encs]; omega
end Tp

set_option maxHeartbeats 4000000 in
theorem kmeet_yes (n : Nat) : ∀ (a b : Tp.Ty) (w : World), Tp.cns a b = true → (Tp.enc a).length ≤ n → (Tp.enc a).length ≤ 64 → (Tp.enc b).length ≤ 64 →
    Calls Tryz.prog 136 #[.string (S (Tp.enc a)), .string (S (Tp.enc b))] w fun e w' => e = .returned (.string (S (Tp.enc (Tp.met a b)))) ∧ Below w.heap.size w w' := by
  induction n with
  | zero => intro a b w hD h; have := Tp.enc_pos a; omega
  | succ n ih =>
    intro a b w hD hn ha hb
    obtain ⟨hpa, hha⟩ := S_head a
    obtain ⟨hpb, hhb⟩ := S_head b
    have hpa' : (0 : Int) < ((S (Tp.enc a)).size : Int) := by omega
    have hpb' : (0 : Int) < ((S (Tp.enc b)).size : Int) := by omega
    have hpa1 : (1 : Int) ≤ ((S (Tp.enc a)).size : Int) := by omega
    have hha' := hha hpa
    have hhb' := hhb hpb
    clear hha hhb
    have q1 := Tp.isq_S a
    have q2 := Tp.isq_S b
    have p1 := kparts_yes a ha
    have p2 := kparts_yes b hb
    have hkl := Tp.kid_len a
    have hklb := Tp.kid_len b
    have hcut : (S (Tp.enc a)).extract 0 1 = S [Tp.hd a] := by rw [S_cut, Tp.enc_eq]; simp
    cases hqa : Tp.isq a with
    | true =>
      rw [hqa] at q1
      have HM : Tp.met a b = b := by cases a <;> simp [Tp.isq] at hqa; cases b <;> rfl
      rw [HM]
      clear p1 p2 ih
      generalize S (Tp.enc a) = s at *
      generalize S (Tp.enc b) = t at *
      go_enter Tryz.func136, Tryz.ntmps136
      go_wp2_with fail
      go_ret
      exact ⟨rfl, Below.refl _ _⟩
    | false =>
      rw [hqa] at q1
      cases hqb : Tp.isq b with
      | true =>
        rw [hqb] at q2
        have HM : Tp.met a b = a := by cases b <;> simp [Tp.isq] at hqb; cases a <;> rfl
        rw [HM]
        clear p1 p2 ih
        generalize S (Tp.enc a) = s at *
        generalize S (Tp.enc b) = t at *
        go_enter Tryz.func136, Tryz.ntmps136
        go_wp2_with fail
        go_ret
        exact ⟨rfl, Below.refl _ _⟩
      | false =>
        rw [hqb] at q2
        have hsb : (fun a b => Tp.isq a || Tp.isq b) a b = false := by simp [hqa, hqb]
        obtain ⟨hh, hhM⟩ := merges_meet.head a b hD hsb
        have HL : Aside ((Tp.kids a).length = (Tp.kids b).length) := Tp.hd_kids hh
        have HK : Aside (Tp.kids (Tp.met a b) = List.zipWith Tp.met (Tp.kids a) (Tp.kids b)) := merges_meet.kids a b hD hsb
        have HD := merges_meet.down a b hD hsb
        have HE : Aside (Tp.enc (Tp.met a b) = Tp.hd a :: Tp.encs (List.zipWith Tp.met (Tp.kids a) (Tp.kids b))) := by show _ = _; rw [Tp.enc_eq, hhM, HK.out]
        have hk2 : (Tp.kids a).length ≤ 2 := by cases a <;> simp [Tp.kids]
        have hzl : Aside ((List.zipWith Tp.met (Tp.kids a) (Tp.kids b)).length = (Tp.kids a).length) := by show _ = _; rw [List.length_zipWith, ← HL.out]; simp
        have HB : Aside (∀ u ∈ List.zipWith Tp.met (Tp.kids a) (Tp.kids b), (Tp.enc u).length ≤ 128) := by
          intro u hu
          obtain ⟨k, hk⟩ := List.getElem?_of_mem hu
          rw [List.getElem?_zipWith] at hk
          cases hx : (Tp.kids a)[k]? with
          | none => rw [hx] at hk; simp at hk
          | some x =>
            cases hy : (Tp.kids b)[k]? with
            | none => rw [hx, hy] at hk; simp at hk
            | some y =>
              rw [hx, hy] at hk
              obtain rfl : Tp.met x y = u := by simpa using hk
              have m1 := hkl x (List.mem_of_getElem? hx)
              have m2 := hklb y (List.mem_of_getElem? hy)
              have m3 := Tp.met_len (HD k x y hx hy)
              omega
        clear hh hhM hsb
        generalize hsa : S (Tp.enc a) = s at *
        generalize hsb : S (Tp.enc b) = t at *
        go_enter Tryz.func136, Tryz.ntmps136
        go_wp2_with fail
        go_wp2_with (first | (go_at_call_of 154 s; refine (p1 _).mono ?_; rintro e w1 ⟨v1, rfl, O1, B1⟩; obtain ⟨a1, c1, rfl⟩ := own_len O1) | (go_at_call_of 154 t; refine (p2 _).mono ?_; rintro e w2 ⟨v2, rfl, O2, B2⟩; obtain ⟨a2, c2, rfl⟩ := own_len O2))
        have T1 : IsTexts w2 (.slice a1 (Tp.kids a).length c1) ((Tp.kids a).map Tp.enc) := (own_at O1 (by simp)).below B2
        have T2 := own_at O2 (by simp)
        have hB0 : Below w.heap.size w w2 := by
          have B1' : Below w.heap.size w w1 := ⟨B1.os, B1.tape, B1.output, B1.size, B1.block⟩
          exact B1'.trans (B2.mono B1'.size)
        clear O1 O2 B1 B2 p1 p2
        go_loopg [5, 8] (Tp.kids a).length (fun g o t wr => ∃ k : Nat, k + g = (Tp.kids a).length ∧ t = .int .i64 k ∧ o = .string (S (Tp.hd a :: Tp.encs ((List.zipWith Tp.met (Tp.kids a) (Tp.kids b)).take k))) ∧ Below w2.heap.size w2 wr)
        case atStart => exact ⟨0, by omega, rfl, by simp [Tp.encs], Below.refl _ _⟩
        case round =>
          obtain ⟨k, hkg, rfl, rfl, hB⟩ := hrel
          have T1r := T1.below hB
          have T2r := T2.below hB
          have hBw : Below w.heap.size w wr := hB0.trans (hB.mono hB0.size)
          by_cases hk : k < (Tp.kids a).length
          · have hk' : (k : Int) < ((Tp.kids a).length : Int) := by omega
            have hk0 : (0 : Int) ≤ (k : Int) := by omega
            have hkb : k < (Tp.kids b).length := by rw [← HL.out]; exact hk
            have hkb' : (k : Int) < ((Tp.kids b).length : Int) := by omega
            have ga := List.getElem?_eq_getElem hk
            have gb := List.getElem?_eq_getElem hkb
            have ma := hkl _ (List.getElem_mem hk)
            have mb := hklb _ (List.getElem_mem hkb)
            generalize (Tp.kids a)[k] = x at *
            generalize (Tp.kids b)[k] = y at *
            obtain ⟨b1, o1, rfl, hc1, hl1, hcx⟩ := T1r.at (k := k) (p := Tp.enc x) (by rw [List.getElem?_map, ga]; rfl)
            obtain ⟨b2, o2, rfl, hc2, hl2, hcy⟩ := T2r.at (k := k) (p := Tp.enc y) (by rw [List.getElem?_map, gb]; rfl)
            have hrec := fun w => ih x y w (HD k x y ga gb) (by omega) (by omega) (by omega)
            have gz : (List.zipWith Tp.met (Tp.kids a) (Tp.kids b))[k]? = some (Tp.met x y) := zip_at ga gb
            have e1 : S (Tp.hd a :: Tp.encs ((List.zipWith Tp.met (Tp.kids a) (Tp.kids b)).take k)) ++ S (Tp.enc (Tp.met x y)) = S (Tp.hd a :: Tp.encs ((List.zipWith Tp.met (Tp.kids a) (Tp.kids b)).take (k + 1))) := by
              rw [S_add, Tp.encs_take gz]; rfl
            have z1 : (S (Tp.hd a :: Tp.encs ((List.zipWith Tp.met (Tp.kids a) (Tp.kids b)).take k))).size ≤ 257 := by
              rw [S_size]
              have := Tp.encs_bound HB.out (by rw [hzl.out]; exact hk2) k
              simp; omega
            have z2 : (S (Tp.enc (Tp.met x y))).size ≤ 128 := by rw [S_size]; exact HB.out _ (List.mem_of_getElem? gz)
            clear ga gb gz ih HD
            generalize hsx : S (Tp.enc x) = sx at *
            generalize hsy : S (Tp.enc y) = sy at *
            generalize hsz : S (Tp.enc (Tp.met x y)) = sz at *
            generalize ho : S (Tp.hd a :: Tp.encs ((List.zipWith Tp.met (Tp.kids a) (Tp.kids b)).take k)) = o at *
            generalize ho1 : S (Tp.hd a :: Tp.encs ((List.zipWith Tp.met (Tp.kids a) (Tp.kids b)).take (k + 1))) = o' at *
            go_wp2_with fail
            go_region_with (go_at_call 136; refine (hrec _).mono ?_; rintro e w3 ⟨rfl, hB3⟩)
            all_goals
              go_wp2_with fail
              go_roundg (gk - 1)
              case measure => omega
              case rel => exact ⟨k + 1, by omega, by go_num, by rw [ho1], hB.drew.trans (hB3.mono hB.size)⟩
          · have hk' : decide ((k : Int) < ((Tp.kids a).length : Int)) = false := by simp; omega
            obtain rfl : k = (Tp.kids a).length := by omega
            rw [← hzl.out, List.take_length, hzl.out]
            rw [← HE.out]
            generalize hoo : S (Tp.enc (Tp.met a b)) = oo at *
            go_wp2_with fail
            go_ret
            refine ⟨?_, hBw⟩
            rw [hoo]
            rfl



end Go.Proofs.YthihnkgjkmaplaaGreatDoor.T3
namespace Go.Proofs.YthihnkgjkmaplaaGreatDoor.T3
open Go.RowKit
set_option maxRecDepth 100000
set_option linter.unusedSimpArgs false

/-- P3.3: the parts, and whether it matches. -/
def mtL (t : Tp.Ty) (h : Int) : List (List UInt8) := if ((Tp.hd t).toNat : Int) = h then (Tp.kids t).map Tp.enc else if t = .tq then List.replicate (Tp.ar h).toNat [63] else []
def mtB (t : Tp.Ty) (h : Int) : Bool := decide (((Tp.hd t).toNat : Int) = h) || (decide (t = .tq) && decide (1 ≤ Tp.ar h))
theorem mt_same {t : Tp.Ty} {h : Int} (e : ((Tp.hd t).toNat : Int) = h) : mtL t h = (Tp.kids t).map Tp.enc ∧ mtB t h = true := by simp [mtL, mtB, e]
theorem mt_else {t : Tp.Ty} {h : Int} (e : ((Tp.hd t).toNat : Int) ≠ h) (q : t ≠ .tq) : mtL t h = [] ∧ mtB t h = false := by simp [mtL, mtB, e, q]
theorem mt_q {h : Int} (e : (63 : Int) ≠ h) : mtL .tq h = List.replicate (Tp.ar h).toNat [63] ∧ mtB .tq h = decide (1 ≤ Tp.ar h) := by
  have : ((Tp.hd .tq).toNat : Int) ≠ h := e
  simp [mtL, mtB, this]
theorem mtL_len (t : Tp.Ty) (h : Int) : (mtL t h).length ≤ 2 := by
  unfold mtL
  split
  · cases t <;> simp [Tp.kids]
  · split
    · have := (Tp.ar_bd h).2
      simp; omega
    · simp

theorem rcheck1 (w : World) (l : List UInt8) (W : World) (hW : W = w.alloc (.cells #[.string (S l)] 9)) (n : Nat) (hn : n = w.heap.size) : Calls Tryz.prog 130 #[.slice (some ⟨n, 0, none⟩) 1 1] W fun e w' => e = .returned (.int .i64 (Tp.firstBad [l])) ∧ w' = W := by
  subst hW hn
  exact rcheck_any _ [l] _ (texts1 w l) (by simp)
theorem own_lower {w : World} {b b' e n : Nat} {v : Value} {xs : List Value} (h : w.ownsRow b e 1 v n xs) (hb : b' ≤ b) : w.ownsRow b' e 1 v n xs := by
  obtain ⟨h1, h2 | ⟨g, cap, cur, rfl, hg, hr⟩⟩ := h
  · exact ⟨h1, .inl h2⟩
  · exact ⟨h1, .inr ⟨g, cap, cur, rfl, Nat.le_trans hb hg, hr⟩⟩
theorem own_lit2 {w W : World} {n b : Nat} (hW : W = w.alloc (.cells #[.string ⟨#[63]⟩, .string ⟨#[63]⟩] 9)) (hn : n = w.heap.size) (hb : b ≤ n) : W.ownsRow b 9 1 (.slice (some ⟨n, 0, none⟩) 2 2) 2 (tcells [[63], [63]]) := by
  subst hW hn
  exact own_lower (own_lit w (tcells [[63], [63]]) 9 (by simp [tcells, maxLen])) hb
theorem own_lit1 {w W : World} {n b : Nat} (hW : W = w.alloc (.cells #[.string ⟨#[63]⟩] 9)) (hn : n = w.heap.size) (hb : b ≤ n) : W.ownsRow b 9 1 (.slice (some ⟨n, 0, none⟩) 1 1) 1 (tcells [[63]]) := by
  subst hW hn
  exact own_lower (own_lit w (tcells [[63]]) 9 (by simp [tcells, maxLen])) hb

set_option maxHeartbeats 1000000 in
theorem match_no (l : List UInt8) (h : Int) (hc : (Tp.chk l).1 ≠ 0) (w : World) :
    Calls Tryz.prog 105 #[.string (S l), .int .u8 h] w fun e w' => e = .returned (.tuple #[.slice none 0 0, .bool false]) ∧ Below w.heap.size w w' := by
  have hb' : ((Tp.firstBad [l] : Int) != 0) = true := by simp [Tp.firstBad, hc]
  have hck := fun w => rcheck1 w l
  generalize S l = s at *
  go_enter Tryz.func105, Tryz.ntmps105
  go_wp2_with (go_at_call 130; refine (hck _ _ rfl _ (by simp)).mono ?_; rintro e w' ⟨rfl, rfl⟩)
  go_ret2
  exact ⟨rfl, below_alloc _ _⟩

set_option maxHeartbeats 4000000 in
theorem match_yes (t : Tp.Ty) (h : Int) (h64 : (Tp.enc t).length ≤ 64) (w : World) :
    Calls Tryz.prog 105 #[.string (S (Tp.enc t)), .int .u8 h] w fun e w' => ∃ v, e = .returned (.tuple #[v, .bool (mtB t h)]) ∧ w'.ownsRow w.heap.size 9 1 v (mtL t h).length (tcells (mtL t h)) ∧ Below w.heap.size w w' := by
  have hg : Tp.firstBad [Tp.enc t] = 0 := by simp [Tp.firstBad, Tp.chk_enc t h64]
  have hck := fun w => rcheck1 w (Tp.enc t)
  rw [hg] at hck
  have h1 := head_yes t h64
  have hp := parts_yes t h64
  have hq := Tp.isq_S t
  by_cases e : ((Tp.hd t).toNat : Int) = h
  · have HM : Aside (mtL t h = (Tp.kids t).map Tp.enc ∧ mtB t h = true) := mt_same e
    subst e
    generalize S (Tp.enc t) = s at *
    go_enter Tryz.func105, Tryz.ntmps105
    go_wp2_with (first | (go_at_call 130; refine (hck _ _ rfl _ (by simp)).mono ?_; rintro e w' ⟨rfl, hw'⟩; replace hw' := hw'.symm; subst hw') | (go_at_call 131; refine (h1 _).mono ?_; rintro e w' ⟨rfl, hw'⟩; replace hw' := hw'.symm; subst hw') | (go_at_call 132; refine (hp _).mono ?_; rintro e w1 ⟨v, rfl, hown, hB⟩))
    go_ret2
    rw [HM.out.1, HM.out.2]
    refine ⟨v, rfl, ?_, (below_alloc _ _).trans (hB.mono (by simp))⟩
    rw [List.length_map]
    exact own_lower hown (by simp)
  · have e' : (((Tp.hd t).toNat : Int) == h) = false := by simpa using e
    by_cases hqq : t = .tq
    · subst hqq
      have hqt : (S (Tp.enc .tq)).toList = [63] := toList_S _
      have hh1 : ∀ w : World, Calls Tryz.prog 131 #[.string (S (Tp.enc .tq))] w fun e w' => e = .returned (.int .u8 63) ∧ w' = w := h1
      replace h1 := hh1
      clear hh1 hp hq hg
      have e6 : (63 : Int) ≠ h := e
      have e6' : ((63 : Int) == h) = false := by simpa using e6
      obtain ⟨m1, m2⟩ := mt_q e6
      rw [m1, m2]
      clear m1 m2 e e'
      generalize S (Tp.enc .tq) = s at *
      by_cases hh62 : h = 62
      · subst hh62
        go_enter Tryz.func105, Tryz.ntmps105
        go_wp2_with (first | (go_at_call 130; refine (hck _ _ rfl _ (by simp)).mono ?_; rintro e w' ⟨rfl, hw'⟩; replace hw' := hw'.symm; subst hw') | (go_at_call 131; refine (h1 _).mono ?_; rintro e w' ⟨rfl, hw'⟩; replace hw' := hw'.symm; subst hw'))
        go_ret2
        refine ⟨_, rfl, ?_, ((Below.refl _ _).alloc (Nat.le_refl _) _).alloc (by simp) _⟩
        exact own_lit2 rfl (by simp) (by simp)
      have d62 : (h == 62) = false := by simpa using hh62
      by_cases hh44 : h = 44
      · subst hh44
        go_enter Tryz.func105, Tryz.ntmps105
        go_wp2_with (first | (go_at_call 130; refine (hck _ _ rfl _ (by simp)).mono ?_; rintro e w' ⟨rfl, hw'⟩; replace hw' := hw'.symm; subst hw') | (go_at_call 131; refine (h1 _).mono ?_; rintro e w' ⟨rfl, hw'⟩; replace hw' := hw'.symm; subst hw'))
        go_ret2
        refine ⟨_, rfl, ?_, ((Below.refl _ _).alloc (Nat.le_refl _) _).alloc (by simp) _⟩
        exact own_lit2 rfl (by simp) (by simp)
      have d44 : (h == 44) = false := by simpa using hh44
      by_cases hh108 : h = 108
      · subst hh108
        go_enter Tryz.func105, Tryz.ntmps105
        go_wp2_with (first | (go_at_call 130; refine (hck _ _ rfl _ (by simp)).mono ?_; rintro e w' ⟨rfl, hw'⟩; replace hw' := hw'.symm; subst hw') | (go_at_call 131; refine (h1 _).mono ?_; rintro e w' ⟨rfl, hw'⟩; replace hw' := hw'.symm; subst hw'))
        go_ret2
        refine ⟨_, rfl, ?_, ((Below.refl _ _).alloc (Nat.le_refl _) _).alloc (by simp) _⟩
        exact own_lit1 rfl (by simp) (by simp)
      have d108 : (h == 108) = false := by simpa using hh108
      by_cases hh120 : h = 120
      · subst hh120
        go_enter Tryz.func105, Tryz.ntmps105
        go_wp2_with (first | (go_at_call 130; refine (hck _ _ rfl _ (by simp)).mono ?_; rintro e w' ⟨rfl, hw'⟩; replace hw' := hw'.symm; subst hw') | (go_at_call 131; refine (h1 _).mono ?_; rintro e w' ⟨rfl, hw'⟩; replace hw' := hw'.symm; subst hw'))
        go_ret2
        refine ⟨_, rfl, ?_, ((Below.refl _ _).alloc (Nat.le_refl _) _).alloc (by simp) _⟩
        exact own_lit1 rfl (by simp) (by simp)
      have d120 : (h == 120) = false := by simpa using hh120
      have ha : (Tp.ar h).toNat = 0 ∧ decide (1 ≤ Tp.ar h) = false := by
        unfold Tp.ar
        simp only [hh62, hh44, hh108, hh120, beq_iff_eq, Bool.or_eq_true, or_false, if_false]
        split <;> simp
      rw [ha.1, ha.2]
      clear hh62 hh44 hh108 hh120 ha
      go_enter Tryz.func105, Tryz.ntmps105
      go_wp2_with (first | (go_at_call 130; refine (hck _ _ rfl _ (by simp)).mono ?_; rintro e w' ⟨rfl, hw'⟩; replace hw' := hw'.symm; subst hw') | (go_at_call 131; refine (h1 _).mono ?_; rintro e w' ⟨rfl, hw'⟩; replace hw' := hw'.symm; subst hw'))
      all_goals
        go_ret2
        exact ⟨_, rfl, own_nil _ _ _ _, below_alloc _ _⟩
    · have HM : Aside (mtL t h = [] ∧ mtB t h = false) := mt_else e hqq
      rw [show Tp.isq t = false by simpa [Tp.isq] using hqq] at hq
      generalize S (Tp.enc t) = s at *
      go_enter Tryz.func105, Tryz.ntmps105
      go_wp2_with (first | (go_at_call 130; refine (hck _ _ rfl _ (by simp)).mono ?_; rintro e w' ⟨rfl, hw'⟩; replace hw' := hw'.symm; subst hw') | (go_at_call 131; refine (h1 _).mono ?_; rintro e w' ⟨rfl, hw'⟩; replace hw' := hw'.symm; subst hw'))
      go_ret2
      rw [HM.out.1, HM.out.2]
      exact ⟨_, rfl, own_nil _ _ _ _, below_alloc _ _⟩

end Go.Proofs.YthihnkgjkmaplaaGreatDoor.T3
namespace Go.Proofs.YthihnkgjkmaplaaGreatDoor.T3
open Go.RowKit
set_option maxRecDepth 100000
set_option linter.unusedSimpArgs false

theorem knote_empty (w : World) : Calls Tryz.prog 89 #[.string ⟨#[]⟩] w fun e w' => e = .returned (.string (S (Tp.enc .tq))) ∧ w' = w := by
  go_enter Tryz.func89, Tryz.ntmps89
  go_wp2_with fail
  go_ret
  exact ⟨rfl, rfl⟩
theorem knote_type (t : Tp.Ty) (w : World) : Calls Tryz.prog 89 #[.string (S (Tp.enc t))] w fun e w' => e = .returned (.string (S (Tp.enc t))) ∧ w' = w := by
  have hl : ((S (Tp.enc t)).toList == []) = false := by
    rw [toList_S]
    have := Tp.enc_pos t
    cases h : Tp.enc t with
    | nil => rw [h] at this; simp at this
    | cons a l => rfl
  generalize S (Tp.enc t) = s at *
  go_enter Tryz.func89, Tryz.ntmps89
  go_wp2_with fail
  go_ret
  exact ⟨rfl, rfl⟩

set_option maxHeartbeats 2000000 in
theorem kmatch_q2 (h : Int) (hh : h = 62 ∨ h = 44) (w : World) :
    Calls Tryz.prog 135 #[.string (S (Tp.enc .tq)), .int .u8 h] w fun e w' => ∃ v, e = .returned (.tuple #[v, .bool true]) ∧ w'.ownsRow w.heap.size 9 1 v 2 (tcells [[63], [63]]) ∧ Below w.heap.size w w' := by
  have hqt : (S (Tp.enc .tq)).toList = [63] := toList_S _
  generalize S (Tp.enc .tq) = s at *
  rcases hh with rfl | rfl
  all_goals
    go_enter Tryz.func135, Tryz.ntmps135
    go_wp2_with fail
    go_ret2
    refine ⟨_, rfl, ?_, (Below.refl _ _).alloc (Nat.le_refl _) _⟩
    exact own_lit2 rfl (by simp) (by simp)
set_option maxHeartbeats 2000000 in
theorem kmatch_q1 (h : Int) (hh : h = 108 ∨ h = 120) (w : World) :
    Calls Tryz.prog 135 #[.string (S (Tp.enc .tq)), .int .u8 h] w fun e w' => ∃ v, e = .returned (.tuple #[v, .bool true]) ∧ w'.ownsRow w.heap.size 9 1 v 1 (tcells [[63]]) ∧ Below w.heap.size w w' := by
  have hqt : (S (Tp.enc .tq)).toList = [63] := toList_S _
  generalize S (Tp.enc .tq) = s at *
  rcases hh with rfl | rfl
  all_goals
    go_enter Tryz.func135, Tryz.ntmps135
    go_wp2_with fail
    go_ret2
    refine ⟨_, rfl, ?_, (Below.refl _ _).alloc (Nat.le_refl _) _⟩
    exact own_lit1 rfl (by simp) (by simp)
set_option maxHeartbeats 2000000 in
theorem kmatch_type (t : Tp.Ty) (hq : Tp.isq t = false) (h : Int) (h64 : (Tp.enc t).length ≤ 64) (w : World) :
    Calls Tryz.prog 135 #[.string (S (Tp.enc t)), .int .u8 h] w fun e w' => ∃ v, e = .returned (.tuple #[v, .bool (((Tp.hd t).toNat : Int) == h)]) ∧ w'.ownsRow w.heap.size 9 1 v (Tp.kids t).length (tcells ((Tp.kids t).map Tp.enc)) ∧ Below w.heap.size w w' := by
  obtain ⟨hpa, hha⟩ := S_head t
  have hpa' : (0 : Int) < ((S (Tp.enc t)).size : Int) := by omega
  have hha' := hha hpa
  clear hha
  have q1 := Tp.isq_S t
  rw [hq] at q1
  have hp := kparts_yes t h64
  generalize S (Tp.enc t) = s at *
  go_enter Tryz.func135, Tryz.ntmps135
  go_wp2_with fail
  go_region_with (go_at_call 154; refine (hp _).mono ?_; rintro e w1 ⟨v, rfl, hown, hB⟩)
  all_goals
    go_wp2_with fail
    go_ret2
    exact ⟨v, rfl, hown, ⟨hB.os, hB.tape, hB.output, hB.size, hB.block⟩⟩

/-- As the program's Match, of the four heads. -/
theorem kmatch_any (t : Tp.Ty) (h : Int) (hh : h = 62 ∨ h = 44 ∨ h = 108 ∨ h = 120) (h64 : (Tp.enc t).length ≤ 64) (w : World) :
    Calls Tryz.prog 135 #[.string (S (Tp.enc t)), .int .u8 h] w fun e w' => ∃ v, e = .returned (.tuple #[v, .bool (mtB t h)]) ∧ (mtB t h = true → w'.ownsRow w.heap.size 9 1 v (mtL t h).length (tcells (mtL t h))) ∧ Below w.heap.size w w' := by
  cases hq : Tp.isq t with
  | true =>
    obtain rfl : t = .tq := by cases t <;> simp [Tp.isq] at hq ⊢
    rcases hh with rfl | rfl | rfl | rfl
    · exact (kmatch_q2 62 (.inl rfl) w).mono fun e w' ⟨v, h1, h2, h3⟩ => ⟨v, h1, fun _ => h2, h3⟩
    · exact (kmatch_q2 44 (.inr rfl) w).mono fun e w' ⟨v, h1, h2, h3⟩ => ⟨v, h1, fun _ => h2, h3⟩
    · exact (kmatch_q1 108 (.inl rfl) w).mono fun e w' ⟨v, h1, h2, h3⟩ => ⟨v, h1, fun _ => h2, h3⟩
    · exact (kmatch_q1 120 (.inr rfl) w).mono fun e w' ⟨v, h1, h2, h3⟩ => ⟨v, h1, fun _ => h2, h3⟩
  | false =>
    refine (kmatch_type t hq h h64 w).mono ?_
    rintro e w' ⟨v, rfl, h2, h3⟩
    have hne : t ≠ .tq := by rintro rfl; simp [Tp.isq] at hq
    by_cases e : ((Tp.hd t).toNat : Int) = h
    · obtain ⟨m1, m2⟩ := mt_same e
      refine ⟨v, by rw [m2]; simp [e], fun _ => ?_, h3⟩
      rw [m1, List.length_map]
      exact h2
    · obtain ⟨m1, m2⟩ := mt_else e hne
      refine ⟨v, by rw [m2]; simp [e], fun hb => ?_, h3⟩
      rw [m2] at hb
      simp at hb
end Go.Proofs.YthihnkgjkmaplaaGreatDoor.T3
