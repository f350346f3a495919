/- What the document's meet and join answer of two types. -/
import Derived.Test.YtgkmoifibcmooaaTwoA
namespace Go.Proofs.Ytgkmoifibcmooaa
open Go.RowKit

namespace Tp
theorem met_len : ∀ {a b : Ty}, cns a b = true → (enc (met a b)).length ≤ (enc a).length + (enc b).length := by
  intro a
  induction a with
  | ti | tb | tt | tq => intro b h; cases b <;> simp [cns, met, enc] at h ⊢
  | tl a ih | tx a ih => intro b h; cases b <;> simp [cns, met, enc] at h ⊢; have := ih h; omega
  | tf a c iha ihc | tp a c iha ihc => intro b h; cases b <;> simp [cns, met, enc] at h ⊢; have := iha h.1; have := ihc h.2; omega
theorem encs_take {L : List Ty} {k : Nat} {m : Ty} (h : L[k]? = some m) : encs (L.take (k + 1)) = encs (L.take k) ++ enc m := by
  rw [List.take_add_one, h]; simp [encs]
theorem encs_bound {L : List Ty} (hL : ∀ u ∈ L, (enc u).length ≤ 128) (h2 : L.length ≤ 2) (k : Nat) : (encs (L.take k)).length ≤ 256 := by
  match L, h2 with
  | [], _ => simp [encs]
  | [x], _ =>
    have := hL x (by simp)
    cases k <;> simp [encs] <;> omega
  | [x, y], _ =>
    have := hL x (by simp)
    have := hL y (by simp)
    match k with
    | 0 => simp [encs]
    | 1 => simp [encs]; omega
    | _ + 2 => simp [encs]; omega
end Tp

set_option maxHeartbeats 4000000 in
theorem rmeet_yes (n : Nat) : ∀ (a b : Tp.Ty) (w : World), Tp.cns a b = true → (Tp.enc a).length ≤ n → (Tp.enc a).length ≤ 64 → (Tp.enc b).length ≤ 64 →
    Calls Try.prog 25 #[.string (S (Tp.enc a)), .string (S (Tp.enc b))] w fun e w' => e = .returned (.string (S (Tp.enc (Tp.met a b)))) ∧ Below w.heap.size w w' := by
  induction n with
  | zero => intro a b w hD h; have := Tp.enc_pos a; omega
  | succ n ih =>
    intro a b w hD hn ha hb
    obtain ⟨hpa, hha⟩ := S_head a
    obtain ⟨hpb, hhb⟩ := S_head b
    have hpa' : (0 : Int) < ((S (Tp.enc a)).size : Int) := by omega
    have hpb' : (0 : Int) < ((S (Tp.enc b)).size : Int) := by omega
    have hpa1 : (1 : Int) ≤ ((S (Tp.enc a)).size : Int) := by omega
    have hha' := hha hpa
    have hhb' := hhb hpb
    clear hha hhb
    have q1 := hd_q a
    have q2 := hd_q b
    have p1 := rparts_yes a ha
    have p2 := rparts_yes b hb
    have hkl := Tp.kid_len a
    have hklb := Tp.kid_len b
    have hcut : (S (Tp.enc a)).extract 0 1 = S [Tp.hd a] := by rw [S_cut, Tp.enc_eq]; simp
    cases hqa : Tp.isq a with
    | true =>
      rw [hqa] at q1
      have HM : Tp.met a b = b := by cases a <;> simp [Tp.isq] at hqa; cases b <;> rfl
      rw [HM]
      clear p1 p2 ih
      generalize S (Tp.enc a) = s at *
      generalize S (Tp.enc b) = t at *
      go_enter Try.func25, Try.ntmps25
      go_wp2_with fail
      go_ret
      exact ⟨rfl, Below.refl _ _⟩
    | false =>
      rw [hqa] at q1
      cases hqb : Tp.isq b with
      | true =>
        rw [hqb] at q2
        have HM : Tp.met a b = a := by cases b <;> simp [Tp.isq] at hqb; cases a <;> rfl
        rw [HM]
        clear p1 p2 ih
        generalize S (Tp.enc a) = s at *
        generalize S (Tp.enc b) = t at *
        go_enter Try.func25, Try.ntmps25
        go_wp2_with fail
        go_ret
        exact ⟨rfl, Below.refl _ _⟩
      | false =>
        rw [hqb] at q2
        have hsb : (fun a b => Tp.isq a || Tp.isq b) a b = false := by simp [hqa, hqb]
        obtain ⟨hh, hhM⟩ := merges_meet.head a b hD hsb
        have HL : Aside ((Tp.kids a).length = (Tp.kids b).length) := Tp.hd_kids hh
        have HK : Aside (Tp.kids (Tp.met a b) = List.zipWith Tp.met (Tp.kids a) (Tp.kids b)) := merges_meet.kids a b hD hsb
        have HD := merges_meet.down a b hD hsb
        have HE : Aside (Tp.enc (Tp.met a b) = Tp.hd a :: Tp.encs (List.zipWith Tp.met (Tp.kids a) (Tp.kids b))) := by show _ = _; rw [Tp.enc_eq, hhM, HK.out]
        have hk2 : (Tp.kids a).length ≤ 2 := by cases a <;> simp [Tp.kids]
        have hzl : Aside ((List.zipWith Tp.met (Tp.kids a) (Tp.kids b)).length = (Tp.kids a).length) := by show _ = _; rw [List.length_zipWith, ← HL.out]; simp
        have HB : Aside (∀ u ∈ List.zipWith Tp.met (Tp.kids a) (Tp.kids b), (Tp.enc u).length ≤ 128) := by
          intro u hu
          obtain ⟨k, hk⟩ := List.getElem?_of_mem hu
          rw [List.getElem?_zipWith] at hk
          cases hx : (Tp.kids a)[k]? with
          | none => rw [hx] at hk; simp at hk
          | some x =>
            cases hy : (Tp.kids b)[k]? with
            | none => rw [hx, hy] at hk; simp at hk
            | some y =>
              rw [hx, hy] at hk
              obtain rfl : Tp.met x y = u := by simpa using hk
              have m1 := hkl x (List.mem_of_getElem? hx)
              have m2 := hklb y (List.mem_of_getElem? hy)
              have m3 := Tp.met_len (HD k x y hx hy)
              omega
        clear hh hhM hsb
        generalize hsa : S (Tp.enc a) = s at *
        generalize hsb : S (Tp.enc b) = t at *
        go_enter Try.func25, Try.ntmps25
        go_wp2_with fail
        go_wp2_with (first | (go_at_call_of 44 s; refine (p1 _).mono ?_; rintro e w1 ⟨v1, rfl, O1, B1⟩; obtain ⟨a1, c1, rfl⟩ := own_len O1) | (go_at_call_of 44 t; refine (p2 _).mono ?_; rintro e w2 ⟨v2, rfl, O2, B2⟩; obtain ⟨a2, c2, rfl⟩ := own_len O2))
        have T1 : IsTexts w2 (.slice a1 (Tp.kids a).length c1) ((Tp.kids a).map Tp.enc) := (own_at O1 (by simp)).below B2
        have T2 := own_at O2 (by simp)
        have hB0 : Below w.heap.size w w2 := by
          have B1' : Below w.heap.size w w1 := ⟨B1.os, B1.tape, B1.output, B1.size, B1.block⟩
          exact B1'.trans (B2.mono B1'.size)
        clear O1 O2 B1 B2 p1 p2
        go_loopg [7, 8] (Tp.kids a).length (fun g o t wr => ∃ k : Nat, k + g = (Tp.kids a).length ∧ t = .int .i64 k ∧ o = .string (S (Tp.hd a :: Tp.encs ((List.zipWith Tp.met (Tp.kids a) (Tp.kids b)).take k))) ∧ Below w2.heap.size w2 wr)
        case atStart => exact ⟨0, by omega, rfl, by simp [Tp.encs], Below.refl _ _⟩
        case round =>
          obtain ⟨k, hkg, rfl, rfl, hB⟩ := hrel
          have T1r := T1.below hB
          have T2r := T2.below hB
          have hBw : Below w.heap.size w wr := hB0.trans (hB.mono hB0.size)
          by_cases hk : k < (Tp.kids a).length
          · have hk' : (k : Int) < ((Tp.kids a).length : Int) := by omega
            have hk0 : (0 : Int) ≤ (k : Int) := by omega
            have hkb : k < (Tp.kids b).length := by rw [← HL.out]; exact hk
            have hkb' : (k : Int) < ((Tp.kids b).length : Int) := by omega
            have ga := List.getElem?_eq_getElem hk
            have gb := List.getElem?_eq_getElem hkb
            have ma := hkl _ (List.getElem_mem hk)
            have mb := hklb _ (List.getElem_mem hkb)
            generalize (Tp.kids a)[k] = x at *
            generalize (Tp.kids b)[k] = y at *
            obtain ⟨b1, o1, rfl, hc1, hl1, hcx⟩ := T1r.at (k := k) (p := Tp.enc x) (by rw [List.getElem?_map, ga]; rfl)
            obtain ⟨b2, o2, rfl, hc2, hl2, hcy⟩ := T2r.at (k := k) (p := Tp.enc y) (by rw [List.getElem?_map, gb]; rfl)
            have hrec := fun w => ih x y w (HD k x y ga gb) (by omega) (by omega) (by omega)
            have gz : (List.zipWith Tp.met (Tp.kids a) (Tp.kids b))[k]? = some (Tp.met x y) := zip_at ga gb
            have e1 : S (Tp.hd a :: Tp.encs ((List.zipWith Tp.met (Tp.kids a) (Tp.kids b)).take k)) ++ S (Tp.enc (Tp.met x y)) = S (Tp.hd a :: Tp.encs ((List.zipWith Tp.met (Tp.kids a) (Tp.kids b)).take (k + 1))) := by
              rw [S_add, Tp.encs_take gz]; rfl
            have z1 : (S (Tp.hd a :: Tp.encs ((List.zipWith Tp.met (Tp.kids a) (Tp.kids b)).take k))).size ≤ 257 := by
              rw [S_size]
              have := Tp.encs_bound HB.out (by rw [hzl.out]; exact hk2) k
              simp; omega
            have z2 : (S (Tp.enc (Tp.met x y))).size ≤ 128 := by rw [S_size]; exact HB.out _ (List.mem_of_getElem? gz)
            clear ga gb gz ih HD
            generalize hsx : S (Tp.enc x) = sx at *
            generalize hsy : S (Tp.enc y) = sy at *
            generalize hsz : S (Tp.enc (Tp.met x y)) = sz at *
            generalize ho : S (Tp.hd a :: Tp.encs ((List.zipWith Tp.met (Tp.kids a) (Tp.kids b)).take k)) = o at *
            generalize ho1 : S (Tp.hd a :: Tp.encs ((List.zipWith Tp.met (Tp.kids a) (Tp.kids b)).take (k + 1))) = o' at *
            go_wp2_with fail
            go_region_with (go_at_call 25; refine (hrec _).mono ?_; rintro e w3 ⟨rfl, hB3⟩)
            all_goals
              go_wp2_with fail
              go_roundg (gk - 1)
              case measure => omega
              case rel => exact ⟨k + 1, by omega, by go_num, by rw [ho1], hB.drew.trans (hB3.mono hB.size)⟩
          · have hk' : decide ((k : Int) < ((Tp.kids a).length : Int)) = false := by simp; omega
            obtain rfl : k = (Tp.kids a).length := by omega
            rw [← hzl.out, List.take_length, hzl.out]
            rw [← HE.out]
            generalize hoo : S (Tp.enc (Tp.met a b)) = oo at *
            go_wp2_with fail
            go_ret
            refine ⟨?_, hBw⟩
            rw [hoo]
            rfl


set_option maxHeartbeats 4000000 in
theorem rjoin_yes (n : Nat) : ∀ (a b : Tp.Ty) (w : World), (Tp.enc a).length ≤ n → (Tp.enc a).length ≤ 64 → (Tp.enc b).length ≤ 64 →
    Calls Try.prog 28 #[.string (S (Tp.enc a)), .string (S (Tp.enc b))] w fun e w' => e = .returned (.string (S (Tp.enc (Tp.joi a b)))) ∧ Below w.heap.size w w' := by
  induction n with
  | zero => intro a b w h; have := Tp.enc_pos a; omega
  | succ n ih =>
    intro a b w hn ha hb
    obtain ⟨hpa, hha⟩ := S_head a
    obtain ⟨hpb, hhb⟩ := S_head b
    have hpa' : (0 : Int) < ((S (Tp.enc a)).size : Int) := by omega
    have hpb' : (0 : Int) < ((S (Tp.enc b)).size : Int) := by omega
    have hpa1 : (1 : Int) ≤ ((S (Tp.enc a)).size : Int) := by omega
    have hha' := hha hpa
    have hhb' := hhb hpb
    clear hha hhb
    have q1 := hd_q a
    have q2 := hd_q b
    have p1 := rparts_yes a ha
    have p2 := rparts_yes b hb
    have hkl := Tp.kid_len a
    have hklb := Tp.kid_len b
    have hcut : (S (Tp.enc a)).extract 0 1 = S [Tp.hd a] := by rw [S_cut, Tp.enc_eq]; simp
    by_cases hh0 : Tp.hd a = Tp.hd b
    · have d1 := hd_eq hh0
      have hsb : jsb a b = false := d1
      cases hqa : Tp.isq a with
      | true =>
        rw [hqa] at q1
        have HM : Tp.joi a b = .tq := by cases a <;> simp [Tp.isq] at hqa; cases b <;> rfl
        rw [HM]
        clear p1 p2 ih hh0
        generalize S (Tp.enc a) = s at *
        generalize S (Tp.enc b) = t at *
        go_enter Try.func28, Try.ntmps28
        go_wp2_with fail
        go_quiet (fail)
        go_wp2_with fail
        go_ret
        exact ⟨rfl, ⟨rfl, rfl, rfl, Nat.le_refl _, fun _ _ => rfl⟩⟩
      | false =>
        rw [hqa] at q1
        clear hh0
        obtain ⟨hh, hhM⟩ := merges_join.head a b trivial hsb
        have HL : Aside ((Tp.kids a).length = (Tp.kids b).length) := Tp.hd_kids hh
        have HK : Aside (Tp.kids (Tp.joi a b) = List.zipWith Tp.joi (Tp.kids a) (Tp.kids b)) := merges_join.kids a b trivial hsb
        have HD := merges_join.down a b trivial hsb
        have HE : Aside (Tp.enc (Tp.joi a b) = Tp.hd a :: Tp.encs (List.zipWith Tp.joi (Tp.kids a) (Tp.kids b))) := by show _ = _; rw [Tp.enc_eq, hhM, HK.out]
        have hk2 : (Tp.kids a).length ≤ 2 := by cases a <;> simp [Tp.kids]
        have hzl : Aside ((List.zipWith Tp.joi (Tp.kids a) (Tp.kids b)).length = (Tp.kids a).length) := by show _ = _; rw [List.length_zipWith, ← HL.out]; simp
        have HB : Aside (∀ u ∈ List.zipWith Tp.joi (Tp.kids a) (Tp.kids b), (Tp.enc u).length ≤ 128) := by
          intro u hu
          obtain ⟨k, hk⟩ := List.getElem?_of_mem hu
          rw [List.getElem?_zipWith] at hk
          cases hx : (Tp.kids a)[k]? with
          | none => rw [hx] at hk; simp at hk
          | some x =>
            cases hy : (Tp.kids b)[k]? with
            | none => rw [hx, hy] at hk; simp at hk
            | some y =>
              rw [hx, hy] at hk
              obtain rfl : Tp.joi x y = u := by simpa using hk
              have m1 := hkl x (List.mem_of_getElem? hx)
              have m2 := hklb y (List.mem_of_getElem? hy)
              have m3 := Tp.joi_len x y
              omega
        clear hh hhM hsb
        generalize hsa : S (Tp.enc a) = s at *
        generalize hsb : S (Tp.enc b) = t at *
        go_enter Try.func28, Try.ntmps28
        go_wp2_with fail
        go_quiet (fail)
        go_wp2_with (first | (go_at_call_of 44 s; refine (p1 _).mono ?_; rintro e w1 ⟨v1, rfl, O1, B1⟩; obtain ⟨a1, c1, rfl⟩ := own_len O1) | (go_at_call_of 44 t; refine (p2 _).mono ?_; rintro e w2 ⟨v2, rfl, O2, B2⟩; obtain ⟨a2, c2, rfl⟩ := own_len O2))
        have T1 : IsTexts w2 (.slice a1 (Tp.kids a).length c1) ((Tp.kids a).map Tp.enc) := (own_at O1 (by simp)).below B2
        have T2 := own_at O2 (by simp)
        have hB0 : Below w.heap.size w w2 := by
          have B1' : Below w.heap.size w w1 := ⟨B1.os, B1.tape, B1.output, B1.size, B1.block⟩
          exact B1'.trans (B2.mono B1'.size)
        clear O1 O2 B1 B2 p1 p2
        go_loopg [7, 8] (Tp.kids a).length (fun g o t wr => ∃ k : Nat, k + g = (Tp.kids a).length ∧ t = .int .i64 k ∧ o = .string (S (Tp.hd a :: Tp.encs ((List.zipWith Tp.joi (Tp.kids a) (Tp.kids b)).take k))) ∧ Below w2.heap.size w2 wr)
        case atStart => exact ⟨0, by omega, rfl, by simp [Tp.encs], Below.refl _ _⟩
        case round =>
          obtain ⟨k, hkg, rfl, rfl, hB⟩ := hrel
          have T1r := T1.below hB
          have T2r := T2.below hB
          have hBw : Below w.heap.size w wr := hB0.trans (hB.mono hB0.size)
          by_cases hk : k < (Tp.kids a).length
          · have hk' : (k : Int) < ((Tp.kids a).length : Int) := by omega
            have hk0 : (0 : Int) ≤ (k : Int) := by omega
            have hkb : k < (Tp.kids b).length := by rw [← HL.out]; exact hk
            have hkb' : (k : Int) < ((Tp.kids b).length : Int) := by omega
            have ga := List.getElem?_eq_getElem hk
            have gb := List.getElem?_eq_getElem hkb
            have ma := hkl _ (List.getElem_mem hk)
            have mb := hklb _ (List.getElem_mem hkb)
            generalize (Tp.kids a)[k] = x at *
            generalize (Tp.kids b)[k] = y at *
            obtain ⟨b1, o1, rfl, hc1, hl1, hcx⟩ := T1r.at (k := k) (p := Tp.enc x) (by rw [List.getElem?_map, ga]; rfl)
            obtain ⟨b2, o2, rfl, hc2, hl2, hcy⟩ := T2r.at (k := k) (p := Tp.enc y) (by rw [List.getElem?_map, gb]; rfl)
            have hrec := fun w => ih x y w (by omega) (by omega) (by omega)
            have gz : (List.zipWith Tp.joi (Tp.kids a) (Tp.kids b))[k]? = some (Tp.joi x y) := zip_at ga gb
            have e1 : S (Tp.hd a :: Tp.encs ((List.zipWith Tp.joi (Tp.kids a) (Tp.kids b)).take k)) ++ S (Tp.enc (Tp.joi x y)) = S (Tp.hd a :: Tp.encs ((List.zipWith Tp.joi (Tp.kids a) (Tp.kids b)).take (k + 1))) := by
              rw [S_add, Tp.encs_take gz]; rfl
            have z1 : (S (Tp.hd a :: Tp.encs ((List.zipWith Tp.joi (Tp.kids a) (Tp.kids b)).take k))).size ≤ 257 := by
              rw [S_size]
              have := Tp.encs_bound HB.out (by rw [hzl.out]; exact hk2) k
              simp; omega
            have z2 : (S (Tp.enc (Tp.joi x y))).size ≤ 128 := by rw [S_size]; exact HB.out _ (List.mem_of_getElem? gz)
            clear ga gb gz ih HD
            generalize hsx : S (Tp.enc x) = sx at *
            generalize hsy : S (Tp.enc y) = sy at *
            generalize hsz : S (Tp.enc (Tp.joi x y)) = sz at *
            generalize ho : S (Tp.hd a :: Tp.encs ((List.zipWith Tp.joi (Tp.kids a) (Tp.kids b)).take k)) = o at *
            generalize ho1 : S (Tp.hd a :: Tp.encs ((List.zipWith Tp.joi (Tp.kids a) (Tp.kids b)).take (k + 1))) = o' at *
            go_wp2_with fail
            go_region_with (go_at_call 28; refine (hrec _).mono ?_; rintro e w3 ⟨rfl, hB3⟩)
            all_goals
              go_wp2_with fail
              go_roundg (gk - 1)
              case measure => omega
              case rel => exact ⟨k + 1, by omega, by go_num, by rw [ho1], hB.drew.trans (hB3.mono hB.size)⟩
          · have hk' : decide ((k : Int) < ((Tp.kids a).length : Int)) = false := by simp; omega
            obtain rfl : k = (Tp.kids a).length := by omega
            rw [← hzl.out, List.take_length, hzl.out]
            rw [← HE.out]
            generalize hoo : S (Tp.enc (Tp.joi a b)) = oo at *
            go_wp2_with fail
            go_ret
            refine ⟨?_, hBw⟩
            rw [hoo]
            rfl

    · have d1 := hd_ne hh0
      have HM : Tp.joi a b = .tq := by cases a <;> cases b <;> simp [Tp.hd] at hh0 <;> rfl
      rw [HM]
      clear p1 p2 ih
      generalize S (Tp.enc a) = s at *
      generalize S (Tp.enc b) = t at *
      go_enter Try.func28, Try.ntmps28
      go_wp2_with fail
      go_quiet (fail)
      go_wp2_with fail
      go_ret
      exact ⟨rfl, ⟨rfl, rfl, rfl, Nat.le_refl _, fun _ _ => rfl⟩⟩


end Go.Proofs.Ytgkmoifibcmooaa
