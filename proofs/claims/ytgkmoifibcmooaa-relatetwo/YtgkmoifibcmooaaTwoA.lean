/- What the document's consistent and precise answer of two types. -/
import Derived.Test.YtgkmoifibcmooaaRelI
import Derived.Test.YtgkmoifibcmooaaRefPts
namespace Go.Proofs.Ytgkmoifibcmooaa
open Go.RowKit

theorem hd_q (a : Tp.Ty) : (((Tp.hd a).toNat : Int) == 63) = Tp.isq a := by cases a <;> rfl
theorem hd_ne {a b : Tp.Ty} (h : Tp.hd a ≠ Tp.hd b) : (((Tp.hd a).toNat : Int) != ((Tp.hd b).toNat : Int)) = true := by
  simp only [bne_iff_ne, ne_eq]
  intro e
  exact h (UInt8.toNat_inj.1 (by omega))
theorem hd_eq {a b : Tp.Ty} (h : Tp.hd a = Tp.hd b) : (((Tp.hd a).toNat : Int) != ((Tp.hd b).toNat : Int)) = false := by rw [h]; simp

set_option maxHeartbeats 4000000 in
theorem rcons_yes (n : Nat) : ∀ (a b : Tp.Ty) (w : World), (Tp.enc a).length ≤ n → (Tp.enc a).length ≤ 64 → (Tp.enc b).length ≤ 64 →
    Calls Try.prog 24 #[.string (S (Tp.enc a)), .string (S (Tp.enc b))] w fun e w' => e = .returned (.bool (Tp.cns a b)) ∧ Below w.heap.size w w' := by
  induction n with
  | zero => intro a b w h; have := Tp.enc_pos a; omega
  | succ n ih =>
    intro a b w hn ha hb
    obtain ⟨hpa, hha⟩ := S_head a
    obtain ⟨hpb, hhb⟩ := S_head b
    have hpa' : (0 : Int) < ((S (Tp.enc a)).size : Int) := by omega
    have hpb' : (0 : Int) < ((S (Tp.enc b)).size : Int) := by omega
    have hha' := hha hpa
    have hhb' := hhb hpb
    clear hha hhb
    have hR := Tp.cns_eq a b
    have q1 := hd_q a
    have q2 := hd_q b
    have p1 := rparts_yes a ha
    have p2 := rparts_yes b hb
    have hkl := Tp.kid_len a
    have hklb := Tp.kid_len b
    cases hqa : Tp.isq a with
    | true =>
      rw [hqa] at hR q1
      rw [hR]
      clear hR p1 p2 ih
      generalize S (Tp.enc a) = s at *
      generalize S (Tp.enc b) = t at *
      go_enter Try.func24, Try.ntmps24
      go_wp2_with fail
      go_ret
      exact ⟨rfl, Below.refl _ _⟩
    | false =>
      cases hqb : Tp.isq b with
      | true =>
        rw [hqa, hqb] at hR
        rw [hqa] at q1
        rw [hqb] at q2
        rw [hR]
        clear hR p1 p2 ih
        generalize S (Tp.enc a) = s at *
        generalize S (Tp.enc b) = t at *
        go_enter Try.func24, Try.ntmps24
        go_wp2_with fail
        go_ret
        exact ⟨rfl, Below.refl _ _⟩
      | false =>
        rw [hqa, hqb] at hR
        rw [hqa] at q1
        rw [hqb] at q2
        by_cases hh : Tp.hd a = Tp.hd b
        · have d1 := hd_eq hh
          have HL : Aside ((Tp.kids a).length = (Tp.kids b).length) := Tp.hd_kids hh
          have HR : Aside (Tp.cns a b = Tp.all2 Tp.cns (Tp.kids a) (Tp.kids b)) := by show _ = _; rw [hR, show decide (Tp.hd a = Tp.hd b) = true by simpa using hh]; rfl
          have hk2 : (Tp.kids a).length ≤ 2 := by cases a <;> simp [Tp.kids]
          clear hR hh
          generalize hsa : S (Tp.enc a) = s at *
          generalize hsb : S (Tp.enc b) = t at *
          go_enter Try.func24, Try.ntmps24
          go_wp2_with fail
          go_quiet (fail)
          go_wp2_with (first | (go_at_call_of 44 s; refine (p1 _).mono ?_; rintro e w1 ⟨v1, rfl, O1, B1⟩; obtain ⟨a1, c1, rfl⟩ := own_len O1) | (go_at_call_of 44 t; refine (p2 _).mono ?_; rintro e w2 ⟨v2, rfl, O2, B2⟩; obtain ⟨a2, c2, rfl⟩ := own_len O2))
          have T1 : IsTexts w2 (.slice a1 (Tp.kids a).length c1) ((Tp.kids a).map Tp.enc) := (own_at O1 (by simp)).below B2
          have T2 := own_at O2 (by simp)
          have hB0 : Below w.heap.size w w2 := by
            have B1' : Below w.heap.size w w1 := ⟨B1.os, B1.tape, B1.output, B1.size, B1.block⟩
            exact B1'.trans (B2.mono B1'.size)
          clear O1 O2 B1 B2 p1 p2
          go_loopg [7] (Tp.kids a).length (fun g t wr => ∃ k : Nat, k + g = (Tp.kids a).length ∧ t = .int .i64 k ∧ Below w2.heap.size w2 wr ∧ Aside (Tp.all2 Tp.cns ((Tp.kids a).take k) ((Tp.kids b).take k) = true))
          case atStart => exact ⟨0, by omega, rfl, Below.refl _ _, rfl⟩
          case round =>
            obtain ⟨k, hkg, rfl, hB, HA⟩ := hrel
            have T1r := T1.below hB
            have T2r := T2.below hB
            have hBw : Below w.heap.size w wr := hB0.trans (hB.mono hB0.size)
            by_cases hk : k < (Tp.kids a).length
            · have hk' : (k : Int) < ((Tp.kids a).length : Int) := by omega
              have hk0 : (0 : Int) ≤ (k : Int) := by omega
              have hkb : k < (Tp.kids b).length := by rw [← HL.out]; exact hk
              have hkb' : (k : Int) < ((Tp.kids b).length : Int) := by omega
              have ga := List.getElem?_eq_getElem hk
              have gb := List.getElem?_eq_getElem hkb
              have ma := hkl _ (List.getElem_mem hk)
              have mb := hklb _ (List.getElem_mem hkb)
              generalize (Tp.kids a)[k] = x at *
              generalize (Tp.kids b)[k] = y at *
              obtain ⟨b1, o1, rfl, hc1, hl1, hcx⟩ := T1r.at (k := k) (p := Tp.enc x) (by rw [List.getElem?_map, ga]; rfl)
              obtain ⟨b2, o2, rfl, hc2, hl2, hcy⟩ := T2r.at (k := k) (p := Tp.enc y) (by rw [List.getElem?_map, gb]; rfl)
              have hrec := fun w => ih x y w (by omega) (by omega) (by omega)
              have HT : Aside (Tp.all2 Tp.cns ((Tp.kids a).take (k + 1)) ((Tp.kids b).take (k + 1)) = Tp.cns x y) := by show _ = _; rw [Tp.all2_take Tp.cns ga gb, HA.out]; rfl
              have HZ : Aside (Tp.cns x y = false → Tp.all2 Tp.cns (Tp.kids a) (Tp.kids b) = false) := Tp.all2_false Tp.cns ga gb
              clear ga gb ih
              cases hxy : Tp.cns x y with
              | true =>
                rw [hxy] at hrec HT
                generalize hsx : S (Tp.enc x) = sx at *
                generalize hsy : S (Tp.enc y) = sy at *
                go_wp2_with fail
                go_region_with (go_at_call 24; refine (hrec _).mono ?_; rintro e w3 ⟨rfl, hB3⟩)
                all_goals
                  go_wp2_with fail
                  go_roundg (gk - 1)
                  case measure => omega
                  case rel => exact ⟨k + 1, by omega, by go_num, hB.drew.trans (hB3.mono hB.size), HT⟩
              | false =>
                rw [hxy] at hrec
                have HN : Aside (Tp.cns a b = false) := by show _ = _; rw [HR.out]; exact HZ.out hxy
                generalize hsx : S (Tp.enc x) = sx at *
                generalize hsy : S (Tp.enc y) = sy at *
                go_wp2_with fail
                go_region_with (go_at_call 24; refine (hrec _).mono ?_; rintro e w3 ⟨rfl, hB3⟩)
                all_goals
                  go_wp2_with fail
                  go_ret
                  rw [HN.out]
                  exact ⟨rfl, hBw.drew.trans (hB3.mono hBw.size)⟩
            · have hk' : decide ((k : Int) < ((Tp.kids a).length : Int)) = false := by simp; omega
              obtain rfl : k = (Tp.kids a).length := by omega
              rw [List.take_length, HL.out, List.take_length] at HA
              go_wp2_with fail
              go_ret
              rw [HR.out, HA.out]
              exact ⟨rfl, hBw⟩
        · have d1 := hd_ne hh
          rw [show decide (Tp.hd a = Tp.hd b) = false by simpa using hh] at hR
          rw [hR]
          clear hR p1 p2 ih
          generalize S (Tp.enc a) = s at *
          generalize S (Tp.enc b) = t at *
          go_enter Try.func24, Try.ntmps24
          go_wp2_with fail
          go_quiet (fail)
          go_wp2_with fail
          go_ret
          exact ⟨rfl, ⟨rfl, rfl, rfl, Nat.le_refl _, fun _ _ => rfl⟩⟩
set_option maxHeartbeats 4000000 in
theorem rprec_yes (n : Nat) : ∀ (a b : Tp.Ty) (w : World), (Tp.enc a).length ≤ n → (Tp.enc a).length ≤ 64 → (Tp.enc b).length ≤ 64 →
    Calls Try.prog 33 #[.string (S (Tp.enc a)), .string (S (Tp.enc b))] w fun e w' => e = .returned (.bool (Tp.prc a b)) ∧ Below w.heap.size w w' := by
  induction n with
  | zero => intro a b w h; have := Tp.enc_pos a; omega
  | succ n ih =>
    intro a b w hn ha hb
    obtain ⟨hpa, hha⟩ := S_head a
    obtain ⟨hpb, hhb⟩ := S_head b
    have hpa' : (0 : Int) < ((S (Tp.enc a)).size : Int) := by omega
    have hpb' : (0 : Int) < ((S (Tp.enc b)).size : Int) := by omega
    have hha' := hha hpa
    have hhb' := hhb hpb
    clear hha hhb
    have hR := Tp.prc_eq a b
    have q1 := hd_q a
    have q2 := hd_q b
    have p1 := rparts_yes a ha
    have p2 := rparts_yes b hb
    have hkl := Tp.kid_len a
    have hklb := Tp.kid_len b
    cases hqb : Tp.isq b with
    | true =>
      rw [hqb] at hR
      rw [hqb] at q2
      rw [hR]
      clear hR p1 p2 ih
      generalize S (Tp.enc a) = s at *
      generalize S (Tp.enc b) = t at *
      go_enter Try.func33, Try.ntmps33
      go_wp2_with fail
      go_ret
      exact ⟨rfl, Below.refl _ _⟩
    | false =>
      rw [hqb] at hR
      rw [hqb] at q2
      by_cases hh : Tp.hd a = Tp.hd b
      · have d1 := hd_eq hh
        have HL : Aside ((Tp.kids a).length = (Tp.kids b).length) := Tp.hd_kids hh
        have HR : Aside (Tp.prc a b = Tp.all2 Tp.prc (Tp.kids a) (Tp.kids b)) := by show _ = _; rw [hR, show decide (Tp.hd a = Tp.hd b) = true by simpa using hh]; rfl
        have hk2 : (Tp.kids a).length ≤ 2 := by cases a <;> simp [Tp.kids]
        clear hR hh
        generalize hsa : S (Tp.enc a) = s at *
        generalize hsb : S (Tp.enc b) = t at *
        go_enter Try.func33, Try.ntmps33
        go_wp2_with fail
        go_quiet (fail)
        go_wp2_with (first | (go_at_call_of 44 s; refine (p1 _).mono ?_; rintro e w1 ⟨v1, rfl, O1, B1⟩; obtain ⟨a1, c1, rfl⟩ := own_len O1) | (go_at_call_of 44 t; refine (p2 _).mono ?_; rintro e w2 ⟨v2, rfl, O2, B2⟩; obtain ⟨a2, c2, rfl⟩ := own_len O2))
        have T1 : IsTexts w2 (.slice a1 (Tp.kids a).length c1) ((Tp.kids a).map Tp.enc) := (own_at O1 (by simp)).below B2
        have T2 := own_at O2 (by simp)
        have hB0 : Below w.heap.size w w2 := by
          have B1' : Below w.heap.size w w1 := ⟨B1.os, B1.tape, B1.output, B1.size, B1.block⟩
          exact B1'.trans (B2.mono B1'.size)
        clear O1 O2 B1 B2 p1 p2
        go_loopg [7] (Tp.kids a).length (fun g t wr => ∃ k : Nat, k + g = (Tp.kids a).length ∧ t = .int .i64 k ∧ Below w2.heap.size w2 wr ∧ Aside (Tp.all2 Tp.prc ((Tp.kids a).take k) ((Tp.kids b).take k) = true))
        case atStart => exact ⟨0, by omega, rfl, Below.refl _ _, rfl⟩
        case round =>
          obtain ⟨k, hkg, rfl, hB, HA⟩ := hrel
          have T1r := T1.below hB
          have T2r := T2.below hB
          have hBw : Below w.heap.size w wr := hB0.trans (hB.mono hB0.size)
          by_cases hk : k < (Tp.kids a).length
          · have hk' : (k : Int) < ((Tp.kids a).length : Int) := by omega
            have hk0 : (0 : Int) ≤ (k : Int) := by omega
            have hkb : k < (Tp.kids b).length := by rw [← HL.out]; exact hk
            have hkb' : (k : Int) < ((Tp.kids b).length : Int) := by omega
            have ga := List.getElem?_eq_getElem hk
            have gb := List.getElem?_eq_getElem hkb
            have ma := hkl _ (List.getElem_mem hk)
            have mb := hklb _ (List.getElem_mem hkb)
            generalize (Tp.kids a)[k] = x at *
            generalize (Tp.kids b)[k] = y at *
            obtain ⟨b1, o1, rfl, hc1, hl1, hcx⟩ := T1r.at (k := k) (p := Tp.enc x) (by rw [List.getElem?_map, ga]; rfl)
            obtain ⟨b2, o2, rfl, hc2, hl2, hcy⟩ := T2r.at (k := k) (p := Tp.enc y) (by rw [List.getElem?_map, gb]; rfl)
            have hrec := fun w => ih x y w (by omega) (by omega) (by omega)
            have HT : Aside (Tp.all2 Tp.prc ((Tp.kids a).take (k + 1)) ((Tp.kids b).take (k + 1)) = Tp.prc x y) := by show _ = _; rw [Tp.all2_take Tp.prc ga gb, HA.out]; rfl
            have HZ : Aside (Tp.prc x y = false → Tp.all2 Tp.prc (Tp.kids a) (Tp.kids b) = false) := Tp.all2_false Tp.prc ga gb
            clear ga gb ih
            cases hxy : Tp.prc x y with
            | true =>
              rw [hxy] at hrec HT
              generalize hsx : S (Tp.enc x) = sx at *
              generalize hsy : S (Tp.enc y) = sy at *
              go_wp2_with fail
              go_region_with (go_at_call 33; refine (hrec _).mono ?_; rintro e w3 ⟨rfl, hB3⟩)
              all_goals
                go_wp2_with fail
                go_roundg (gk - 1)
                case measure => omega
                case rel => exact ⟨k + 1, by omega, by go_num, hB.drew.trans (hB3.mono hB.size), HT⟩
            | false =>
              rw [hxy] at hrec
              have HN : Aside (Tp.prc a b = false) := by show _ = _; rw [HR.out]; exact HZ.out hxy
              generalize hsx : S (Tp.enc x) = sx at *
              generalize hsy : S (Tp.enc y) = sy at *
              go_wp2_with fail
              go_region_with (go_at_call 33; refine (hrec _).mono ?_; rintro e w3 ⟨rfl, hB3⟩)
              all_goals
                go_wp2_with fail
                go_ret
                rw [HN.out]
                exact ⟨rfl, hBw.drew.trans (hB3.mono hBw.size)⟩
          · have hk' : decide ((k : Int) < ((Tp.kids a).length : Int)) = false := by simp; omega
            obtain rfl : k = (Tp.kids a).length := by omega
            rw [List.take_length, HL.out, List.take_length] at HA
            go_wp2_with fail
            go_ret
            rw [HR.out, HA.out]
            exact ⟨rfl, hBw⟩
      · have d1 := hd_ne hh
        rw [show decide (Tp.hd a = Tp.hd b) = false by simpa using hh] at hR
        rw [hR]
        clear hR p1 p2 ih
        generalize S (Tp.enc a) = s at *
        generalize S (Tp.enc b) = t at *
        go_enter Try.func33, Try.ntmps33
        go_wp2_with fail
        go_quiet (fail)
        go_wp2_with fail
        go_ret
        exact ⟨rfl, ⟨rfl, rfl, rfl, Nat.le_refl _, fun _ _ => rfl⟩⟩
end Go.Proofs.Ytgkmoifibcmooaa
