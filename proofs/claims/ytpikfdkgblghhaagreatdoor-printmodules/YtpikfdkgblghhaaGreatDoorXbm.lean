/- What the document's Check answers. -/
import Derived.Test.YtpikfdkgblghhaaGreatDoorXbe
import Derived.Test.YtpikfdkgblghhaaGreatDoorXbl
namespace Go.Proofs.YtpikfdkgblghhaaGreatDoor
open Go.RowKit
set_option maxRecDepth 100000
set_option linter.unusedSimpArgs false

theorem chkN_ref {l : List Tr.Nd} (h : ¬ (l.length = 0 ∨ 4096 < l.length)) : chkN l = match Tr.bad Tr.mayB l (Tr.dps (Tr.kd l) [1]) 0 with
      | some j => (18, j)
      | none => if Tr.go (Tr.kd l) [1] 0 = (true, 0 + l.length) then Tr.fin2 0 (Tr.deep (Tr.dps (Tr.kd l) [1]) 0) else (18, 0 + l.length) := by
  rw [chkN_ck h, Tr.ck_ref Tr.mayB (fun x hx => Tr.mayB_kids hx) l [1] 0 0 (by simp)]; rfl
theorem chkN_bad {l : List Tr.Nd} (h : ¬ (l.length = 0 ∨ 4096 < l.length)) {j : Nat} (hb : Tr.bad Tr.mayB l (Tr.dps (Tr.kd l) [1]) 0 = some j) : chkN l = (18, j) := by
  rw [chkN_ref h, hb]
theorem bh0_go {l : List Tr.Nd} (h : 0 < l.length) : bhI l 0 = l.length ↔ Tr.go (Tr.kd l) [1] 0 = (true, l.length) := by
  have h1 := bhI_go h
  rw [List.drop_zero] at h1
  rw [show ((0 : Nat) : Int) = 0 from rfl] at h1
  rw [h1]
  cases hg : Tr.go (Tr.kd l) [1] 0 with
  | mk b e => cases b <;> simp <;> omega
theorem chkN_short {l : List Tr.Nd} (h : ¬ (l.length = 0 ∨ 4096 < l.length)) (hb : Tr.bad Tr.mayB l (Tr.dps (Tr.kd l) [1]) 0 = none) (hg : bhI l 0 ≠ l.length) : chkN l = (18, l.length) := by
  rw [chkN_ref h, hb]
  simp only [Nat.zero_add]
  rw [if_neg (fun e => hg ((bh0_go (by omega)).2 e))]
theorem chkN_fin {l : List Tr.Nd} (h : ¬ (l.length = 0 ∨ 4096 < l.length)) (hb : Tr.bad Tr.mayB l (Tr.dps (Tr.kd l) [1]) 0 = none) (hg : bhI l 0 = l.length) : chkN l = Tr.fin2 0 (Tr.deep (Tr.dps (Tr.kd l) [1]) 0) := by
  rw [chkN_ref h, hb]
  simp only [Nat.zero_add]
  rw [if_pos ((bh0_go (by omega)).1 hg)]
theorem ret_two {a b c d : Int} (h : a = c) (h' : b = d) : Ending.returned (.tuple #[.int .i64 a, .int .i64 b]) = .returned (.tuple #[.int .i64 c, .int .i64 d]) := by rw [h, h']
theorem deep_at {D : List Nat} {k d : Nat} (h : D[k]? = some d) : Tr.deep (D.drop k) k = if 64 < d then some k else Tr.deep (D.drop (k + 1)) (k + 1) := by
  obtain ⟨hk, rfl⟩ := List.getElem?_eq_some_iff.1 h
  rw [List.drop_eq_getElem_cons hk, Tr.deep]

set_option maxHeartbeats 8000000 in
theorem refCheck_any (l : List Tr.Nd) (hf : Fits l) (v : Value) (w : World) (hl : IsNodes w v l) :
    Calls Tryz.prog 28 #[v] w fun e w' => e = .returned (.tuple #[.int .i64 ((chkN l).1 : Int), .int .i64 ((chkN l).2 : Int)]) ∧ Below w.heap.size w w' := by
  obtain ⟨a, c, rfl⟩ := hl.form
  by_cases h0 : l.length = 0
  · have HN : Aside (chkN l = (17, 0)) := chkN_many (.inl h0)
    have h0' : (l.length : Int) < 1 := by omega
    go_enter Tryz.func28, Tryz.ntmps28
    go_wp2_with fail
    go_ret2
    exact ⟨ret_two (by rw [HN.out]; rfl) (by rw [HN.out]; rfl), Below.refl _ _⟩
  · have hp : 0 < l.length := by omega
    have h0' : decide ((l.length : Int) < 1) = false := by simp; omega
    by_cases h1 : 4096 < l.length
    · have HN : Aside (chkN l = (17, 0)) := chkN_many (.inr h1)
      have h1' : (4096 : Int) < (l.length : Int) := by omega
      go_enter Tryz.func28, Tryz.ntmps28
      go_wp2_with fail
      go_ret2
      exact ⟨ret_two (by rw [HN.out]; rfl) (by rw [HN.out]; rfl), Below.refl _ _⟩
    · have h1' : decide ((4096 : Int) < (l.length : Int)) = false := by simp; omega
      have hn : ¬ (l.length = 0 ∨ 4096 < l.length) := by omega
      have HNN : Aside (¬ (l.length = 0 ∨ 4096 < l.length)) := hn
      have hDl : (Tr.dps (Tr.kd l) [1]).length ≤ l.length := by have := Tr.dps_le (Tr.kd l) [1]; rwa [Tr.kd_len] at this
      have hd := refDepths_any l (by omega) hf.kids _ w hl
      have hl4 : l.length ≤ 4096 := by omega
      clear hn h0 h1
      have HB0 : Aside (∀ j, Tr.bad Tr.mayB l (Tr.dps (Tr.kd l) [1]) 0 = some j → chkN l = (18, j)) := fun j hj => chkN_bad HNN.out hj
      have HB1 : Aside (Tr.bad Tr.mayB l (Tr.dps (Tr.kd l) [1]) 0 = none → bhI l 0 ≠ l.length → chkN l = (18, l.length)) := fun hj hg => chkN_short HNN.out hj hg
      have HB2 : Aside (Tr.bad Tr.mayB l (Tr.dps (Tr.kd l) [1]) 0 = none → bhI l 0 = l.length → chkN l = Tr.fin2 0 (Tr.deep (Tr.dps (Tr.kd l) [1]) 0) ∧ l.length ≤ (Tr.dps (Tr.kd l) [1]).length) := fun hj hg => ⟨chkN_fin HNN.out hj hg, (Tr.bad_end hj).2⟩
      clear HNN
      generalize Tr.dps (Tr.kd l) [1] = D at *
      go_enter Tryz.func28, Tryz.ntmps28
      go_upto_region 4 with (go_at_call 56; refine hd.mono ?_; rintro e w1 ⟨r, rfl, hown, hB1⟩; obtain ⟨ra, rc, hr⟩ := own_len hown; subst hr)
      clear hd h0' h1'
      go_wp2_with fail
      go_loopg [6] l.length (fun g t wr => ∃ k : Nat, k + g = l.length ∧ t = .int .i64 (k : Int) ∧ Below w.heap.size w wr ∧ wr.ownsRow w.heap.size 3 1 (.slice ra D.length rc) D.length (icells D) ∧ Aside (Tr.bad Tr.mayB l D 0 = Tr.bad Tr.mayB (l.drop k) (D.drop k) k))
      case atStart => exact ⟨0, by omega, rfl, hB1, hown, rfl⟩
      case round =>
        obtain ⟨k, hkg, rfl, hB, hownr, HK⟩ := hrel
        clear hown hB1
        by_cases hk : k < l.length
        · have hk' : (k : Int) < (l.length : Int) := by omega
          have hk0 : (0 : Int) ≤ (k : Int) := by omega
          obtain ⟨x, hx, hdx⟩ := getc hk
          obtain ⟨b1, o1, rfl, hc1, hl1, hcx⟩ := (hl.below hB).at hx
          obtain ⟨p0, p1, p2, p3, p4, p5, p6, p7⟩ := agg_cells (o := o1 + k * 8) hcx
          have hmay := rmay_any x (hf.str x (List.mem_of_getElem? hx))
          have hws : w.heap.size ≤ wr.heap.size := hB.size
          rw [show Tr.agg x = .agg #[.int .i8 x.kind, .int .i64 x.kids, .int .i64 x.n, .string x.s, .string x.t, .string x.u, .int .i64 x.ln, .int .i64 x.co] from rfl] at hmay
          by_cases hkD : k < D.length
          · have hkD' : decide ((D.length : Int) ≤ (k : Int)) = false := by simp; omega
            have hdD := List.drop_eq_getElem_cons hkD
            cases hm : Tr.mayB x
            · have HR : Aside (chkN l = (18, k)) := HB0.out k (by rw [HK.out, hdx, hdD, Tr.bad, if_pos hm])
              rw [hm] at hmay
              clear HK hcx hdx hdD HB0 HB1 HB2 hx hm
              go_wp2_with (go_at_call 57; refine (hmay _).mono ?_; rintro e w2 ⟨rfl, hB2⟩)
              go_ret2
              exact ⟨ret_two (by rw [HR.out]; rfl) (by rw [HR.out]), hB.trans (hB2.mono hws)⟩
            · have HS : Aside (Tr.bad Tr.mayB l D 0 = Tr.bad Tr.mayB (l.drop (k + 1)) (D.drop (k + 1)) (k + 1)) := by
                show _ = _; rw [HK.out, hdx, hdD, Tr.bad, if_neg (by rw [hm]; decide)]
              rw [hm] at hmay
              clear HK hcx hdx hdD HB0 HB1 HB2 hx hm
              go_wp2_with (go_at_call 57; refine (hmay _).mono ?_; rintro e w2 ⟨rfl, hB2⟩)
              go_roundg (l.length - (k + 1))
              case measure => omega
              case rel => exact ⟨k + 1, by omega, by go_num, hB.trans (hB2.mono hws), own_below hownr hB2, HS⟩
          · have hkD' : (D.length : Int) ≤ (k : Int) := by omega
            have HR : Aside (chkN l = (18, k)) := HB0.out k (by rw [HK.out, hdx, show D.drop k = [] from List.drop_eq_nil_of_le (by omega)]; rfl)
            clear HK hcx hdx HB0 HB1 HB2 hx
            generalize Tr.mayB x = f at *
            cases f
            · go_wp2_with (go_at_call 57; refine (hmay _).mono ?_; rintro e w2 ⟨rfl, hB2⟩)
              go_ret2
              exact ⟨ret_two (by rw [HR.out]; rfl) (by rw [HR.out]), hB.trans (hB2.mono hws)⟩
            · go_wp2_with (go_at_call 57; refine (hmay _).mono ?_; rintro e w2 ⟨rfl, hB2⟩)
              go_ret2
              exact ⟨ret_two (by rw [HR.out]; rfl) (by rw [HR.out]), hB.trans (hB2.mono hws)⟩
        · have hk' : ¬ (k : Int) < (l.length : Int) := by omega
          have HN : Aside (Tr.bad Tr.mayB l D 0 = none) := by show _ = _; rw [HK.out, List.drop_eq_nil_of_le (by omega)]; rfl
          have hbh := refBehind_any l (by omega) _ 0 wr (hl.below hB)
          clear HK HB0
          by_cases hbl : bhI l 0 = l.length
          · have hbl' : ((l.length : Int) != (l.length : Int)) = false := by simp
            rw [hbl] at hbh
            obtain ⟨hch, hlD⟩ := HB2.out HN.out hbl
            have HC : Aside (chkN l = Tr.fin2 0 (Tr.deep D 0)) := hch
            clear HB1 HB2 HN hbl hch
            go_wp2_with (go_at_call 58; refine hbh.mono ?_; rintro e w2 ⟨rfl, hw2⟩; replace hw2 := hw2.symm; subst hw2)
            clear hbl' hbh
            go_loopg [8] l.length (fun g t w2 => wr = w2 ∧ ∃ k : Nat, k + g = l.length ∧ t = .int .i64 (k : Int) ∧ Aside (Tr.deep D 0 = Tr.deep (D.drop k) k))
            case atStart => exact ⟨rfl, 0, by omega, rfl, rfl⟩
            case round =>
              obtain ⟨rfl, k2, hkg2, rfl, HK2⟩ := hrel
              by_cases hk2 : k2 < l.length
              · have hk2' : (k2 : Int) < (l.length : Int) := by omega
                have hk20 : (0 : Int) ≤ (k2 : Int) := by omega
                have hkD2 : k2 < D.length := by omega
                have hkD3 : (k2 : Int) < (D.length : Int) := by omega
                obtain ⟨d, hd⟩ : ∃ d, D[k2]? = some d := ⟨D[k2], List.getElem?_eq_getElem hkD2⟩
                obtain ⟨b, cap, hv, hcap, hbg, hcell⟩ := own_cells hownr (by omega)
                cases hv
                have c0 : wr.cell? ⟨b, k2, none⟩ = some (.int .i64 (d : Int)) := by
                  rw [hcell k2 (by omega)]; simp [icells, hd]
                have HS := deep_at hd
                by_cases h64 : 64 < d
                · have h64' : (64 : Int) < (d : Int) := by omega
                  have HR : Aside (chkN l = (16, k2)) := by show _ = _; rw [HC.out, HK2.out, HS, if_pos h64]; rfl
                  clear HS HK2 HC hd hcell
                  go_wp2_with fail
                  go_ret2
                  exact ⟨ret_two (by rw [HR.out]; rfl) (by rw [HR.out]), hB⟩
                · have h64' : decide ((64 : Int) < (d : Int)) = false := by simp; omega
                  have HK3 : Aside (Tr.deep D 0 = Tr.deep (D.drop (k2 + 1)) (k2 + 1)) := by show _ = _; rw [HK2.out, HS, if_neg h64]
                  clear HS HK2 HC hd hcell h64
                  go_wp2_with fail
                  go_roundg (l.length - (k2 + 1))
                  case measure => omega
                  case rel => exact ⟨rfl, k2 + 1, by omega, by go_num, HK3⟩
              · have hk2' : ¬ (k2 : Int) < (l.length : Int) := by omega
                have HR : Aside (chkN l = (0, 0)) := by
                  show _ = _
                  rw [HC.out, HK2.out, List.drop_eq_nil_of_le (by omega)]; rfl
                clear HC HK2
                go_wp2_with fail
                go_ret2
                exact ⟨ret_two (by rw [HR.out]; rfl) (by rw [HR.out]; rfl), hB⟩
          · have hbl' : ((bhI l 0 : Int) != (l.length : Int)) = true := by simp; omega
            have HR : Aside (chkN l = (18, l.length)) := HB1.out HN.out hbl
            clear HB1 HB2 HN hbl
            generalize bhI l 0 = z at *
            go_wp2_with (go_at_call 58; refine hbh.mono ?_; rintro e w2 ⟨rfl, hw2⟩; replace hw2 := hw2.symm; subst hw2)
            go_ret2
            exact ⟨ret_two (by rw [HR.out]; rfl) (by rw [HR.out]), hB⟩
end Go.Proofs.YtpikfdkgblghhaaGreatDoor
