/- The document's grounds. -/
import Derived.Test.YtaaokecdmbmgbaaGreatDoorUbc
import Derived.Deep.RegionWith
import Derived.Deep.RegionHeld3
namespace Go.Proofs.YtaaokecdmbmgbaaGreatDoor
open Go.RowKit Cc
set_option maxRecDepth 100000
set_option linter.unusedSimpArgs false
set_option linter.unusedVariables false
namespace Cc
theorem gs_drop {x : N} {cs : List C} {k : Nat} {c : C} (h : cs[k]? = some c) : gs x k (cs.drop k) = (gK x k c && gs x (k + 1) (cs.drop (k + 1))) := by
  obtain ⟨hk, rfl⟩ := List.getElem?_eq_some_iff.1 h
  rw [List.drop_eq_getElem_cons hk, gs]
end Cc
set_option maxHeartbeats 12800000 in
theorem dgrounds_any (c : C) (v : Value) (lo hi : Nat) (w : World) (hd : DT w lo hi c v) (hh : hi ≤ w.heap.size) :
    Calls Tryz.prog 62 #[tree (nod c) v] w fun e w' => e = .returned (.bool (grB c)) ∧ Below w.heap.size w w' := by
  obtain ⟨a, cap, ks, rfl, hm, hds, hrow⟩ := hd.row
  have HG : Aside (gs (nod c) 0 (ks.map Prod.fst) = grB c) := by rw [hm]; exact gs_grB c
  have hn : ks.length ≤ 2 := by
    have := congrArg List.length hm
    rw [List.length_map] at this
    rw [this]; cases c <;> simp [kidsC]
  generalize grB c = R at *
  generalize nod c = x at *
  have HR : Aside (ks ≠ [] → ∃ g, a = some ⟨g, 0, none⟩ ∧ lo ≤ g ∧ g < hi ∧ Row8 w g ks) := hrow
  have HD : Aside (∀ k ∈ ks, DT w lo hi k.1 k.2) := hds
  clear hd hm hds hrow
  go_enter Tryz.func62, Tryz.ntmps62
  go_wp2
  obtain ⟨W0, hW0⟩ : ∃ W0, W0 = w.alloc (.cells #[.int .i8 x.op, .int .i64 x.proj, .bool x.inj, .int .u8 x.head, .int .i64 x.label, .int .u8 x.frm, .int .u8 x.tto, .slice a ks.length cap] 31) := ⟨_, rfl⟩
  have hB0 : Below w.heap.size w W0 := by rw [hW0]; exact (Below.refl _ _).alloc (Nat.le_refl _) _
  have hT : W0.cell? ⟨w.heap.size, 0, none⟩ = some (.int .i8 x.op) ∧ W0.cell? ⟨w.heap.size, 1, none⟩ = some (.int .i64 x.proj) ∧ W0.cell? ⟨w.heap.size, 2, none⟩ = some (.bool x.inj) ∧ W0.cell? ⟨w.heap.size, 7, none⟩ = some (.slice a ks.length cap) ∧ w.heap.size < W0.heap.size := by rw [hW0]; simp
  rw [← hW0]
  clear hW0
  go_loopg [3] ks.length (fun gq tq wr => ∃ k : Nat, k + gq = ks.length ∧ tq = .int .i64 (k : Int) ∧ Below W0.heap.size W0 wr ∧ Aside (R = gs x k ((ks.map Prod.fst).drop k)))
  case atStart => exact ⟨0, by omega, rfl, Below.refl _ _, by rw [Aside, HG.out.symm]; simp⟩
  case round =>
    obtain ⟨k, hkg, rfl, hB, HD2⟩ := hrel
    obtain ⟨t0, t1, t2, t7, t8⟩ := hT
    have HT0 : Aside (W0.cell? ⟨w.heap.size, 0, none⟩ = some (.int .i8 x.op) ∧ W0.cell? ⟨w.heap.size, 1, none⟩ = some (.int .i64 x.proj) ∧ W0.cell? ⟨w.heap.size, 2, none⟩ = some (.bool x.inj)) := ⟨t0, t1, t2⟩
    have c0 := (hB.cell (p := ⟨w.heap.size, 0, none⟩) t8).trans t0
    have c1 := (hB.cell (p := ⟨w.heap.size, 1, none⟩) t8).trans t1
    have c2 := (hB.cell (p := ⟨w.heap.size, 2, none⟩) t8).trans t2
    have c7 := (hB.cell (p := ⟨w.heap.size, 7, none⟩) t8).trans t7
    by_cases hk : k < ks.length
    · have hk' : (k : Int) < (ks.length : Int) := by omega
      obtain ⟨⟨d, dv⟩, hx⟩ : ∃ y, ks[k]? = some y := ⟨_, List.getElem?_eq_getElem hk⟩
      obtain ⟨g, rfl, hg1, hg2, hR8⟩ := HR.out (by rintro rfl; simp at hk)
      have hBw : Below w.heap.size w wr := hB0.trans (hB.mono hB0.size)
      have hA8 := (hR8.keep (hBw.block g (by omega))).at hx
      obtain ⟨a0, a1, a2, a3, a4, a5, a6, a7⟩ := hA8
      obtain ⟨da, dn, dc, rfl⟩ : ∃ da dn dc, dv = .slice da dn dc := by
        obtain ⟨da, dc, ks', e, -⟩ := (HD.out _ (List.mem_of_getElem? hx)).row
        exact ⟨da, _, dc, e⟩
      have HS : Aside (R = (gK x k d && gs x (k + 1) ((ks.map Prod.fst).drop (k + 1)))) := by
        rw [Aside, HD2.out, gs_drop (c := d) (by simp [hx])]
      have HF : Aside (fin d = _) := fin_nod d
      have cb := dbegins_any d da dn dc
      have ce := dends_any d da dn dc
      have ct := dturned_any x.op k
      clear hx hR8 t0 t1 t2 t7
      generalize nod d = y at *
      go_wp2
      obtain ⟨W1, hW1⟩ : ∃ W1, W1 = wr.alloc (.cells #[.int .i8 y.op, .int .i64 y.proj, .bool y.inj, .int .u8 y.head, .int .i64 y.label, .int .u8 y.frm, .int .u8 y.tto, .slice da dn dc] 31) := ⟨_, rfl⟩
      rw [← hW1]
      obtain ⟨KB, hKB⟩ : ∃ KB, KB = wr.heap.size := ⟨_, rfl⟩
      rw [← hKB]
      have HB1 : Aside (Below W0.heap.size W0 W1) := by rw [Aside, hW1]; exact hB.alloc hB.size _
      have hK : KB < W1.heap.size := by rw [hW1, hKB]; simp
      have S1 : (fun W : World => W.cell? ⟨KB, 0, none⟩ = some (.int .i8 y.op) ∧ W.cell? ⟨KB, 1, none⟩ = some (.int .i64 y.proj) ∧ W.cell? ⟨KB, 2, none⟩ = some (.bool y.inj) ∧ W.cell? ⟨KB, 3, none⟩ = some (.int .u8 y.head) ∧ W.cell? ⟨KB, 4, none⟩ = some (.int .i64 y.label) ∧ W.cell? ⟨KB, 5, none⟩ = some (.int .u8 y.frm) ∧ W.cell? ⟨KB, 6, none⟩ = some (.int .u8 y.tto) ∧ W.cell? ⟨KB, 7, none⟩ = some (.slice da dn dc)) W1 := by
        rw [hW1, hKB]; simp
      have hstep : ∀ W w' : World, Below W1.heap.size W1 W → Below W.heap.size W w' → (w'.cell? ⟨KB, 0, none⟩ = some (.int .i8 y.op) ∧ w'.cell? ⟨KB, 1, none⟩ = some (.int .i64 y.proj) ∧ w'.cell? ⟨KB, 2, none⟩ = some (.bool y.inj) ∧ w'.cell? ⟨KB, 3, none⟩ = some (.int .u8 y.head) ∧ w'.cell? ⟨KB, 4, none⟩ = some (.int .i64 y.label) ∧ w'.cell? ⟨KB, 5, none⟩ = some (.int .u8 y.frm) ∧ w'.cell? ⟨KB, 6, none⟩ = some (.int .u8 y.tto) ∧ w'.cell? ⟨KB, 7, none⟩ = some (.slice da dn dc)) ∧ Below W1.heap.size W1 w' := by
        intro W w' h1 h2
        have h3 := h1.trans (h2.mono h1.size)
        obtain ⟨s0, s1, s2, s3, s4, s5, s6, s7⟩ := S1
        exact ⟨⟨(h3.cell (p := ⟨KB, 0, none⟩) hK).trans s0, (h3.cell (p := ⟨KB, 1, none⟩) hK).trans s1, (h3.cell (p := ⟨KB, 2, none⟩) hK).trans s2, (h3.cell (p := ⟨KB, 3, none⟩) hK).trans s3, (h3.cell (p := ⟨KB, 4, none⟩) hK).trans s4, (h3.cell (p := ⟨KB, 5, none⟩) hK).trans s5, (h3.cell (p := ⟨KB, 6, none⟩) hK).trans s6, (h3.cell (p := ⟨KB, 7, none⟩) hK).trans s7⟩, h3⟩
      obtain ⟨fd, hfd⟩ : ∃ fd, fd = fin d := ⟨_, rfl⟩
      obtain ⟨bd, hbd⟩ : ∃ bd, bd = beg d := ⟨_, rfl⟩
      have cb' : ∀ W, Below W1.heap.size W1 W → Calls Tryz.prog 26 #[tree y (.slice da dn dc)] W fun e w' => e = .returned (.bool bd) ∧ (w'.cell? ⟨KB, 0, none⟩ = some (.int .i8 y.op) ∧ w'.cell? ⟨KB, 1, none⟩ = some (.int .i64 y.proj) ∧ w'.cell? ⟨KB, 2, none⟩ = some (.bool y.inj) ∧ w'.cell? ⟨KB, 3, none⟩ = some (.int .u8 y.head) ∧ w'.cell? ⟨KB, 4, none⟩ = some (.int .i64 y.label) ∧ w'.cell? ⟨KB, 5, none⟩ = some (.int .u8 y.frm) ∧ w'.cell? ⟨KB, 6, none⟩ = some (.int .u8 y.tto) ∧ w'.cell? ⟨KB, 7, none⟩ = some (.slice da dn dc)) ∧ Below W1.heap.size W1 w' := fun W hW => by
        refine (cb W).mono ?_
        rintro e w' ⟨rfl, h⟩
        exact ⟨by rw [hbd], hstep W w' hW h⟩
      have HGK : Aside (gK x k d = !(((x.proj != 0) && !(if trn x.op k then fd else bd)) || (x.inj && !(if trn x.op k then bd else fd)))) := by rw [Aside, gK, hfd, hbd]
      have HFd : Aside (fd = (decide (y.op = 1) || y.inj || decide (y.op = 7))) := hfd.trans HF.out
      clear hfd hbd cb HF hW1 hKB a0 a1 a2 a3 a4 a5 a6 a7
      generalize gK x k d = G at *
      generalize trn x.op k = T at *
      have HFIN : Aside (∀ w9, Below W1.heap.size W1 w9 → Below W0.heap.size W0 w9) := fun w9 h => HB1.out.trans (h.mono HB1.out.size)
      have HM : Aside (∀ w9, Below W1.heap.size W1 w9 → w9.cell? ⟨w.heap.size, 0, none⟩ = some (.int .i8 x.op) ∧ w9.cell? ⟨w.heap.size, 1, none⟩ = some (.int .i64 x.proj) ∧ w9.cell? ⟨w.heap.size, 2, none⟩ = some (.bool x.inj)) := by
        intro w9 h
        have h9 := HFIN.out w9 h
        exact ⟨(h9.cell (p := ⟨w.heap.size, 0, none⟩) t8).trans HT0.out.1, (h9.cell (p := ⟨w.heap.size, 1, none⟩) t8).trans HT0.out.2.1, (h9.cell (p := ⟨w.heap.size, 2, none⟩) t8).trans HT0.out.2.2⟩
      simp only at S1
      obtain ⟨s0, s1, s2, s3, s4, s5, s6, s7⟩ := S1
      cases hE : (decide (y.op = 1) || y.inj)
      · have ce' : ∀ W, Below W1.heap.size W1 W → Calls Tryz.prog 25 #[tree y (.slice da dn dc)] W fun e w' => e = .returned (.bool false) ∧ (w'.cell? ⟨KB, 0, none⟩ = some (.int .i8 y.op) ∧ w'.cell? ⟨KB, 1, none⟩ = some (.int .i64 y.proj) ∧ w'.cell? ⟨KB, 2, none⟩ = some (.bool y.inj) ∧ w'.cell? ⟨KB, 3, none⟩ = some (.int .u8 y.head) ∧ w'.cell? ⟨KB, 4, none⟩ = some (.int .i64 y.label) ∧ w'.cell? ⟨KB, 5, none⟩ = some (.int .u8 y.frm) ∧ w'.cell? ⟨KB, 6, none⟩ = some (.int .u8 y.tto) ∧ w'.cell? ⟨KB, 7, none⟩ = some (.slice da dn dc)) ∧ Below W1.heap.size W1 w' := fun W hW => by
          refine (ce W).mono ?_
          rintro e w' ⟨rfl, h⟩
          exact ⟨by rw [hE], hstep W w' hW h⟩
        have HFd2 : Aside (fd = decide (y.op = 7)) := by rw [Aside, HFd.out, hE]; rfl
        clear ce HFd hE hstep c0 c1 c2 c7
        go_region_held3 (fun W => W.cell? ⟨KB, 0, none⟩ = some (.int .i8 y.op) ∧ W.cell? ⟨KB, 1, none⟩ = some (.int .i64 y.proj) ∧ W.cell? ⟨KB, 2, none⟩ = some (.bool y.inj) ∧ W.cell? ⟨KB, 3, none⟩ = some (.int .u8 y.head) ∧ W.cell? ⟨KB, 4, none⟩ = some (.int .i64 y.label) ∧ W.cell? ⟨KB, 5, none⟩ = some (.int .u8 y.frm) ∧ W.cell? ⟨KB, 6, none⟩ = some (.int .u8 y.tto) ∧ W.cell? ⟨KB, 7, none⟩ = some (.slice da dn dc)) (first | assumption | go_keep) (first | (go_at_call 26; refine (cb' _ (by first | assumption | exact Below.drew (Below.refl _ _) | exact Below.refl _ _)).mono ?_; rintro e w2 ⟨rfl, hs2, hB2⟩; clear cb') | (go_at_call 25; refine (ce' _ (by first | assumption | exact Below.drew (Below.refl _ _) | exact Below.refl _ _)).mono ?_; rintro e w3 ⟨rfl, hs3, hB3⟩; clear ce'))
        obtain ⟨m0, m1, m2⟩ := HM.out w3 hB3
        have hB4 := HFIN.out w3 hB3
        rw [show (y.op == 7) = fd by rw [HFd2.out]; rfl]
        clear HM HFIN hB2 hB3 hs2 hs3 s0 s1 s2 s3 s4 s5 s6 s7 HFd2 HT0 HB1 hK
        have HBe : Aside (Below w.heap.size w w3) := hB0.trans (hB4.mono hB0.size)
        have HB4 : Aside (Below W0.heap.size W0 w3) := hB4
        have HK : Aside (k + gk = ks.length ∧ k < ks.length) := ⟨hkg, hk⟩
        have hk9 : (k : Int) ≤ 2 := by omega
        have hk8 : (0 : Int) ≤ (k : Int) := by omega
        clear hB4 hB hBw hkg hg1 hg2 hh hn
        by_cases hp : x.proj = 0
        all_goals cases hj : x.inj
        all_goals (rw [hj] at m2 HGK)
        all_goals cases T
        all_goals cases bd
        all_goals cases fd
        all_goals
          have HG1 : Aside (G = _) := HGK.out
          simp [hp, Aside] at HG1
          clear HGK
          subst HG1
        all_goals
          go_wp2_with (go_at_call 67; refine (ct _).mono ?_; rintro e w5 ⟨rfl, rfl⟩)
        all_goals first
          | (go_roundg (ks.length - (k + 1))
             case measure => (have := HK.out; omega)
             case rel => exact ⟨k + 1, by have := HK.out; omega, by go_num, HB4.out, by rw [Aside, HS.out]; first | (simp; done) | (simp [hp]; done)⟩)
          | (go_ret
             exact ⟨ret_b (by rw [HS.out]; first | (simp; done) | (simp [hp]; done)), HBe.out⟩)
      · have ce' : ∀ W, Below W1.heap.size W1 W → Calls Tryz.prog 25 #[tree y (.slice da dn dc)] W fun e w' => e = .returned (.bool true) ∧ (w'.cell? ⟨KB, 0, none⟩ = some (.int .i8 y.op) ∧ w'.cell? ⟨KB, 1, none⟩ = some (.int .i64 y.proj) ∧ w'.cell? ⟨KB, 2, none⟩ = some (.bool y.inj) ∧ w'.cell? ⟨KB, 3, none⟩ = some (.int .u8 y.head) ∧ w'.cell? ⟨KB, 4, none⟩ = some (.int .i64 y.label) ∧ w'.cell? ⟨KB, 5, none⟩ = some (.int .u8 y.frm) ∧ w'.cell? ⟨KB, 6, none⟩ = some (.int .u8 y.tto) ∧ w'.cell? ⟨KB, 7, none⟩ = some (.slice da dn dc)) ∧ Below W1.heap.size W1 w' := fun W hW => by
          refine (ce W).mono ?_
          rintro e w' ⟨rfl, h⟩
          exact ⟨by rw [hE], hstep W w' hW h⟩
        have HFd2 : Aside (fd = true) := by rw [Aside, HFd.out, hE]; rfl
        clear ce HFd hE hstep c0 c1 c2 c7
        first | (go_region_with (first | (go_at_call 26; refine (cb' _ (by first | assumption | exact Below.drew (Below.refl _ _) | exact Below.refl _ _)).mono ?_; rintro e w2 ⟨rfl, hs2, hB2⟩; obtain ⟨p0, p1, p2, p3, p4, p5, p6, p7⟩ := hs2; clear cb') | (go_at_call 25; refine (ce' _ (by first | assumption | exact Below.drew (Below.refl _ _) | exact Below.refl _ _)).mono ?_; rintro e w3 ⟨rfl, hs3, hB3⟩; obtain ⟨q0, q1, q2, q3, q4, q5, q6, q7⟩ := hs3; clear ce'))) | fail
        all_goals
          obtain ⟨m0, m1, m2⟩ := HM.out w3 hB3
          have hB4 := HFIN.out w3 hB3
          have hfd := HFd2.out; subst hfd
          clear HM HFIN hB2 hB3 s0 s1 s2 s3 s4 s5 s6 s7 HFd2 HT0 HB1 hK
          have HBe : Aside (Below w.heap.size w w3) := hB0.trans (hB4.mono hB0.size)
          have HB4 : Aside (Below W0.heap.size W0 w3) := hB4
          have HK : Aside (k + gk = ks.length ∧ k < ks.length) := ⟨hkg, hk⟩
          have hk9 : (k : Int) ≤ 2 := by omega
          have hk8 : (0 : Int) ≤ (k : Int) := by omega
          clear hB4 hB hBw hkg hg1 hg2 hh hn
          by_cases hp : x.proj = 0
          all_goals cases hj : x.inj
          all_goals (rw [hj] at m2 HGK)
          all_goals cases T
          all_goals cases bd
          all_goals
            have HG1 : Aside (G = _) := HGK.out
            simp [hp, Aside] at HG1
            clear HGK
            subst HG1
          all_goals
            go_wp2_with (go_at_call 67; refine (ct _).mono ?_; rintro e w5 ⟨rfl, rfl⟩)
          all_goals first
            | (go_roundg (ks.length - (k + 1))
               case measure => (have := HK.out; omega)
               case rel => exact ⟨k + 1, by have := HK.out; omega, by go_num, HB4.out, by rw [Aside, HS.out]; first | (simp; done) | (simp [hp]; done)⟩)
            | (go_ret
               exact ⟨ret_b (by rw [HS.out]; first | (simp; done) | (simp [hp]; done)), HBe.out⟩)
    · have hk' : ¬ (k : Int) < (ks.length : Int) := by omega
      go_wp2
      go_ret
      refine ⟨ret_b ?_, hB0.trans (hB.mono hB0.size)⟩
      rw [HD2.out, List.drop_of_length_le (by simp; omega)]
      rfl
end Go.Proofs.YtaaokecdmbmgbaaGreatDoor
