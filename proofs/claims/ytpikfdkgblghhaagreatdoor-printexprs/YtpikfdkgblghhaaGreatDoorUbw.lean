/- The document's Expr; PrintExprs returns true, whatever list is handed in. -/
import Derived.Test.YtpikfdkgblghhaaGreatDoorUbm
import Derived.Test.YtpikfdkgblghhaaGreatDoorUbq
import Derived.Test.YtpikfdkgblghhaaGreatDoorUbv
import Derived.Test.YtpikfdkgblghhaaGreatDoorUbh
namespace Go.Proofs.YtpikfdkgblghhaaGreatDoor
open Go.RowKit Pn
set_option maxRecDepth 100000
set_option linter.unusedSimpArgs false
set_option linter.unusedVariables false

set_option maxHeartbeats 2000000 in
theorem refExpr_bad (l : List Tr.Nd) (hf : Fits l) (v : Value) (w : World) (hl : IsNodes w v l) (hc : (chkN l).1 ≠ 0) :
    Calls Tryz.prog 10 #[v] w fun e w' => e = .returned (.tuple #[.string (S []), .int .i64 ((chkN l).1 : Int)]) ∧ Below w.heap.size w w' := by
  have hck := refCheck_any l hf v w hl
  have hc' : (((chkN l).1 : Int) != 0) = true := by simpa using hc
  generalize ((chkN l).1 : Int) = r1 at *
  generalize ((chkN l).2 : Int) = r2 at *
  obtain ⟨va, vc, rfl⟩ := hl.form
  clear hc hl
  go_enter Tryz.func10, Tryz.ntmps10
  go_wp2_with (go_at_call 28; refine hck.mono ?_; rintro e w1 ⟨rfl, hB1⟩)
  go_ret2
  exact ⟨rfl, hB1⟩

set_option maxHeartbeats 2000000 in
theorem refExpr_ok (l : List Tr.Nd) (hf : Fits l) (hh : ∀ x ∈ l, Held x) (v : Value) (w : World) (hl : IsNodes w v l) (hc : (chkN l).1 = 0) (t : Tr.T) (hw : Tr.wf t) (ht : l = Tr.flat t) :
    Calls Tryz.prog 10 #[v] w fun e w' => e = .returned (.tuple #[.string (S (srcS (pr Lib.itoa t))), .int .i64 (srcE (pr Lib.itoa t))]) ∧ Below w.heap.size w w' := by
  have hck := refCheck_any l hf v w hl
  obtain ⟨_, _, _, hm, hl4, _⟩ := tree_of hc
  have hg := good_of hw ht hm hh
  have hpart := fun W (hB : Below w.heap.size w W) => refPart_any _ t (Nat.le_refl _) hg l 0 [] v W (hl.below hB) hl4 (by rw [List.drop_zero, List.append_nil]; exact ht)
  obtain ⟨va, vc, rfl⟩ := hl.form
  rw [hc] at hck
  have hck' : Calls Tryz.prog 28 #[.slice va l.length vc] w fun e w' => e = .returned (.tuple #[.int .i64 0, .int .i64 ((chkN l).2 : Int)]) ∧ Below w.heap.size w w' := hck
  generalize ((chkN l).2 : Int) = r2 at *
  have hpart' : ∀ W, Below w.heap.size w W → Calls Tryz.prog 29 #[.slice va l.length vc, .int .i64 0] W fun e w' => e = .returned (.string (S (pr Lib.itoa t))) ∧ Below W.heap.size W w' := hpart
  have hsz : (S (pr Lib.itoa t)).size = (pr Lib.itoa t).length := S_size _
  clear hl hl4 hc hw ht hck hf hh hg hm hpart
  generalize l.length = ln at *
  generalize pr Lib.itoa t = P at *
  by_cases hP : 65536 < P.length
  · have HS : Aside (srcS P = []) := by show _ = _; unfold srcS; rw [if_pos hP]
    have HE : Aside (srcE P = 10) := by show _ = _; unfold srcE; rw [if_pos hP]
    have hP' : (65536 : Int) < ((S P).size : Int) := by omega
    clear hsz hP
    generalize S P = sp at *
    go_enter Tryz.func10, Tryz.ntmps10
    go_wp2_with (go_at_call 28; refine hck'.mono ?_; rintro e w1 ⟨rfl, hB1⟩)
    refine (hpart' w1 hB1).mono ?_
    rintro e w2 ⟨rfl, hB2⟩
    go_wp2_with fail
    go_ret2
    exact ⟨by rw [HS.out, HE.out]; rfl, hB1.trans (hB2.mono hB1.size)⟩
  · have HS : Aside (srcS P = P) := by show _ = _; unfold srcS; rw [if_neg hP]
    have HE : Aside (srcE P = 0) := by show _ = _; unfold srcE; rw [if_neg hP]
    have hP' : decide ((65536 : Int) < ((S P).size : Int)) = false := by simp; omega
    have HQ : Aside (S (srcS P) = S P) := by show _ = _; rw [HS.out]
    clear hsz hP HS
    generalize S (srcS P) = sq at *
    generalize S P = sp at *
    go_enter Tryz.func10, Tryz.ntmps10
    go_wp2_with (go_at_call 28; refine hck'.mono ?_; rintro e w1 ⟨rfl, hB1⟩)
    refine (hpart' w1 hB1).mono ?_
    rintro e w2 ⟨rfl, hB2⟩
    go_wp2_with fail
    go_ret2
    exact ⟨by rw [HQ.out, HE.out]; rfl, hB1.trans (hB2.mono hB1.size)⟩

/-- Both Exprs answer the same. -/
theorem exprs_same (l : List Tr.Nd) (hf : Fits l) (hh : ∀ x ∈ l, Held x) : ∃ (q : ByteArray) (r : Int),
    (∀ v w, IsNodes w v l → Tab w → Calls Tryz.prog 9 #[v] w fun e w' => e = .returned (.tuple #[.string q, .int .i64 r]) ∧ Below w.heap.size w w') ∧
    ∀ v w, IsNodes w v l → Calls Tryz.prog 10 #[v] w fun e w' => e = .returned (.tuple #[.string q, .int .i64 r]) ∧ Below w.heap.size w w' := by
  by_cases hc : (chkN l).1 = 0
  · obtain ⟨t, hw, ht, _⟩ := tree_of hc
    exact ⟨_, _, fun v w hl hT => pnExpr_ok l hf hh v w hl hT hc t hw ht, fun v w hl => refExpr_ok l hf hh v w hl hc t hw ht⟩
  · exact ⟨_, _, fun v w hl _ => pnExpr_bad l hf v w hl hc, fun v w hl => refExpr_bad l hf v w hl hc⟩

set_option maxHeartbeats 8000000 in
theorem printExprs_any (l : List Tr.Nd) (hf : Fits l) (hh : ∀ x ∈ l, Held x) (v : Value) (w : World) (hl : IsNodes w v l) (hT : Tab w) :
    Calls Tryz.prog 3 #[v] w fun e w' => e = .returned (.bool true) ∧ Below w.heap.size w w' := by
  obtain ⟨a, c, rfl⟩ := hl.form
  obtain ⟨q, r, hp, hr⟩ := exprs_same l hf hh
  have hwk := works7_any w hT
  have hpl := hf.len
  by_cases h5 : 500 < l.length
  · have h5' : (500 : Int) < (l.length : Int) := by omega
    clear hl hp hr
    go_enter Tryz.func3, Tryz.ntmps3
    go_wp2_with (go_at_call 7; refine hwk.mono ?_; rintro e w1 ⟨rfl, hB1⟩)
    go_ret
    exact ⟨rfl, hB1⟩
  · have h5' : decide ((500 : Int) < (l.length : Int)) = false := by simp; omega
    have hlen : l.length ≤ 2147483647 := by omega
    go_enter Tryz.func3, Tryz.ntmps3
    go_wp2_with fail
    refine hwk.mono ?_
    rintro e w1 ⟨rfl, hB1⟩
    have hl1 := hl.below hB1
    have HT1 : Aside (Tab w1) := hT.below hB1
    clear hl hwk
    go_wp2_with fail
    refine (wideNodes_any l hlen _ w1 hl1).mono ?_
    rintro e w2 ⟨rfl, hW2, hB2⟩
    have hl2 := hl1.below hB2
    have hA2 := bt hB1 hB2
    have HT2 : Aside (Tab w2) := HT1.out.below hB2
    generalize w1.heap.size = g at hW2 ⊢
    clear hl1 hB1 hB2
    go_wp2_with fail
    refine (hp _ w2 hW2.nodes HT2.out).mono ?_
    rintro e w3 ⟨rfl, hB3⟩
    have hl3 := hl2.below hB3
    have hW3 := hW2.below hB3
    have hA3 := bt hA2 hB3
    clear hl2 hW2 hA2 hB3
    go_wp2_with fail
    refine (hr _ w3 hl3).mono ?_
    rintro e w4 ⟨rfl, hB4⟩
    have hl4 := hl3.below hB4
    have hW4 := hW3.below hB4
    have hA4 := bt hA3 hB4
    clear hl3 hW3 hA3 hB4
    go_wp2_with fail
    refine (eqNodes_same l hf.len _ _ w4 hW4.nodes hl4).mono ?_
    rintro e w5 ⟨rfl, m, rfl⟩
    have hW5 : Wide (w4.drewN m) g l := hW4.below (below_drewN (Below.refl _ _) m)
    have hA5 : Below w.heap.size w (w4.drewN m) := below_drewN hA4 m
    clear hl4 hW4 hA4
    generalize w4.drewN m = w5 at *
    go_wp2_with fail
    refine (spareNodes_any l hlen g w5 hW5).mono ?_
    rintro e w6 ⟨rfl, hB6⟩
    have hA6 := bt hA5 hB6
    clear hW5 hA5 hB6
    go_wp2_with fail
    go_ret
    exact ⟨rfl, hA6⟩
end Go.Proofs.YtpikfdkgblghhaaGreatDoor
