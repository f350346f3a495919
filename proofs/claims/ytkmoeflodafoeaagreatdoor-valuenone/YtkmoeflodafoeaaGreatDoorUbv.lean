/- Package value: ValueNone. -/
import Derived.Test.YtkmoeflodafoeaaGreatDoorUbe
import Derived.Test.YtkmoeflodafoeaaGreatDoorUbg
import Derived.Test.YtkmoeflodafoeaaGreatDoorUbu
namespace Go.Proofs.YtkmoeflodafoeaaGreatDoor.Vl
open Go.RowKit
open T3.Tp (Ty)
set_option maxRecDepth 100000
set_option linter.unusedSimpArgs false
set_option linter.unusedVariables false
/-- The seven passages. -/
structure Pas (w : World) : Prop where
  a : HasG w 0 62 0 0 true
  r : HasG w 1 62 1 1 false
  g : HasG w 2 120 0 0 false
  s : HasG w 3 120 0 1 true
  f : HasG w 4 44 0 0 false
  t : HasG w 6 44 1 1 false
  e : HasG w 5 108 0 0 false
theorem Pas.below {w w' : World} (h : Pas w) (hB : Below w.heap.size w w') : Pas w' := ⟨h.a.below hB, h.r.below hB, h.g.below hB, h.s.below hB, h.f.below hB, h.t.below hB, h.e.below hB⟩
set_option maxHeartbeats 12800000 in
theorem valueNone_any (n m : Int) (w : World) (hP : Pas w) :
    Calls Tryz.prog 5 #[.int .i64 n, .int .i64 m] w fun e w' => e = .returned (.bool true) ∧ Below w.heap.size w w' := by
  have HP : Aside (∀ W, Below w.heap.size w W → Pas W) := fun W hW => hP.below hW
  clear hP
  have e10 := eq_o10
  go_enter Tryz.func5, Tryz.ntmps5
  go_wp2_with fail
  refine (Fun_any _ _ w).mono ?_
  rintro e w1 ⟨xf, rfl, hf, hB1⟩
  go_wp2_with fail
  refine (Box_any _ _ w1).mono ?_
  rintro e w2 ⟨xb, rfl, hb, hB2⟩
  go_wp2_with fail
  refine (Num_any 3 w2).mono ?_
  rintro e w2' ⟨rfl, hw2⟩
  replace hw2 := hw2.symm
  subst hw2
  obtain ⟨gf, hfe, hgf⟩ := hf
  obtain ⟨gb, hbe, hgb⟩ := hb
  subst hfe hbe
  have HF2 : Aside (FnAt w2 _ _) := ⟨gf, rfl, blk_keep hgf hB2⟩
  have HX2 : Aside (BxAt w2 _ _) := ⟨gb, rfl, hgb⟩
  have HB2 : Aside (Below w.heap.size w w2) := below_b hB1 hB2
  clear hgf hgb hB1 hB2
  unfold nm
  go_wp2_with fail
  refine (Of_i w2).mono ?_
  rintro e w3 ⟨vc, rfl, hO3, hB3⟩
  have HC3 : Aside (Cc.IsCos w3 vc [nodeI]) := Cc.IsCos.own hO3
  have HF3 : Aside (FnAt w3 _ _) := HF2.out.below hB3
  have HX3 : Aside (BxAt w3 _ _) := HX2.out.below hB3
  have HB3 : Aside (Below w.heap.size w w3) := below_b HB2.out hB3
  obtain ⟨ca, ck, hce⟩ := HC3.out.form
  subst hce
  clear hO3 hB3 HF2 HX2 HB2
  go_wp2_with fail
  have HD : Aside (Below w3.heap.size w3 w3) := Below.refl _ _
  refine (Cast_nil w3).mono ?_
  rintro e w4 ⟨rfl, hB4⟩
  have HD : Aside (Below w3.heap.size w3 w4) := below_b HD.out hB4
  have HB4 : Aside (Below w.heap.size w w4) := below_b HB3.out hB4
  clear hB4
  go_wp2_with fail
  refine (Coerce_nil _ w4 (HC3.out.below HD.out)).mono ?_
  rintro e w5 ⟨rfl, hB5⟩
  have HD : Aside (Below w3.heap.size w3 w5) := below_b HD.out hB5
  have HB5 : Aside (Below w.heap.size w w5) := below_b HB4.out hB5
  clear hB5
  go_wp2_with fail
  refine (Arg_nil _ _ 62 0 0 true w5 (HF3.out.below HD.out) (HP.out w5 HB5.out).a).mono ?_
  rintro e w6 ⟨rfl, hB6⟩
  have HD : Aside (Below w3.heap.size w3 w6) := below_b HD.out hB6
  have HB6 : Aside (Below w.heap.size w w6) := below_b HB5.out hB6
  clear hB6
  go_wp2_with fail
  refine (Res_none _ _ 62 1 1 false w6 (HP.out w6 HB6.out).r).mono ?_
  rintro e w7 ⟨rfl, hB7⟩
  have HD : Aside (Below w3.heap.size w3 w7) := below_b HD.out hB7
  have HB7 : Aside (Below w.heap.size w w7) := below_b HB6.out hB7
  clear hB7
  go_wp2_with fail
  refine (Read_nil _ _ 120 0 0 false w7 (HX3.out.below HD.out) (HP.out w7 HB7.out).g).mono ?_
  rintro e w8 ⟨rfl, hB8⟩
  have HD : Aside (Below w3.heap.size w3 w8) := below_b HD.out hB8
  have HB8 : Aside (Below w.heap.size w w8) := below_b HB7.out hB8
  clear hB8
  go_wp2_with fail
  refine (Write_none _ _ 120 0 1 true w8 (HP.out w8 HB8.out).s).mono ?_
  rintro e w9 ⟨rfl, hB9⟩
  have HD : Aside (Below w3.heap.size w3 w9) := below_b HD.out hB9
  have HB9 : Aside (Below w.heap.size w w9) := below_b HB8.out hB9
  clear hB9
  go_wp2_with fail
  refine (Pair_nl _ _ w9).mono ?_
  rintro e w10 ⟨xp, rfl, hp, hB10⟩
  have HB10 : Aside (Below w.heap.size w w10) := below_b HB9.out hB10
  have HPR : Aside (PrAt w10 xp _ _) := hp
  obtain ⟨gp, rfl, -⟩ := hp
  clear hB10
  go_wp2_with fail
  refine (First_nil _ _ 44 0 0 rfl false w10 HPR.out (HP.out w10 HB10.out).f).mono ?_
  rintro e w11 ⟨rfl, hB11⟩
  have HB11 : Aside (Below w.heap.size w w11) := below_b HB10.out hB11
  clear hB11
  go_wp2_with fail
  refine (Cons_rnl _ _ w11).mono ?_
  rintro e w12 ⟨xc, rfl, hc, hB12⟩
  have HB12 : Aside (Below w.heap.size w w12) := below_b HB11.out hB12
  have HCN : Aside (CnAt w12 xc _ _) := hc
  obtain ⟨gc, rfl, -⟩ := hc
  clear hB12
  go_wp2_with fail
  refine (Tail_nil _ _ 108 0 0 false w12 HCN.out (HP.out w12 HB12.out).e).mono ?_
  rintro e w13 ⟨rfl, hB13⟩
  have HB13 : Aside (Below w.heap.size w w13) := below_b HB12.out hB13
  clear hB13
  go_wp2_with fail
  refine (Head_nil 108 0 0 false w13 (HP.out w13 HB13.out).e).mono ?_
  rintro e w14 ⟨rfl, hB14⟩
  have HB14 : Aside (Below w.heap.size w w14) := below_b HB13.out hB14
  clear hB14
  go_wp2_with fail
  refine (Seen_nil _ w14 ?_).mono ?_
  · omega
  rintro e w15 ⟨g, cap, rfl, hr, hB15⟩
  have HB15 : Aside (Below w.heap.size w w15) := below_b HB14.out hB15
  have HR15 : Aside (∀ W, Below w15.heap.size w15 W → W.cell? ⟨g, 0, none⟩ = some (.int .i8 10) ∧ W.cell? ⟨g, 1, none⟩ = some (.int .i64 32) ∧ W.cell? ⟨g, 2, none⟩ = some (.string ⟨#[]⟩)) := fun W hW => by
    have h0 := hr 0 _ rfl
    have hg : g < w15.heap.size := World.block_lt_of_cell? w15 _ h0
    exact ⟨(hW.cell (p := ⟨g, 0, none⟩) hg).trans h0, (hW.cell (p := ⟨g, 1, none⟩) hg).trans (hr 1 _ rfl), (hW.cell (p := ⟨g, 2, none⟩) hg).trans (hr 2 _ rfl)⟩
  clear hr hB15
  simp only [List.length_cons, List.length_nil, Nat.zero_add] at *
  go_wp2_with fail
  refine (Cast_bad n w15).mono ?_
  rintro e w16 ⟨rfl, hw16⟩
  replace hw16 := hw16.symm
  subst hw16
  go_wp2_with fail
  refine (Wrap_nil w15).mono ?_
  rintro e w16 ⟨rfl, hw16⟩
  replace hw16 := hw16.symm
  subst hw16
  obtain ⟨r0, r1, r2⟩ := HR15.out w15 (Below.refl _ _)
  have cw := works14_any w15 (HP.out w15 HB15.out).f (HP.out w15 HB15.out).t
  go_wp2_with (go_at_call 6; refine cw.mono ?_; rintro e w17 ⟨rfl, hB17⟩)
  go_ret
  exact ⟨rfl, below_b HB15.out hB17⟩
end Go.Proofs.YtkmoeflodafoeaaGreatDoor.Vl
