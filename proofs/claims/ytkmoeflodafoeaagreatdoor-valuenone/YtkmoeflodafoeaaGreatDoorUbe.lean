/- Package value: Seen of nil, of the pair of works; works. -/
import Derived.Test.YtkmoeflodafoeaaGreatDoorUbc
import Derived.Test.YtkmoeflodafoeaaGreatDoorUbd
namespace Go.Proofs.YtkmoeflodafoeaaGreatDoor.Vl
open Go.RowKit
open T3.Tp (Ty)
set_option maxRecDepth 100000
set_option linter.unusedSimpArgs false
set_option linter.unusedVariables false
/-- How Seen ends: what is told, in a row. -/
def SnEnd (w : World) (O : List Ob) (e : Ending) (w' : World) : Prop := ∃ g cap, e = .returned (.slice (some ⟨g, 0, none⟩) O.length cap) ∧ (∀ k u, (orow O)[k]? = some u → w'.cell? ⟨g, k, none⟩ = some u) ∧ Below w.heap.size w w'
theorem told_row {w : World} {tb : Nat} {lo lr : Value} {O : List Ob} {P : List Pt} (h : TS w tb lo lr O P) (hO : 0 < O.length) : ∃ g cap, lo = .slice (some ⟨g, 0, none⟩) O.length cap ∧ ∀ k u, (orow O)[k]? = some u → w.cell? ⟨g, k, none⟩ = some u := by
  obtain ⟨h1, ⟨rfl, h0⟩ | ⟨g, cap, cur, rfl, hg, hh, hc, _, hs, ht⟩⟩ := h.o
  · omega
  · refine ⟨g, cap, rfl, fun k u hk => ?_⟩
    have hil := (List.getElem?_eq_some_iff.1 hk).1
    rw [(ptr_block hh).1 k, ← Array.getElem?_toList]
    have := congrArg (fun l => l[k]?) ht
    simp only [List.getElem?_take] at this
    rw [if_pos (by omega)] at this
    rw [this, hk]
theorem ts_new (w : World) : TS (w.alloc (.cells #[.slice none 0 0, .slice none 0 0] 152)) w.heap.size (.slice none 0 0) (.slice none 0 0) [] [] :=
  ⟨heap_alloc_new _ _, ⟨rfl, .inl ⟨rfl, rfl⟩⟩, ⟨rfl, .inl ⟨rfl, rfl⟩⟩⟩
set_option maxHeartbeats 1600000 in
theorem Seen_nil (d : Int) (w : World) (hd : 1 ≤ d) : Calls Tryz.prog 35 #[.nilIface, .int .i64 d] w (SnEnd w [⟨10, 32, ⟨#[]⟩⟩]) := by
  have ct := tellAll_nil w.heap.size _ _ d _ (ts_new w) hd
  unfold SnEnd
  go_enter Tryz.func35, Tryz.ntmps35
  go_wp2_with (go_at_call 77; refine ct.mono ?_; rintro e w1 ⟨rfl, lo1, lr1, hT1, hB1⟩; obtain ⟨t0, -, -, -⟩ := hT1.cells)
  go_ret
  obtain ⟨g, cap, rfl, hr⟩ := told_row hT1 (by decide)
  exact ⟨g, cap, rfl, hr, (al_bv _ _).trans hB1⟩
set_option maxHeartbeats 1600000 in
theorem Seen_wk (y x p : Value) (n : Int) (s : ByteArray) (w : World) (h : Wk w y x p n s) (h1 : HasG w 4 44 0 0 false) (h2 : HasG w 6 44 1 1 false) :
    Calls Tryz.prog 35 #[y, .int .i64 4] w (SnEnd w [⟨6, 0, ⟨#[]⟩⟩, ⟨1, n, ⟨#[]⟩⟩, ⟨9, 2, ⟨#[]⟩⟩]) := by
  have hB0 : ∀ W, Below w.heap.size (w.alloc (.cells #[.slice none 0 0, .slice none 0 0] 152)) W → Below w.heap.size w W := fun W hW => (al_bv _ _).trans hW
  have hch := h.ch
  obtain ⟨gy, hye, -⟩ := h.y
  obtain ⟨gp, hpe, -⟩ := h.p
  have ct := fun cF cS => tellAll_pair [y, x] w.heap.size _ _ 203 (.pointer (some ⟨gy, 0, none⟩)) (.pointer (some ⟨gp, 0, none⟩)) n 2 3 _ (ts_new w) (by rw [← hye, ← hpe]; exact hch.later (al_bv _ _)) (by decide) (by decide) cF cS
  rw [← hye] at ct
  have cc := ct (fun W hW => First_wk y x p n s W (h.below (hB0 W hW)) (h1.below (hB0 W hW))) (fun W hW => Second_wk y x p n s W (h.below (hB0 W hW)) (h2.below (hB0 W hW)))
  clear ct h1 h2 hch h hB0
  subst hye
  rw [show (3 : Int) + 1 = 4 by decide] at cc
  unfold SnEnd
  go_enter Tryz.func35, Tryz.ntmps35
  go_wp2_with (go_at_call 77; refine cc.mono ?_; rintro e w1 ⟨rfl, lo1, lr1, hT1, hB1⟩; obtain ⟨t0, -, -, -⟩ := hT1.cells)
  go_ret
  obtain ⟨g, cap, rfl, hr⟩ := told_row hT1 (by simp)
  exact ⟨g, cap, rfl, hr, (al_bv _ _).trans hB1⟩
set_option maxHeartbeats 400000 in
theorem Text_any (s : ByteArray) (w : World) : Calls Tryz.prog 37 #[.string s] w fun e w' => e = .returned (.iface 154 (.string s)) ∧ w' = w := by
  go_enter Tryz.func37, Tryz.ntmps37
  go_wp2
  go_ret
  exact ⟨rfl, rfl⟩
theorem eq_o1 (w : World) : (binOp .eql 79 (.agg #[.int .i8 1, .int .i64 1, .string ⟨#[]⟩]) (.agg #[.int .i8 1, .int .i64 1, .string ⟨#[]⟩])).run Tryz.prog w = .ok (.bool true) w := by kernel_rfl
theorem eq_o9 (w : World) : (binOp .eql 79 (.agg #[.int .i8 9, .int .i64 2, .string ⟨#[]⟩]) (.agg #[.int .i8 9, .int .i64 2, .string ⟨#[]⟩])).run Tryz.prog w = .ok (.bool true) w := by kernel_rfl
theorem eq_o10 (w : World) : (binOp .eql 79 (.agg #[.int .i8 10, .int .i64 32, .string ⟨#[]⟩]) (.agg #[.int .i8 10, .int .i64 32, .string ⟨#[]⟩])).run Tryz.prog w = .ok (.bool true) w := by kernel_rfl
theorem cast_p1 (T : TypeId) (u : Value) (w : World) : Calls Tryz.prog 20 #[.iface T u, .string ⟨#[44, 105, 116]⟩, .string ⟨#[44, 63, 63]⟩, .int .i64 1] w fun e w' => ∃ x, e = .returned (.tuple #[x, .int .i64 0, .int .i64 0]) ∧ RcAt w' x (.iface T u) (tx (.tp .ti .tt)) (tx (.tp .tq .tq)) 1 ∧ Below w.heap.size w w' :=
  cast_of _ T u rfl (.tp .ti .tt) (.tp .tq .tq) (by decide) (by decide) 1 (by decide) (by decide) w fun W hW => (castBy_rc T u (tx (.tp .ti .tt)) (tx (.tp .tq .tq)) (by rw [T3.toList_S, T3.toList_S]; decide) (by rw [T3.toList_S]; decide) (by rw [T3.toList_S]; decide) 1 W).mono (by
    rintro e w' ⟨x, rfl, hx, hB⟩
    exact ⟨_, _, _, rfl, x, rfl, hx, hW.trans (hB.mono hW.size)⟩)
theorem cast_p2 (T : TypeId) (u : Value) (w : World) : Calls Tryz.prog 20 #[.iface T u, .string ⟨#[44, 63, 63]⟩, .string ⟨#[44, 105, 98]⟩, .int .i64 2] w fun e w' => ∃ x, e = .returned (.tuple #[x, .int .i64 0, .int .i64 0]) ∧ RcAt w' x (.iface T u) (tx (.tp .tq .tq)) (tx (.tp .ti .tb)) 2 ∧ Below w.heap.size w w' :=
  cast_of _ T u rfl (.tp .tq .tq) (.tp .ti .tb) (by decide) (by decide) 2 (by decide) (by decide) w fun W hW => (castBy_rc T u (tx (.tp .tq .tq)) (tx (.tp .ti .tb)) (by rw [T3.toList_S, T3.toList_S]; decide) (by rw [T3.toList_S]; decide) (by rw [T3.toList_S]; decide) 2 W).mono (by
    rintro e w' ⟨x, rfl, hx, hB⟩
    exact ⟨_, _, _, rfl, x, rfl, hx, hW.trans (hB.mono hW.size)⟩)
set_option maxHeartbeats 3200000 in
theorem works14_any (w : World) (h1 : HasG w 4 44 0 0 false) (h2 : HasG w 6 44 1 1 false) :
    Calls Tryz.prog 6 #[] w fun e w' => e = .returned (.bool true) ∧ Below w.heap.size w w' := by
  have HP1 : Aside (∀ W, Below w.heap.size w W → HasG W 4 44 0 0 false) := fun W hW => h1.below hW
  have HP2 : Aside (∀ W, Below w.heap.size w W → HasG W 6 44 1 1 false) := fun W hW => h2.below hW
  clear h1 h2
  have e1 := eq_o1
  have e9 := eq_o9
  go_enter Tryz.func6, Tryz.ntmps6
  go_wp2_with fail
  refine (Num_any 1 w).mono ?_
  rintro e w1 ⟨rfl, hw1⟩
  replace hw1 := hw1.symm
  subst hw1
  go_wp2_with fail
  refine (Text_any ⟨#[97]⟩ w).mono ?_
  rintro e w1 ⟨rfl, hw1⟩
  replace hw1 := hw1.symm
  subst hw1
  unfold nm
  go_wp2_with fail
  refine (Pair_any _ _ _ _ w).mono ?_
  rintro e w1 ⟨p, rfl, hp, hB1⟩
  obtain ⟨gp, rfl, hgp⟩ := hp
  go_wp2_with fail
  refine (cast_p1 _ _ w1).mono ?_
  rintro e w2 ⟨x, rfl, hx, hB2⟩
  obtain ⟨gx, rfl, hgx⟩ := hx
  go_wp2_with fail
  refine (cast_p2 _ _ w2).mono ?_
  rintro e w3 ⟨y, rfl, hy, hB3⟩
  obtain ⟨gy, rfl, hgy⟩ := hy
  have hB13 := below_b hB2 hB3
  have hB03 := below_b hB1 hB13
  have hW : Wk w3 (.iface 203 (.pointer (some ⟨gy, 0, none⟩))) (.iface 203 (.pointer (some ⟨gx, 0, none⟩))) (.iface 107 (.pointer (some ⟨gp, 0, none⟩))) 1 ⟨#[97]⟩ := ⟨⟨gy, rfl, hgy⟩, ⟨gx, rfl, blk_keep hgx hB3⟩, ⟨gp, rfl, blk_keep hgp hB13⟩⟩
  have cs := Seen_wk _ _ _ 1 ⟨#[97]⟩ w3 hW (HP1.out w3 hB03) (HP2.out w3 hB03)
  have HB03 : Aside (Below w.heap.size w w3) := hB03
  clear hgp hgx hgy hB1 hB2 hB3 hB13 hB03 hW
  go_wp2_with fail
  refine cs.mono ?_
  rintro e w4 ⟨g, cap, rfl, hr, hB4⟩
  have r0 := hr 0 _ rfl
  have r3 := hr 3 _ rfl
  have r4 := hr 4 _ rfl
  have r5 := hr 5 _ rfl
  have r6 := hr 6 _ rfl
  have r7 := hr 7 _ rfl
  have r8 := hr 8 _ rfl
  have HB4 : Aside (Below w.heap.size w w4) := below_b HB03.out hB4
  clear hr hB4 cs
  simp only [List.length_cons, List.length_nil, Nat.zero_add, Nat.reduceAdd] at *
  go_wp2_with fail
  go_ret
  exact ⟨rfl, HB4.out⟩
end Go.Proofs.YtkmoeflodafoeaaGreatDoor.Vl
