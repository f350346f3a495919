/- Package value: the methods of a value wrapped with a cast. -/
import Derived.Test.YtkmoeflodafoeaaGreatDoorUap
namespace Go.Proofs.YtkmoeflodafoeaaGreatDoor.Vl
open Go.RowKit
open T3.Tp (Ty)
set_option maxRecDepth 100000
set_option linter.unusedSimpArgs false
set_option linter.unusedVariables false
set_option maxHeartbeats 400000 in
theorem rc_inner (g : Nat) (v : Value) (s t : ByteArray) (p : Int) (w : World) (hg : w.heap[g]? = some (.cells #[v, .string s, .string t, .int .i64 p] 205 (0, 0))) :
    Calls Tryz.prog 240 #[.pointer (some ⟨g, 0, none⟩)] w fun e w' => e = .returned v ∧ w' = w := by
  have c0 : w.cell? ⟨g, 0, none⟩ = some v := (ptr_block hg).1 0
  clear hg
  go_enter Tryz.func240, Tryz.ntmps240
  go_wp2
  go_ret
  exact ⟨rfl, rfl⟩
set_option maxHeartbeats 400000 in
theorem rc_head (g : Nat) (v : Value) (s t : ByteArray) (p : Int) (h : Int) (hs : 0 < s.size) (hh : ((s[0]'hs).toNat : Int) = h) (w : World) (hg : w.heap[g]? = some (.cells #[v, .string s, .string t, .int .i64 p] 205 (0, 0))) :
    Calls Tryz.prog 239 #[.pointer (some ⟨g, 0, none⟩)] w fun e w' => e = .returned (.int .u8 h) ∧ w' = w := by
  have c1 : w.cell? ⟨g, 1, none⟩ = some (.string s) := (ptr_block hg).1 1
  have hs' : (0 : Int) < (s.size : Int) := by omega
  clear hg
  go_enter Tryz.func239, Tryz.ntmps239
  go_wp2
  go_ret
  subst hh
  exact ⟨rfl, rfl⟩
theorem row_at {W : World} {B n : Nat} {v : Value} {ps : List (List UInt8)} (h : W.ownsRow B 9 1 v n (T3.tcells ps)) {i : Nat} {q : List UInt8} (hi : ps[i]? = some q) : ∃ g k, v = .slice (some ⟨g, 0, none⟩) n k ∧ W.cell? ⟨g, i, none⟩ = some (.string (T3.S q)) ∧ g < W.heap.size ∧ i < n := by
  have hil := (List.getElem?_eq_some_iff.1 hi).1
  have hlen : (T3.tcells ps).length = ps.length := by unfold T3.tcells; simp
  obtain ⟨h1, ⟨rfl, h0⟩ | ⟨g, cap, cur, rfl, hg, hh, hc, _, hs, ht⟩⟩ := h
  · omega
  · refine ⟨g, cap, rfl, ?_, (Array.getElem?_eq_some_iff.1 hh).1, by omega⟩
    rw [(ptr_block hh).1 i, ← Array.getElem?_toList]
    have := congrArg (fun l => l[i]?) ht
    simp only [List.getElem?_take] at this
    rw [if_pos (by omega)] at this
    rw [this]
    unfold T3.tcells
    simp [hi]
/-- A passage, as a value. -/
def psg (h : Int) (i k : Nat) (inw : Bool) : Value := .agg #[.int .u8 h, .int .i64 (i : Int), .int .i64 (k : Int), .bool inw]
theorem below_b {a b c : World} (h : Below a.heap.size a b) (g : Below b.heap.size b c) : Below a.heap.size a c := h.trans (g.mono h.size)
set_option maxHeartbeats 6400000 in
/-- What a cast that is around does to a part: the cast of the parts, inward turned round. -/
theorem rc_pass (g : Nat) (v : Value) (a b : Ty) (ha : (T3.Tp.enc a).length ≤ 64) (hb : (T3.Tp.enc b).length ≤ 64) (p : Int) (hp : -2147483647 ≤ p ∧ p ≤ 2147483647) (w : World) (hg : w.heap[g]? = some (.cells #[v, .string (tx a), .string (tx b), .int .i64 p] 205 (0, 0)))
    (T : TypeId) (u : Value) (h : Int) (i k : Nat) (inw : Bool) (c d : Ty) (hi : i < 1000) (hc : (T3.Tp.kids a)[i]? = some c) (hd : (T3.Tp.kids b)[i]? = some d) (Q : Ending → World → Prop)
    (hQ : ∀ W, Below w.heap.size w W → Calls Tryz.prog 67 (if inw then #[.iface T u, .string (tx d), .string (tx c), .int .i64 (-p)] else #[.iface T u, .string (tx c), .string (tx d), .int .i64 p]) W fun e w' => ∃ x y z, e = .returned (.tuple #[x, y, z]) ∧ Q e w') :
    Calls Tryz.prog 241 #[.pointer (some ⟨g, 0, none⟩), .iface T u, psg h i k inw] w Q := by
  have cp1 : ∀ W, Calls Tryz.prog 125 #[.string (tx a)] W fun e w' => ∃ q m n, e = .returned (.slice (some ⟨q, 0, none⟩) n m) ∧ (w'.cell? ⟨q, i, none⟩ = some (.string (tx c)) ∧ q < w'.heap.size ∧ i < n) ∧ Below W.heap.size W w' := fun W => (T3.parts_yes a ha W).mono (by
    rintro e w' ⟨v', rfl, hO, hB⟩
    obtain ⟨q, m, rfl, h1, h2, h3⟩ := row_at hO (i := i) (q := T3.Tp.enc c) (by simp [hc])
    exact ⟨q, m, _, rfl, ⟨h1, h2, h3⟩, hB⟩)
  have cp2 : ∀ W, Calls Tryz.prog 125 #[.string (tx b)] W fun e w' => ∃ q m n, e = .returned (.slice (some ⟨q, 0, none⟩) n m) ∧ (w'.cell? ⟨q, i, none⟩ = some (.string (tx d)) ∧ q < w'.heap.size ∧ i < n) ∧ Below W.heap.size W w' := fun W => (T3.parts_yes b hb W).mono (by
    rintro e w' ⟨v', rfl, hO, hB⟩
    obtain ⟨q, m, rfl, h1, h2, h3⟩ := row_at hO (i := i) (q := T3.Tp.enc d) (by simp [hd])
    exact ⟨q, m, _, rfl, ⟨h1, h2, h3⟩, hB⟩)
  have hneg : IntKind.i64.wrap (-p) = -p := IntWalk.i64_in _ ⟨by omega, by omega⟩
  clear ha hb hc hd
  generalize tx a = s at *
  generalize tx b = t at *
  generalize tx c = sc at *
  generalize tx d = sd at *
  have hcg := (ptr_block hg).1
  have hgl := (ptr_block hg).2.2
  have HK : Aside (∀ W, Below w.heap.size w W → W.cell? ⟨g, 1, none⟩ = some (.string s) ∧ W.cell? ⟨g, 2, none⟩ = some (.string t) ∧ W.cell? ⟨g, 3, none⟩ = some (.int .i64 p)) := fun W hW =>
    ⟨(hW.cell (p := ⟨g, 1, none⟩) hgl).trans (hcg 1), (hW.cell (p := ⟨g, 2, none⟩) hgl).trans (hcg 2), (hW.cell (p := ⟨g, 3, none⟩) hgl).trans (hcg 3)⟩
  have HQ : Aside _ := hQ
  clear hg hcg hQ
  have hi0 : (0 : Int) ≤ (i : Int) := by omega
  unfold psg
  go_enter Tryz.func241, Tryz.ntmps241
  go_upto_region 1 with fail
  obtain ⟨w1, hw1⟩ : ∃ w1, w1 = w.alloc (.cells #[.int .u8 h, .int .i64 (i : Int), .int .i64 (k : Int), .bool inw] 142) := ⟨_, rfl⟩
  have HB1 : Aside (Below w.heap.size w w1) := by rw [hw1]; exact al_bv _ _
  have HP : Aside (w1.heap[w.heap.size]? = some (.cells #[.int .u8 h, .int .i64 (i : Int), .int .i64 (k : Int), .bool inw] 142 (0, 0))) := by rw [hw1]; exact heap_alloc_new _ _
  rw [← hw1]
  clear hw1
  have HB : Aside (w.heap.size < w1.heap.size) := (Array.getElem?_eq_some_iff.1 HP.out).1
  generalize hB : w.heap.size = B at HP HB ⊢
  have HPc : Aside (∀ W, Below w1.heap.size w1 W → W.cell? ⟨B, 1, none⟩ = some (.int .i64 (i : Int)) ∧ W.cell? ⟨B, 3, none⟩ = some (.bool inw)) := fun W hW =>
    ⟨(hW.cell (p := ⟨B, 1, none⟩) HB.out).trans ((ptr_block HP.out).1 1), (hW.cell (p := ⟨B, 3, none⟩) HB.out).trans ((ptr_block HP.out).1 3)⟩
  clear hB HP HB
  refine V.wp_region_V (fun W => Below w1.heap.size w1 W) (by kernel_rfl) ?_
  have hS0 : Below w1.heap.size w1 w1.drew := (Below.refl _ _).drew
  generalize w1.drew = wd at *
  have hne9 : Nonempty (Cls (fun W => Below w1.heap.size w1 W)) := ⟨⟨w1, Below.refl _ _⟩⟩
  have z1 : ∀ z : Cls (fun W => Below w1.heap.size w1 W), z.w.cell? ⟨g, 1, none⟩ = some (.string s) := fun z => (HK.out z.w (HB1.out.trans (z.h.mono HB1.out.size))).1
  have z2 : ∀ z : Cls (fun W => Below w1.heap.size w1 W), z.w.cell? ⟨g, 2, none⟩ = some (.string t) := fun z => (HK.out z.w (HB1.out.trans (z.h.mono HB1.out.size))).2.1
  have z3 : ∀ z : Cls (fun W => Below w1.heap.size w1 W), z.w.cell? ⟨B, 1, none⟩ = some (.int .i64 (i : Int)) := fun z => (HPc.out z.w z.h).1
  have HS0 : Aside (Below w1.heap.size w1 wd) := hS0
  refine V.wpAnyV.quiet (by kernel_rfl) (fun _ _ _ _ _ h => h) hS0 [0, 1, 2, 3, 5, 6, 9, 10, 11, 12, 14, 15] 8 _ _ (by kernel_rfl) ?_
  clear hS0
  simp only [V.pickL, List.filterMap_cons, List.filterMap_nil, List.getElem?_toArray, List.getElem?_cons_zero, List.getElem?_cons_succ]
  repeat (show wpQuiet _ _ _ _ (_ :: _) _; go_big_quiet_step (fail))
  refine wpQuiet_nil ?_
  clear z1 z2 z3 hne9
  refine V.wpAnyV.event 4 (by kernel_rfl) rfl ?_
  go_wp2_with (go_at_call 125; refine (cp1 _).mono ?_; rintro e w2 ⟨q2, m2, n2, rfl, ⟨hc2, hq2, hi2⟩, hB2⟩)
  have HB2 : Aside (Below w1.heap.size w1 w2) := HS0.out.trans (hB2.mono HS0.out.size)
  refine ⟨fun W => Below w2.heap.size w2 W, fun W hW => HB2.out.trans (hW.mono HB2.out.size), Below.refl _ _, ?_⟩
  have hS2 : Below w2.heap.size w2 w2 := Below.refl _ _
  have hne9 : Nonempty (Cls (fun W => Below w2.heap.size w2 W)) := ⟨⟨w2, Below.refl _ _⟩⟩
  have z4 : ∀ z : Cls (fun W => Below w2.heap.size w2 W), z.w.cell? ⟨q2, i, none⟩ = some (.string sc) := fun z => (z.h.cell (p := ⟨q2, i, none⟩) hq2).trans hc2
  have hi2' : (i : Int) < (n2 : Int) := by omega
  refine V.wpAnyV.quiet (by kernel_rfl) (fun _ _ _ _ _ h => h) hS2 [7, 8] 5 _ _ (by kernel_rfl) ?_
  simp only [V.pickL, List.filterMap_cons, List.filterMap_nil, List.getElem?_toArray, List.getElem?_cons_zero, List.getElem?_cons_succ]
  repeat (show wpQuiet _ _ _ _ (_ :: _) _; go_big_quiet_step (fail))
  refine wpQuiet_nil ?_
  clear z4 hne9 hi2' hc2 hq2 hi2
  refine V.wpAnyV.event 13 (by kernel_rfl) rfl ?_
  go_wp2_with (go_at_call 125; refine (cp2 _).mono ?_; rintro e w3 ⟨q3, m3, n3, rfl, ⟨hc3, hq3, hi3⟩, hB3⟩)
  have HB3 : Aside (Below w2.heap.size w2 w3) := hB3
  refine ⟨fun W => Below w3.heap.size w3 W, fun W hW => hB3.trans (hW.mono hB3.size), Below.refl _ _, ?_⟩
  have hS3 : Below w3.heap.size w3 w3 := Below.refl _ _
  have hne9 : Nonempty (Cls (fun W => Below w3.heap.size w3 W)) := ⟨⟨w3, Below.refl _ _⟩⟩
  have z5 : ∀ z : Cls (fun W => Below w3.heap.size w3 W), z.w.cell? ⟨q3, i, none⟩ = some (.string sd) := fun z => (z.h.cell (p := ⟨q3, i, none⟩) hq3).trans hc3
  have hi3' : (i : Int) < (n3 : Int) := by omega
  refine V.wpAnyV.quiet (by kernel_rfl) (fun _ _ _ _ _ h => h) hS3 [16, 17, 18, 19] 0 _ _ (by kernel_rfl) ?_
  simp only [V.pickL, List.filterMap_cons, List.filterMap_nil, List.getElem?_toArray, List.getElem?_cons_zero, List.getElem?_cons_succ]
  repeat (show wpQuiet _ _ _ _ (_ :: _) _; go_big_quiet_step (fail))
  refine wpQuiet_nil ?_
  clear z5 hne9 hi3' hc3 hq3 hi3
  refine V.wpAnyV.done (by kernel_rfl) ?_
  refine NoPanic.normal ?_
  have hB13 : Below w1.heap.size w1 w3 := HB2.out.trans (HB3.out.mono HB2.out.size)
  have hW3 : Below w.heap.size w w3 := HB1.out.trans (hB13.mono HB1.out.size)
  obtain ⟨-, -, k3⟩ := HK.out w3 hW3
  obtain ⟨-, b3⟩ := HPc.out w3 hB13
  have hq := HQ.out w3 hW3
  clear HQ hi hi0
  cases inw
  all_goals
    simp only [if_true, if_false, Bool.false_eq_true] at hq
    go_wp2_with (go_at_call 67; refine hq.mono ?_; rintro e w4 ⟨x, y, z, rfl, hE⟩)
    go_ret3
    exact hE
end Go.Proofs.YtkmoeflodafoeaaGreatDoor.Vl
