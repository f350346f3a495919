/- What the program's arm and whole read. -/
import Derived.Test.YtncnkojbpdemdaaGreatDoorIn
namespace Go.Proofs.YtncnkojbpdemdaaGreatDoor
open Go.RowKit

theorem enters81 : ∀ args w, (callFunc 81 args).run Tryz.prog w = .ok (.enter 81 args) w := enters_of Tryz.func81 (by kernel_rfl) rfl
theorem enters88 : ∀ args w, (callFunc 88 args).run Tryz.prog w = .ok (.enter 88 args) w := enters_of Tryz.func88 (by kernel_rfl) rfl
theorem enters90 : ∀ args w, (callFunc 90 args).run Tryz.prog w = .ok (.enter 90 args) w := enters_of Tryz.func90 (by kernel_rfl) rfl
theorem enters91 : ∀ args w, (callFunc 91 args).run Tryz.prog w = .ok (.enter 91 args) w := enters_of Tryz.func91 (by kernel_rfl) rfl

/-- within, whether one more may be open or not. -/
theorem within_any (w : World) (rb : Nat) (ws : ByteArray) (q op d : Nat) (h : RdAt w rb ws q op) (hs : ws.size ≤ 2147483647) (hd : op + d = 64) (ht : Tp.tk ws.data.toList q ≠ []) (F : Nat) (caps : Array Value) (f : Tp.Rds → Tp.Res) (hE : ∀ args w, (callFunc F args).run Tryz.prog w = .ok (.enter F args) w)
    (hF : ∀ d', d = d' + 1 → ∀ w1, RdAt w1 rb ws (Tp.nx ws.data.toList q) (op + 1) → w.grownBy w1 (some rb) → Calls Tryz.prog F caps w1 fun e w' => Ends w' rb ws (op + 1) (f (Tp.pr ws.data.toList d')) e ∧ w1.grownBy w' (some rb)) :
    Calls Tryz.prog 80 #[.pointer (some ⟨rb, 0, none⟩), .func (.func F) #[] caps] w fun e w' => Ends w' rb ws op (Tp.within (Tp.inn ws.data.toList d) q f) e ∧ w.grownBy w' (some rb) := by
  cases d with
  | zero =>
    obtain rfl : op = 64 := by omega
    exact within_deep w rb ws q h ht F caps _ rfl
  | succ d' => exact within_ok w rb ws q op h hs (by omega) F caps _ hE (hF d' rfl)

theorem S_first (c : UInt8) (l : List UInt8) : (S (c :: l)).extract 0 1 = S [c] := by rw [S_cut]; simp

set_option maxRecDepth 100000 in
set_option maxHeartbeats 4000000 in
theorem arm_step (ws : ByteArray) (hs : ws.size ≤ 2147483647) (d : Nat) (hin : ∀ d', d = d' + 1 → WholeC ws d' ∧ ArmC ws d') : ArmC ws d := by
  intro w rb q op h hd
  have hlt := h.1.lt
  rw [Tp.pr_eq]
  have hg0 : w.grownBy (w.alloc (.cells #[.pointer (some ⟨rb, 0, none⟩)] 138)) none := grownBy_alloc (grownBy_refl _ _) _
  have hgr : w.grownBy (w.alloc (.cells #[.pointer (some ⟨rb, 0, none⟩)] 138)) (some rb) := grownBy_alloc (grownBy_refl _ _) _
  have h0 : RdAt (w.alloc (.cells #[.pointer (some ⟨rb, 0, none⟩)] 138)) rb ws q op := ⟨h.1.kept hg0, h.2⟩
  have hR0 : (w.alloc (.cells #[.pointer (some ⟨rb, 0, none⟩)] 138)).heap[w.heap.size]? = some (.cells #[.pointer (some ⟨rb, 0, none⟩)] 138 (0, 0)) := heap_alloc_new _ _
  have hRn : w.heap.size ≠ rb := by omega
  have hkeep : ∀ w1, (w.alloc (.cells #[.pointer (some ⟨rb, 0, none⟩)] 138)).grownBy w1 (some rb) → w1.heap[w.heap.size]? = some (.cells #[.pointer (some ⟨rb, 0, none⟩)] 138 (0, 0)) := fun w1 g => (g.block _ (by simp) (by simpa using hRn)).trans hR0
  obtain ⟨-, c1, -, -, -⟩ := h.1.c
  have hto : (S (Tp.tk ws.data.toList q)).toList = Tp.tk ws.data.toList q := toList_S _
  show Calls Tryz.prog 79 _ w fun e w' => Ends w' rb ws op (Tp.armF ws.data.toList (Tp.inn ws.data.toList d) q) e ∧ w.grownBy w' (some rb)
  by_cases n0 : Tp.tk ws.data.toList q = [105, 110, 116]
  · have HT : Aside (Tp.tk ws.data.toList q = [105, 110, 116]) := n0
    have HA : Aside (Tp.armF ws.data.toList (Tp.inn ws.data.toList d) q = .ok (.ti, Tp.nx ws.data.toList q)) := by show _ = _; unfold Tp.armF; rw [n0]; rfl
    have f0 : ((S (Tp.tk ws.data.toList q)).toList == [105, 110, 116]) = true := by rw [hto, HT.out]; rfl
    have f1 : ((S (Tp.tk ws.data.toList q)).toList == [98, 111, 111, 108]) = false := by rw [hto, HT.out]; rfl
    have f2 : ((S (Tp.tk ws.data.toList q)).toList == [116, 101, 120, 116]) = false := by rw [hto, HT.out]; rfl
    have f3 : ((S (Tp.tk ws.data.toList q)).toList == [63]) = false := by rw [hto, HT.out]; rfl
    have f4 : ((S (Tp.tk ws.data.toList q)).toList == [40]) = false := by rw [hto, HT.out]; rfl
    have f5 : ((S (Tp.tk ws.data.toList q)).toList == [91]) = false := by rw [hto, HT.out]; rfl
    have f6 : ((S (Tp.tk ws.data.toList q)).toList == [98, 111, 120]) = false := by rw [hto, HT.out]; rfl
    have hx : (S (Tp.tk ws.data.toList q)).extract 0 1 = S [105] := by rw [HT.out]; exact S_first _ _
    have hz : (1 : Int) ≤ ((S (Tp.tk ws.data.toList q)).size : Int) := by rw [S_size, HT.out]; decide
    have hN := next_at _ rb ws op q h0 hs
    generalize S (Tp.tk ws.data.toList q) = tok at *
    clear hto n0 hin hkeep
    go_enter Tryz.func79, Tryz.ntmps79
    go_wp2_with (go_at_call 66; refine hN.mono ?_; rintro e w1 ⟨rfl, h1, g1⟩)
    go_ret
    rw [HA.out]
    refine ⟨⟨[105], by rw [← hx]; rfl, by decide, rfl, h1⟩, grownBy_trans hgr g1⟩
  by_cases n1 : Tp.tk ws.data.toList q = [98, 111, 111, 108]
  · have HT : Aside (Tp.tk ws.data.toList q = [98, 111, 111, 108]) := n1
    have HA : Aside (Tp.armF ws.data.toList (Tp.inn ws.data.toList d) q = .ok (.tb, Tp.nx ws.data.toList q)) := by show _ = _; unfold Tp.armF; rw [n1]; rfl
    have f0 : ((S (Tp.tk ws.data.toList q)).toList == [105, 110, 116]) = false := by rw [hto, HT.out]; rfl
    have f1 : ((S (Tp.tk ws.data.toList q)).toList == [98, 111, 111, 108]) = true := by rw [hto, HT.out]; rfl
    have f2 : ((S (Tp.tk ws.data.toList q)).toList == [116, 101, 120, 116]) = false := by rw [hto, HT.out]; rfl
    have f3 : ((S (Tp.tk ws.data.toList q)).toList == [63]) = false := by rw [hto, HT.out]; rfl
    have f4 : ((S (Tp.tk ws.data.toList q)).toList == [40]) = false := by rw [hto, HT.out]; rfl
    have f5 : ((S (Tp.tk ws.data.toList q)).toList == [91]) = false := by rw [hto, HT.out]; rfl
    have f6 : ((S (Tp.tk ws.data.toList q)).toList == [98, 111, 120]) = false := by rw [hto, HT.out]; rfl
    have hx : (S (Tp.tk ws.data.toList q)).extract 0 1 = S [98] := by rw [HT.out]; exact S_first _ _
    have hz : (1 : Int) ≤ ((S (Tp.tk ws.data.toList q)).size : Int) := by rw [S_size, HT.out]; decide
    have hN := next_at _ rb ws op q h0 hs
    generalize S (Tp.tk ws.data.toList q) = tok at *
    clear hto n1 hin hkeep
    go_enter Tryz.func79, Tryz.ntmps79
    go_wp2_with (go_at_call 66; refine hN.mono ?_; rintro e w1 ⟨rfl, h1, g1⟩)
    go_ret
    rw [HA.out]
    refine ⟨⟨[98], by rw [← hx]; rfl, by decide, rfl, h1⟩, grownBy_trans hgr g1⟩
  by_cases n2 : Tp.tk ws.data.toList q = [116, 101, 120, 116]
  · have HT : Aside (Tp.tk ws.data.toList q = [116, 101, 120, 116]) := n2
    have HA : Aside (Tp.armF ws.data.toList (Tp.inn ws.data.toList d) q = .ok (.tt, Tp.nx ws.data.toList q)) := by show _ = _; unfold Tp.armF; rw [n2]; rfl
    have f0 : ((S (Tp.tk ws.data.toList q)).toList == [105, 110, 116]) = false := by rw [hto, HT.out]; rfl
    have f1 : ((S (Tp.tk ws.data.toList q)).toList == [98, 111, 111, 108]) = false := by rw [hto, HT.out]; rfl
    have f2 : ((S (Tp.tk ws.data.toList q)).toList == [116, 101, 120, 116]) = true := by rw [hto, HT.out]; rfl
    have f3 : ((S (Tp.tk ws.data.toList q)).toList == [63]) = false := by rw [hto, HT.out]; rfl
    have f4 : ((S (Tp.tk ws.data.toList q)).toList == [40]) = false := by rw [hto, HT.out]; rfl
    have f5 : ((S (Tp.tk ws.data.toList q)).toList == [91]) = false := by rw [hto, HT.out]; rfl
    have f6 : ((S (Tp.tk ws.data.toList q)).toList == [98, 111, 120]) = false := by rw [hto, HT.out]; rfl
    have hx : (S (Tp.tk ws.data.toList q)).extract 0 1 = S [116] := by rw [HT.out]; exact S_first _ _
    have hz : (1 : Int) ≤ ((S (Tp.tk ws.data.toList q)).size : Int) := by rw [S_size, HT.out]; decide
    have hN := next_at _ rb ws op q h0 hs
    generalize S (Tp.tk ws.data.toList q) = tok at *
    clear hto n2 hin hkeep
    go_enter Tryz.func79, Tryz.ntmps79
    go_wp2_with (go_at_call 66; refine hN.mono ?_; rintro e w1 ⟨rfl, h1, g1⟩)
    go_ret
    rw [HA.out]
    refine ⟨⟨[116], by rw [← hx]; rfl, by decide, rfl, h1⟩, grownBy_trans hgr g1⟩
  by_cases n3 : Tp.tk ws.data.toList q = [63]
  · have HT : Aside (Tp.tk ws.data.toList q = [63]) := n3
    have HA : Aside (Tp.armF ws.data.toList (Tp.inn ws.data.toList d) q = .ok (.tq, Tp.nx ws.data.toList q)) := by show _ = _; unfold Tp.armF; rw [n3]; rfl
    have f0 : ((S (Tp.tk ws.data.toList q)).toList == [105, 110, 116]) = false := by rw [hto, HT.out]; rfl
    have f1 : ((S (Tp.tk ws.data.toList q)).toList == [98, 111, 111, 108]) = false := by rw [hto, HT.out]; rfl
    have f2 : ((S (Tp.tk ws.data.toList q)).toList == [116, 101, 120, 116]) = false := by rw [hto, HT.out]; rfl
    have f3 : ((S (Tp.tk ws.data.toList q)).toList == [63]) = true := by rw [hto, HT.out]; rfl
    have f4 : ((S (Tp.tk ws.data.toList q)).toList == [40]) = false := by rw [hto, HT.out]; rfl
    have f5 : ((S (Tp.tk ws.data.toList q)).toList == [91]) = false := by rw [hto, HT.out]; rfl
    have f6 : ((S (Tp.tk ws.data.toList q)).toList == [98, 111, 120]) = false := by rw [hto, HT.out]; rfl
    have hx : (S (Tp.tk ws.data.toList q)).extract 0 1 = S [63] := by rw [HT.out]; exact S_first _ _
    have hz : (1 : Int) ≤ ((S (Tp.tk ws.data.toList q)).size : Int) := by rw [S_size, HT.out]; decide
    have hN := next_at _ rb ws op q h0 hs
    generalize S (Tp.tk ws.data.toList q) = tok at *
    clear hto n3 hin hkeep
    go_enter Tryz.func79, Tryz.ntmps79
    go_wp2_with (go_at_call 66; refine hN.mono ?_; rintro e w1 ⟨rfl, h1, g1⟩)
    go_ret
    rw [HA.out]
    refine ⟨⟨[63], by rw [← hx]; rfl, by decide, rfl, h1⟩, grownBy_trans hgr g1⟩
  by_cases n4 : Tp.tk ws.data.toList q = [40]
  · have HT : Aside (Tp.tk ws.data.toList q = [40]) := n4
    have HA : Aside (Tp.armF ws.data.toList (Tp.inn ws.data.toList d) q = Tp.within (Tp.inn ws.data.toList d) q (fun w => Tp.parenF ws.data.toList w.1 q)) := by show _ = _; unfold Tp.armF; rw [n4]; rfl
    have f0 : ((S (Tp.tk ws.data.toList q)).toList == [105, 110, 116]) = false := by rw [hto, HT.out]; rfl
    have f1 : ((S (Tp.tk ws.data.toList q)).toList == [98, 111, 111, 108]) = false := by rw [hto, HT.out]; rfl
    have f2 : ((S (Tp.tk ws.data.toList q)).toList == [116, 101, 120, 116]) = false := by rw [hto, HT.out]; rfl
    have f3 : ((S (Tp.tk ws.data.toList q)).toList == [63]) = false := by rw [hto, HT.out]; rfl
    have f4 : ((S (Tp.tk ws.data.toList q)).toList == [40]) = true := by rw [hto, HT.out]; rfl
    have f5 : ((S (Tp.tk ws.data.toList q)).toList == [91]) = false := by rw [hto, HT.out]; rfl
    have f6 : ((S (Tp.tk ws.data.toList q)).toList == [98, 111, 120]) = false := by rw [hto, HT.out]; rfl
    have hC := within_any _ rb ws q op d h0 hs hd (by rw [HT.out]; simp) 88 #[.pointer (some ⟨w.heap.size, 0, none⟩)] (fun w => Tp.parenF ws.data.toList w.1 q) enters88 (fun d' e w1 p1 g1 => clo50_any ws d' hs (hin d' e).1 w1 rb q (op + 1) _ p1 (by omega) (hkeep w1 g1) hRn)
    generalize S (Tp.tk ws.data.toList q) = tok at *
    clear hto n4 hin hkeep
    go_enter Tryz.func79, Tryz.ntmps79
    go_wp2_with fail
    refine hC.mono ?_
    rintro e w1 ⟨⟨g, rfl, hg, hv, hst⟩, g1⟩
    go_wp2_with fail
    go_ret
    rw [HA.out]
    exact ⟨⟨g, rfl, hg, hv, hst⟩, grownBy_trans hgr g1⟩
  by_cases n5 : Tp.tk ws.data.toList q = [91]
  · have HT : Aside (Tp.tk ws.data.toList q = [91]) := n5
    have HA : Aside (Tp.armF ws.data.toList (Tp.inn ws.data.toList d) q = Tp.within (Tp.inn ws.data.toList d) q (fun w => Tp.listF ws.data.toList w.1 q)) := by show _ = _; unfold Tp.armF; rw [n5]; rfl
    have f0 : ((S (Tp.tk ws.data.toList q)).toList == [105, 110, 116]) = false := by rw [hto, HT.out]; rfl
    have f1 : ((S (Tp.tk ws.data.toList q)).toList == [98, 111, 111, 108]) = false := by rw [hto, HT.out]; rfl
    have f2 : ((S (Tp.tk ws.data.toList q)).toList == [116, 101, 120, 116]) = false := by rw [hto, HT.out]; rfl
    have f3 : ((S (Tp.tk ws.data.toList q)).toList == [63]) = false := by rw [hto, HT.out]; rfl
    have f4 : ((S (Tp.tk ws.data.toList q)).toList == [40]) = false := by rw [hto, HT.out]; rfl
    have f5 : ((S (Tp.tk ws.data.toList q)).toList == [91]) = true := by rw [hto, HT.out]; rfl
    have f6 : ((S (Tp.tk ws.data.toList q)).toList == [98, 111, 120]) = false := by rw [hto, HT.out]; rfl
    have hC := within_any _ rb ws q op d h0 hs hd (by rw [HT.out]; simp) 90 #[.pointer (some ⟨w.heap.size, 0, none⟩)] (fun w => Tp.listF ws.data.toList w.1 q) enters90 (fun d' e w1 p1 g1 => clo52_any ws d' hs (hin d' e).1 w1 rb q (op + 1) _ p1 (by omega) (hkeep w1 g1) hRn)
    generalize S (Tp.tk ws.data.toList q) = tok at *
    clear hto n5 hin hkeep
    go_enter Tryz.func79, Tryz.ntmps79
    go_wp2_with fail
    refine hC.mono ?_
    rintro e w1 ⟨⟨g, rfl, hg, hv, hst⟩, g1⟩
    go_wp2_with fail
    go_ret
    rw [HA.out]
    exact ⟨⟨g, rfl, hg, hv, hst⟩, grownBy_trans hgr g1⟩
  by_cases n6 : Tp.tk ws.data.toList q = [98, 111, 120]
  · have HT : Aside (Tp.tk ws.data.toList q = [98, 111, 120]) := n6
    have HA : Aside (Tp.armF ws.data.toList (Tp.inn ws.data.toList d) q = Tp.within (Tp.inn ws.data.toList d) q (fun w => Tp.boxF ws.data.toList w.2 q)) := by show _ = _; unfold Tp.armF; rw [n6]; rfl
    have f0 : ((S (Tp.tk ws.data.toList q)).toList == [105, 110, 116]) = false := by rw [hto, HT.out]; rfl
    have f1 : ((S (Tp.tk ws.data.toList q)).toList == [98, 111, 111, 108]) = false := by rw [hto, HT.out]; rfl
    have f2 : ((S (Tp.tk ws.data.toList q)).toList == [116, 101, 120, 116]) = false := by rw [hto, HT.out]; rfl
    have f3 : ((S (Tp.tk ws.data.toList q)).toList == [63]) = false := by rw [hto, HT.out]; rfl
    have f4 : ((S (Tp.tk ws.data.toList q)).toList == [40]) = false := by rw [hto, HT.out]; rfl
    have f5 : ((S (Tp.tk ws.data.toList q)).toList == [91]) = false := by rw [hto, HT.out]; rfl
    have f6 : ((S (Tp.tk ws.data.toList q)).toList == [98, 111, 120]) = true := by rw [hto, HT.out]; rfl
    have hC := within_any _ rb ws q op d h0 hs hd (by rw [HT.out]; simp) 91 #[.pointer (some ⟨w.heap.size, 0, none⟩)] (fun w => Tp.boxF ws.data.toList w.2 q) enters91 (fun d' e w1 p1 g1 => clo53_any ws d' (hin d' e).2 w1 rb q (op + 1) _ p1 (by omega) (hkeep w1 g1))
    generalize S (Tp.tk ws.data.toList q) = tok at *
    clear hto n6 hin hkeep
    go_enter Tryz.func79, Tryz.ntmps79
    go_wp2_with fail
    refine hC.mono ?_
    rintro e w1 ⟨⟨g, rfl, hg, hv, hst⟩, g1⟩
    go_wp2_with fail
    go_ret
    rw [HA.out]
    exact ⟨⟨g, rfl, hg, hv, hst⟩, grownBy_trans hgr g1⟩
  have HA : Aside (Tp.armF ws.data.toList (Tp.inn ws.data.toList d) q = .error (Tp.bad ws.data.toList q, q)) := by
    show _ = _
    unfold Tp.armF
    rw [if_neg n0, if_neg n1, if_neg n2, if_neg n3, if_neg n4, if_neg n5, if_neg n6]
  have f0 : ((S (Tp.tk ws.data.toList q)).toList == [105, 110, 116]) = false := by rw [hto]; simpa using n0
  have f1 : ((S (Tp.tk ws.data.toList q)).toList == [98, 111, 111, 108]) = false := by rw [hto]; simpa using n1
  have f2 : ((S (Tp.tk ws.data.toList q)).toList == [116, 101, 120, 116]) = false := by rw [hto]; simpa using n2
  have f3 : ((S (Tp.tk ws.data.toList q)).toList == [63]) = false := by rw [hto]; simpa using n3
  have f4 : ((S (Tp.tk ws.data.toList q)).toList == [40]) = false := by rw [hto]; simpa using n4
  have f5 : ((S (Tp.tk ws.data.toList q)).toList == [91]) = false := by rw [hto]; simpa using n5
  have f6 : ((S (Tp.tk ws.data.toList q)).toList == [98, 111, 120]) = false := by rw [hto]; simpa using n6
  have hF := refuse_any _ rb ws op q h0 15 (by decide)
  rw [refErr_bad] at hF
  generalize S (Tp.tk ws.data.toList q) = tok at *
  clear hto n0 n1 n2 n3 n4 n5 n6 hin hkeep
  go_enter Tryz.func79, Tryz.ntmps79
  go_wp2_with (go_at_call 68; refine hF.mono ?_; rintro e w1 ⟨rfl, h1, g1⟩)
  go_ret
  rw [HA.out]
  exact ⟨⟨[], rfl, by simp, trivial, h1⟩, grownBy_trans hgr g1⟩

set_option maxRecDepth 100000 in
set_option maxHeartbeats 4000000 in
theorem whole_step (ws : ByteArray) (hs : ws.size ≤ 2147483647) (d : Nat) (hA : ArmC ws d) (hin : ∀ d', d = d' + 1 → WholeC ws d') : WholeC ws d := by
  intro w rb q op h hd
  have hlt := h.1.lt
  have hg0 : w.grownBy (w.alloc (.cells #[.pointer (some ⟨rb, 0, none⟩)] 138)) none := grownBy_alloc (grownBy_refl _ _) _
  have hgr : w.grownBy (w.alloc (.cells #[.pointer (some ⟨rb, 0, none⟩)] 138)) (some rb) := grownBy_alloc (grownBy_refl _ _) _
  have h0 : RdAt (w.alloc (.cells #[.pointer (some ⟨rb, 0, none⟩)] 138)) rb ws q op := ⟨h.1.kept hg0, h.2⟩
  have hR0 : (w.alloc (.cells #[.pointer (some ⟨rb, 0, none⟩)] 138)).heap[w.heap.size]? = some (.cells #[.pointer (some ⟨rb, 0, none⟩)] 138 (0, 0)) := heap_alloc_new _ _
  have hRn : w.heap.size ≠ rb := by omega
  have hC := hA _ rb q op h0 hd
  rw [Tp.pr_eq] at hC ⊢
  show Calls Tryz.prog 67 _ w fun e w' => Ends w' rb ws op (Tp.wholeF ws.data.toList (Tp.inn ws.data.toList d) q) e ∧ w.grownBy w' (some rb)
  replace hC : Calls Tryz.prog 79 #[.pointer (some ⟨rb, 0, none⟩)] (w.alloc (.cells #[.pointer (some ⟨rb, 0, none⟩)] 138)) fun e w' => Ends w' rb ws op (Tp.armF ws.data.toList (Tp.inn ws.data.toList d) q) e ∧ (w.alloc (.cells #[.pointer (some ⟨rb, 0, none⟩)] 138)).grownBy w' (some rb) := hC
  have HF : Aside (Tp.wholeF ws.data.toList (Tp.inn ws.data.toList d) q = (match Tp.armF ws.data.toList (Tp.inn ws.data.toList d) q with | .error e => .error e | .ok (a, q) => if Tp.tk ws.data.toList q = [45, 62] then Tp.within (Tp.inn ws.data.toList d) q (fun w => Tp.funF ws.data.toList w.1 a q) else .ok (a, q))) := rfl
  go_enter Tryz.func67, Tryz.ntmps67
  go_wp2_with fail
  refine hC.mono ?_
  rintro e w1 ⟨⟨g, rfl, hg, hv, hst⟩, g1⟩
  have hRz : w.heap.size < w1.heap.size := by have := g1.size; simp at this; omega
  have hR1 : w1.heap[w.heap.size]? = some (.cells #[.pointer (some ⟨rb, 0, none⟩)] 138 (0, 0)) := (g1.block _ (by simp) (by simpa using hRn)).trans hR0
  have cR1 : w1.cell? ⟨w.heap.size, 0, none⟩ = some (.pointer (some ⟨rb, 0, none⟩)) := by simp [World.cell?, hR1]
  have hlt1 : rb < w1.heap.size := by omega
  have hk2 : w1.grownBy (w1.alloc (.cells #[.string (S g)] 9)) none := grownBy_alloc (grownBy_refl _ _) _
  have g2 : w.grownBy (w1.alloc (.cells #[.string (S g)] 9)) (some rb) := grownBy_alloc (grownBy_trans hgr g1) _
  clear hC hA
  cases hr : Tp.armF ws.data.toList (Tp.inn ws.data.toList d) q with
  | error x =>
    obtain ⟨e1, e2⟩ := x
    rw [hr] at hst
    replace hst : RdBad w1 rb ws op e1 e2 := hst
    obtain ⟨-, c1, -, -, -⟩ := hst.1.c
    have HW : Aside (Tp.wholeF ws.data.toList (Tp.inn ws.data.toList d) q = .error (e1, e2)) := by show _ = _; rw [HF.out, hr]
    have hE : RdBad (w1.alloc (.cells #[.string (S g)] 9)) rb ws op e1 e2 := ⟨hst.1.kept hk2, hst.2⟩
    clear hr hv HF hin
    go_wp2_with fail
    go_ret
    rw [HW.out]
    exact ⟨⟨g, rfl, hg, trivial, hE⟩, g2⟩
  | ok x =>
    obtain ⟨a, q'⟩ := x
    rw [hr] at hst hv
    replace hst : RdAt w1 rb ws q' op := hst
    obtain ⟨-, c1, -, -, -⟩ := hst.1.c
    have h2 : RdAt (w1.alloc (.cells #[.string (S g)] 9)) rb ws q' op := ⟨hst.1.kept hk2, hst.2⟩
    have hto : (S (Tp.tk ws.data.toList q')).toList = Tp.tk ws.data.toList q' := toList_S _
    by_cases ht : Tp.tk ws.data.toList q' = [45, 62]
    · have HW : Aside (Tp.wholeF ws.data.toList (Tp.inn ws.data.toList d) q = Tp.within (Tp.inn ws.data.toList d) q' (fun w => Tp.funF ws.data.toList w.1 a q')) := by show _ = _; rw [HF.out, hr]; simp only []; rw [if_pos ht]
      have ft : ((S (Tp.tk ws.data.toList q')).toList == [45, 62]) = true := by rw [hto, ht]; rfl
      have hv' : g = Tp.val a := hv
      have hA2 : (w1.alloc (.cells #[.string (S g)] 9)).heap[w1.heap.size]? = some (.cells #[.string (S (Tp.val a))] 9 (0, 0)) := by rw [← hv']; exact heap_alloc_new _ _
      have hR2 : (w1.alloc (.cells #[.string (S g)] 9)).heap[w.heap.size]? = some (.cells #[.pointer (some ⟨rb, 0, none⟩)] 138 (0, 0)) := (Below.heap_alloc _ _ _ hRz).trans hR1
      have hC := within_any _ rb ws q' op d h2 hs hd (by rw [ht]; simp) 81 #[.pointer (some ⟨w1.heap.size, 0, none⟩), .pointer (some ⟨w.heap.size, 0, none⟩)] (fun w => Tp.funF ws.data.toList w.1 a q') enters81
        (fun d' e w3 p3 g3 => clo33_any ws d' (hin d' e) a w3 rb q' (op + 1) _ _ p3 (by omega) ((g3.block _ (by simp) (by simp; omega)).trans hA2) ((g3.block _ (by simp; omega) (by simpa using hRn)).trans hR2) (by omega))
      generalize S (Tp.tk ws.data.toList q') = tok at *
      clear hr hv HF hin hto ht hv' hA2
      go_wp2_with fail
      refine hC.mono ?_
      rintro e w3 ⟨⟨g', rfl, hg', hv', hst'⟩, g3⟩
      go_wp2_with fail
      go_ret
      rw [HW.out]
      exact ⟨⟨g', rfl, hg', hv', hst'⟩, grownBy_trans g2 g3⟩
    · have HW : Aside (Tp.wholeF ws.data.toList (Tp.inn ws.data.toList d) q = .ok (a, q')) := by show _ = _; rw [HF.out, hr]; simp only []; rw [if_neg ht]
      have ft : ((S (Tp.tk ws.data.toList q')).toList == [45, 62]) = false := by rw [hto]; simpa using ht
      have HV : Aside (g = Tp.val a) := hv
      generalize S (Tp.tk ws.data.toList q') = tok at *
      clear hr hv HF hin hto ht
      go_wp2_with fail
      go_ret
      rw [HW.out]
      exact ⟨⟨g, rfl, hg, HV.out, h2⟩, g2⟩

theorem both_all (ws : ByteArray) (hs : ws.size ≤ 2147483647) : ∀ d, WholeC ws d ∧ ArmC ws d
  | 0 => by
    have h := arm_step ws hs 0 (fun d' e => by omega)
    exact ⟨whole_step ws hs 0 h (fun d' e => by omega), h⟩
  | d + 1 => by
    have ih := both_all ws hs d
    have h := arm_step ws hs (d + 1) (fun d' e => by obtain rfl : d = d' := by omega
                                                     exact ih)
    exact ⟨whole_step ws hs (d + 1) h (fun d' e => by obtain rfl : d = d' := by omega
                                                      exact ih.1), h⟩
end Go.Proofs.YtncnkojbpdemdaaGreatDoor
