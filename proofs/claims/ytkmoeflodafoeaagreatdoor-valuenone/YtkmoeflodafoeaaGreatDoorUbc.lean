/- Package value: what is told of nil, and of a pair under wrappers whose halves are a number and a blame: Seen. -/
import Derived.Test.YtkmoeflodafoeaaGreatDoorUba
import Derived.Test.YtkmoeflodafoeaaGreatDoorUbb
import Derived.RegionTactic
import Derived.ChangeAlike
namespace Go.Proofs.YtkmoeflodafoeaaGreatDoor.Vl
open Go.RowKit
open T3.Tp (Ty)
set_option maxRecDepth 100000
set_option linter.unusedSimpArgs false
set_option linter.unusedVariables false
set_option maxHeartbeats 1600000 in
theorem tellAll_nil (tb : Nat) (lo lr : Value) (d : Int) (w : World) (h : TS w tb lo lr [] []) (hd : 1 ≤ d) :
    Calls Tryz.prog 77 #[.pointer (some ⟨tb, 0, none⟩), .nilIface, .int .i64 d] w fun e w' => e = .returned (.tuple #[]) ∧ ∃ lo' lr', TS w' tb lo' lr' [⟨10, 32, ⟨#[]⟩⟩] [] ∧ Below tb w w' := by
  have ct := tell_nil tb lo lr [] [] d w h (by decide) hd
  obtain ⟨pa, pc, rfl⟩ : ∃ a c, lr = .slice a 0 c := by obtain ⟨_, ⟨rfl, e⟩ | ⟨g, cap, cur, rfl, _⟩⟩ := h.p; exact ⟨none, 0, rfl⟩; exact ⟨_, cap, rfl⟩
  unfold Tld at ct
  clear h
  go_enter Tryz.func77, Tryz.ntmps77
  go_wp2_with (go_at_call 140; refine ct.mono ?_; rintro e w1 ⟨rfl, lo1, hT1, hB1⟩)
  have HT : Aside (TS w1 tb lo1 (.slice pa 0 pc) [⟨10, 32, ⟨#[]⟩⟩] []) := hT1
  have HB : Aside (Below tb w w1) := hB1
  clear hT1 hB1 ct
  go_loopg [] 0 (fun gq wr => gq = 0 ∧ wr = w1)
  case atStart => exact ⟨rfl, rfl⟩
  case round =>
    obtain ⟨-, rfl⟩ := hrel
    obtain ⟨t0, t1, -, -⟩ := HT.out.cells
    go_wp2_with fail
    go_end0
    exact ⟨rfl, _, _, HT.out, HB.out⟩
theorem store_nf (a : Addr) (w : World) : (store a .nilFunc).run Tryz.prog w = stored Tryz.prog w a .nilFunc .plain := run_store Tryz.prog w a _ _ rfl
set_option maxHeartbeats 6400000 in
theorem tellAll_pair (l : List Value) (tb : Nat) (lo lr : Value) (T : TypeId) (u q : Value) (n b d : Int) (w : World) (h : TS w tb lo lr [] []) (hch : Ch w l (.iface T u) (.iface 107 q)) (hd : 1 ≤ d) (hd2 : d + 1 ≤ 1000000)
    (cF : ∀ W, Below tb w W → Calls Tryz.prog 32 #[.iface T u] W fun e w' => e = .returned (.tuple #[nm n, .int .i64 0, .int .i64 0]) ∧ Below W.heap.size W w')
    (cS : ∀ W, Below tb w W → Calls Tryz.prog 46 #[.iface T u] W fun e w' => e = .returned (.tuple #[.nilIface, .int .i64 b, .int .i64 33]) ∧ Below W.heap.size W w') :
    Calls Tryz.prog 77 #[.pointer (some ⟨tb, 0, none⟩), .iface T u, .int .i64 (d + 1)] w fun e w' => e = .returned (.tuple #[]) ∧ ∃ lo' lr', TS w' tb lo' lr' [⟨6, 0, ⟨#[]⟩⟩, ⟨1, n, ⟨#[]⟩⟩, ⟨9, b, ⟨#[]⟩⟩] [] ∧ Below tb w w' := by
  have ct := tell_pair l tb lo lr [] [] T u q (d + 1) w h hch (by decide) (by omega) hd2
  rw [show d + 1 - 1 = d by omega, List.nil_append, List.nil_append] at ct
  have hTn : ∀ W lo lr P, TS W tb lo lr [⟨6, 0, ⟨#[]⟩⟩] P → Calls Tryz.prog 140 #[.pointer (some ⟨tb, 0, none⟩), nm n, .int .i64 d] W (Tld W tb lr ([⟨6, 0, ⟨#[]⟩⟩] ++ [⟨1, n, ⟨#[]⟩⟩]) P) := fun W lo lr P hW => tell_num tb lo lr _ P n d W hW (by simp) hd
  have hTb : ∀ W lo lr P, TS W tb lo lr ([⟨6, 0, ⟨#[]⟩⟩] ++ [⟨1, n, ⟨#[]⟩⟩]) P → Calls Tryz.prog 141 #[.pointer (some ⟨tb, 0, none⟩), .int .i8 9, .int .i64 b, .string ⟨#[]⟩] W (Tld W tb lr (([⟨6, 0, ⟨#[]⟩⟩] ++ [⟨1, n, ⟨#[]⟩⟩]) ++ [⟨9, b, ⟨#[]⟩⟩]) P) := fun W lo lr P hW => (add_any tb lo lr _ P ⟨9, b, ⟨#[]⟩⟩ W hW (by simp)).mono (by rintro e w' ⟨rfl, lo', hT', hB', -⟩; exact ⟨rfl, lo', hT', hB'⟩)
  have htb0 := h.cells.2.2.2
  have hsf := T3.store_func
  have hsn := store_nf
  have CF : Aside _ := cF
  have CS : Aside _ := cS
  have HN : Aside _ := hTn
  have HA : Aside _ := hTb
  unfold nm at CF HN
  unfold Tld at HN HA
  clear h hch cF cS hTn hTb
  go_enter Tryz.func77, Tryz.ntmps77
  go_wp2_with (go_at_call 140; refine ct.mono ?_; rintro e w1 ⟨rfl, lo1, lr1, hT1, hB1⟩)
  have HT1 : Aside _ := hT1
  have HB1 : Aside (Below tb w w1) := hB1
  clear hT1 hB1 ct
  go_loopg [] 2 (fun gq wr => ∃ lo9 lr9, Aside (Below tb w wr) ∧ ((gq = 2 ∧ TS wr tb lo9 lr9 [⟨6, 0, ⟨#[]⟩⟩] ([⟨.iface T u, .func (.func 46) #[] #[], d⟩] ++ [⟨.iface T u, .func (.func 32) #[] #[], d⟩])) ∨ (gq = 1 ∧ TS wr tb lo9 lr9 ([⟨6, 0, ⟨#[]⟩⟩] ++ [⟨1, n, ⟨#[]⟩⟩]) ([] ++ [⟨.iface T u, .func (.func 46) #[] #[], d⟩])) ∨ (gq = 0 ∧ TS wr tb lo9 lr9 (([⟨6, 0, ⟨#[]⟩⟩] ++ [⟨1, n, ⟨#[]⟩⟩]) ++ [⟨9, b, ⟨#[]⟩⟩]) [])))
  case atStart => exact ⟨_, _, HB1, .inl ⟨rfl, HT1.out⟩⟩
  case round =>
    obtain ⟨lo9, lr9, HB9, HR⟩ := hrel
    clear HT1 HB1
    rcases HR with ⟨hgq, HT⟩ | ⟨hgq, HT⟩ | ⟨hgq, HT⟩
    · obtain ⟨g, cap, hlr, htg, hgl, hlog, hcap, q0, q1, q2, fz⟩ := TS.last (P := [⟨.iface T u, .func (.func 46) #[] #[], d⟩]) (p := ⟨.iface T u, .func (.func 32) #[] #[], d⟩) HT
      simp only [List.length_nil, List.length_cons, Nat.zero_add, Nat.zero_mul, Nat.one_mul, Nat.reduceAdd, Nat.reduceMul] at hlr hcap q0 q1 q2
      subst hlr
      obtain ⟨t0, t1, ft, htl⟩ := TS.cells HT
      have H9 : Aside (TS wr tb lo9 (.slice (some ⟨g, 0, none⟩) 2 cap) [⟨6, 0, ⟨#[]⟩⟩] ([⟨.iface T u, .func (.func 46) #[] #[], d⟩] ++ [⟨.iface T u, .func (.func 32) #[] #[], d⟩])) := HT
      clear HT
      go_upto_region 4 with fail
      obtain ⟨w3, hw3⟩ : ∃ w3, w3 = wr.alloc (.cells #[.iface T u, .func (.func 32) #[] #[], .int .i64 d] 219) := ⟨_, rfl⟩
      have hB3 : Below wr.heap.size wr w3 := by rw [hw3]; exact al_bv _ _
      have HT3 : Aside (TS w3 tb lo9 (.slice (some ⟨g, 0, none⟩) 2 cap) [⟨6, 0, ⟨#[]⟩⟩] ([⟨.iface T u, .func (.func 46) #[] #[], d⟩] ++ [⟨.iface T u, .func (.func 32) #[] #[], d⟩])) := H9.out.below hB3
      have HP3 : Aside (w3.heap[wr.heap.size]? = some (.cells #[.iface T u, .func (.func 32) #[] #[], .int .i64 d] 219 (0, 0))) := by rw [hw3]; exact heap_alloc_new _ _
      have HB3 : Aside (Below tb w w3) := HB9.out.trans (hB3.mono (by omega))
      have HGT : Aside (tb < g ∧ g < wr.heap.size) := ⟨htg, hgl⟩
      rw [← hw3]
      clear hw3 q0 q1 q2 fz t0 t1 ft
      obtain ⟨t0, t1, ft, -⟩ := HT3.out.cells
      obtain ⟨g', cap', hlr', -, -, -, -, q0, q1, q2, fz⟩ := TS.last (P := [⟨.iface T u, .func (.func 46) #[] #[], d⟩]) (p := ⟨.iface T u, .func (.func 32) #[] #[], d⟩) HT3.out
      obtain ⟨rfl, rfl⟩ : g = g' ∧ cap = cap' := by simpa using hlr'
      simp only [List.length_nil, List.length_cons, Nat.zero_add, Nat.zero_mul, Nat.one_mul, Nat.reduceAdd, Nat.reduceMul] at q0 q1 q2
      have f0 := fz 3
      have f1 := fz 4
      have f2 := fz 5
      have ft1 := ft 1
      have hgtb : g ≠ tb := by omega
      have hci : (1 : Int) ≤ (cap : Int) := by omega
      clear hlr' fz ft hB3 htg hgl htl
      generalize wr.heap.size = B at *
      go_region
      obtain ⟨w5, hw5⟩ : ∃ w5, w5 = (((((w3.setCell ⟨g, 3, none⟩ .nilIface).setCell ⟨g, 4, none⟩ .nilFunc).setCell ⟨g, 5, none⟩ (.int .i64 0)).setCell ⟨tb, 1, none⟩ (.slice (some ⟨g, 0, none⟩) 1 cap)).drew) := ⟨_, rfl⟩
      rw [← hw5]
      have hT5 : TS w5 tb lo9 (.slice (some ⟨g, 0, none⟩) 1 cap) [⟨6, 0, ⟨#[]⟩⟩] [⟨.iface T u, .func (.func 46) #[] #[], d⟩] := by
        have := TS.pop (P := [⟨.iface T u, .func (.func 46) #[] #[], d⟩]) (p := ⟨.iface T u, .func (.func 32) #[] #[], d⟩) HT3.out .nilIface .nilFunc (.int .i64 0)
        rw [hw5]; exact ⟨this.t, this.o, this.p⟩
      have hP5 : w5.heap[B]? = some (.cells #[.iface T u, .func (.func 32) #[] #[], .int .i64 d] 219 (0, 0)) := by
        obtain ⟨h1, h2⟩ := HGT.out
        rw [hw5]
        show (World.setCell _ _ _).heap[B]? = _
        rw [Below.heap_setCell _ _ _ _ (by intro e'; simp at e'; omega), Below.heap_setCell _ _ _ _ (by intro e'; simp at e'; omega), Below.heap_setCell _ _ _ _ (by intro e'; simp at e'; omega), Below.heap_setCell _ _ _ _ (by intro e'; simp at e'; omega)]
        exact HP3.out
      have hB5 : Below tb w w5 := by
        obtain ⟨h1, h2⟩ := HGT.out
        rw [hw5]
        exact ((((HB3.out.setCell (p := ⟨g, 3, none⟩) (Nat.le_of_lt h1) _).setCell (p := ⟨g, 4, none⟩) (Nat.le_of_lt h1) _).setCell (p := ⟨g, 5, none⟩) (Nat.le_of_lt h1) _).setCell (p := ⟨tb, 1, none⟩) (Nat.le_refl _) _).drew
      have HT5 : Aside _ := hT5
      have HP5 : Aside _ := hP5
      have HB5 : Aside (Below tb w w5) := hB5
      have p0 := (ptr_block hP5).1 0
      have p1 := (ptr_block hP5).1 1
      clear hw5 hT5 hP5 hB5 t0 t1 q0 q1 q2 f0 f1 f2 ft1
      go_wp2_with (first | (go_at_call 32; refine (CF.out _ HB5.out).mono ?_; rintro e w6 ⟨rfl, hB6⟩; have HT6 : Aside _ := HT5.out.below hB6; have HB6 : Aside (Below tb w w6) := HB5.out.trans (hB6.mono (Nat.le_of_lt HT5.out.cells.2.2.2)); have p2 := (ptr_block (blk_keep HP5.out hB6)).1 2; clear hB6) | (go_at_call 140; refine (HN.out _ _ _ _ HT6.out).mono ?_; rintro e w7 ⟨rfl, lo7, hT7, hB7⟩))
      have HT7 : Aside _ := hT7
      have HB7 : Aside (Below tb w w7) := HB6.out.trans hB7
      clear hT7 hB7
      go_roundg 1
      case measure => omega
      case rel => exact ⟨_, _, HB7, .inr (.inl ⟨rfl, HT7.out⟩)⟩
    · obtain ⟨g, cap, hlr, htg, hgl, hlog, hcap, q0, q1, q2, fz⟩ := TS.last (P := []) (p := ⟨.iface T u, .func (.func 46) #[] #[], d⟩) HT
      simp only [List.length_nil, List.length_cons, Nat.zero_add, Nat.zero_mul, Nat.one_mul, Nat.reduceAdd, Nat.reduceMul] at hlr hcap q0 q1 q2
      subst hlr
      obtain ⟨t0, t1, ft, htl⟩ := TS.cells HT
      have H9 : Aside (TS wr tb lo9 (.slice (some ⟨g, 0, none⟩) 1 cap) ([⟨6, 0, ⟨#[]⟩⟩] ++ [⟨1, n, ⟨#[]⟩⟩]) ([] ++ [⟨.iface T u, .func (.func 46) #[] #[], d⟩])) := HT
      clear HT
      go_upto_region 4 with fail
      obtain ⟨w3, hw3⟩ : ∃ w3, w3 = wr.alloc (.cells #[.iface T u, .func (.func 46) #[] #[], .int .i64 d] 219) := ⟨_, rfl⟩
      have hB3 : Below wr.heap.size wr w3 := by rw [hw3]; exact al_bv _ _
      have HT3 : Aside (TS w3 tb lo9 (.slice (some ⟨g, 0, none⟩) 1 cap) ([⟨6, 0, ⟨#[]⟩⟩] ++ [⟨1, n, ⟨#[]⟩⟩]) ([] ++ [⟨.iface T u, .func (.func 46) #[] #[], d⟩])) := H9.out.below hB3
      have HP3 : Aside (w3.heap[wr.heap.size]? = some (.cells #[.iface T u, .func (.func 46) #[] #[], .int .i64 d] 219 (0, 0))) := by rw [hw3]; exact heap_alloc_new _ _
      have HB3 : Aside (Below tb w w3) := HB9.out.trans (hB3.mono (by omega))
      have HGT : Aside (tb < g ∧ g < wr.heap.size) := ⟨htg, hgl⟩
      rw [← hw3]
      clear hw3 q0 q1 q2 fz t0 t1 ft
      obtain ⟨t0, t1, ft, -⟩ := HT3.out.cells
      obtain ⟨g', cap', hlr', -, -, -, -, q0, q1, q2, fz⟩ := TS.last (P := []) (p := ⟨.iface T u, .func (.func 46) #[] #[], d⟩) HT3.out
      obtain ⟨rfl, rfl⟩ : g = g' ∧ cap = cap' := by simpa using hlr'
      simp only [List.length_nil, List.length_cons, Nat.zero_add, Nat.zero_mul, Nat.one_mul, Nat.reduceAdd, Nat.reduceMul] at q0 q1 q2
      have f0 := fz 0
      have f1 := fz 1
      have f2 := fz 2
      have ft1 := ft 1
      have hgtb : g ≠ tb := by omega
      have hci : (0 : Int) ≤ (cap : Int) := by omega
      clear hlr' fz ft hB3 htg hgl htl
      generalize wr.heap.size = B at *
      go_region
      obtain ⟨w5, hw5⟩ : ∃ w5, w5 = (((((w3.setCell ⟨g, 0, none⟩ .nilIface).setCell ⟨g, 1, none⟩ .nilFunc).setCell ⟨g, 2, none⟩ (.int .i64 0)).setCell ⟨tb, 1, none⟩ (.slice (some ⟨g, 0, none⟩) 0 cap)).drew) := ⟨_, rfl⟩
      rw [← hw5]
      have hT5 : TS w5 tb lo9 (.slice (some ⟨g, 0, none⟩) 0 cap) ([⟨6, 0, ⟨#[]⟩⟩] ++ [⟨1, n, ⟨#[]⟩⟩]) [] := by
        have := TS.pop (P := []) (p := ⟨.iface T u, .func (.func 46) #[] #[], d⟩) HT3.out .nilIface .nilFunc (.int .i64 0)
        rw [hw5]; exact ⟨this.t, this.o, this.p⟩
      have hP5 : w5.heap[B]? = some (.cells #[.iface T u, .func (.func 46) #[] #[], .int .i64 d] 219 (0, 0)) := by
        obtain ⟨h1, h2⟩ := HGT.out
        rw [hw5]
        show (World.setCell _ _ _).heap[B]? = _
        rw [Below.heap_setCell _ _ _ _ (by intro e'; simp at e'; omega), Below.heap_setCell _ _ _ _ (by intro e'; simp at e'; omega), Below.heap_setCell _ _ _ _ (by intro e'; simp at e'; omega), Below.heap_setCell _ _ _ _ (by intro e'; simp at e'; omega)]
        exact HP3.out
      have hB5 : Below tb w w5 := by
        obtain ⟨h1, h2⟩ := HGT.out
        rw [hw5]
        exact ((((HB3.out.setCell (p := ⟨g, 0, none⟩) (Nat.le_of_lt h1) _).setCell (p := ⟨g, 1, none⟩) (Nat.le_of_lt h1) _).setCell (p := ⟨g, 2, none⟩) (Nat.le_of_lt h1) _).setCell (p := ⟨tb, 1, none⟩) (Nat.le_refl _) _).drew
      have HT5 : Aside _ := hT5
      have HP5 : Aside _ := hP5
      have HB5 : Aside (Below tb w w5) := hB5
      have p0 := (ptr_block hP5).1 0
      have p1 := (ptr_block hP5).1 1
      clear hw5 hT5 hP5 hB5 t0 t1 q0 q1 q2 f0 f1 f2 ft1
      go_wp2_with (first | (go_at_call 46; refine (CS.out _ HB5.out).mono ?_; rintro e w6 ⟨rfl, hB6⟩; have HT6 : Aside _ := HT5.out.below hB6; have HB6 : Aside (Below tb w w6) := HB5.out.trans (hB6.mono (Nat.le_of_lt HT5.out.cells.2.2.2)); clear hB6) | (go_at_call 141; refine (HA.out _ _ _ _ HT6.out).mono ?_; rintro e w7 ⟨rfl, lo7, hT7, hB7⟩))
      have HT7 : Aside _ := hT7
      have HB7 : Aside (Below tb w w7) := HB6.out.trans hB7
      clear hT7 hB7
      go_roundg 0
      case measure => omega
      case rel => exact ⟨_, _, HB7, .inr (.inr ⟨rfl, HT7.out⟩)⟩
    · obtain ⟨pa, pc, rfl⟩ : ∃ a c, lr9 = .slice a 0 c := by obtain ⟨_, ⟨rfl, e⟩ | ⟨g, cap, cur, rfl, _⟩⟩ := HT.p; exact ⟨none, 0, rfl⟩; exact ⟨_, cap, rfl⟩
      have HT0 : Aside _ := HT
      obtain ⟨t0, t1, -, -⟩ := HT.cells
      clear HT hgq
      go_wp2_with fail
      go_end0
      exact ⟨rfl, _, _, HT0.out, HB9.out⟩
end Go.Proofs.YtkmoeflodafoeaaGreatDoor.Vl
