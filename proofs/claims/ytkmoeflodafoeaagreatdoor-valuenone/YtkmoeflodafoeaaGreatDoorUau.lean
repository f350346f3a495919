/- Package value: pass, through, Cell, Read, Write. -/
import Derived.Test.YtkmoeflodafoeaaGreatDoorUat
import Derived.Stop.Asserts
namespace Go.Proofs.YtkmoeflodafoeaaGreatDoor.Vl
open Go.RowKit
open T3.Tp (Ty)
set_option maxRecDepth 100000
set_option linter.unusedSimpArgs false
set_option linter.unusedVariables false
theorem StEnd.from {w w1 w' : World} {I : Value → World → Prop} {R : Int → Int → World → Prop} {e : Ending} (hB : Below w.heap.size w w1) (h : StEnd w1 I R e w') : StEnd w I R e w' := by
  obtain ⟨v, p, k, he, hb, h⟩ := h
  exact ⟨v, p, k, he, hB.trans (hb.mono hB.size), h⟩
set_option maxHeartbeats 1600000 in
theorem pass_any (l : List Value) (lv core : Value) (base : Nat) (T : TypeId) (u : Value) (h : Int) (i k : Nat) (inw : Bool) (w : World) (hO : w.ownsRow base 216 1 lv l.length l) (hl : l.length ≤ 1000) (hi : Ifc core)
    (I : Nat → Value → World → Prop) (R : Int → Int → World → Prop) (h0 : I 0 (.iface T u) w) (hd : ∀ j v W o, I j v W → I j v (W.alloc o)) (hif : ∀ j v W, I j v W → ∃ T u, v = .iface T u)
    (hs : ∀ j v W y, j < l.length → l[if inw then j else l.length - 1 - j]? = some y → I j v W → Below w.heap.size w W → ∃ gy, y = .iface 203 (.pointer (some ⟨gy, 0, none⟩)) ∧ Calls Tryz.prog 241 #[.pointer (some ⟨gy, 0, none⟩), v, psg h i k inw] W (StEnd W (I (j + 1)) R)) :
    Calls Tryz.prog 76 #[.agg #[lv, core], .iface T u, psg h i k inw] w (StEnd w (I l.length) R) := by
  obtain ⟨la, lc, rfl⟩ := own_formv hO
  have cE := fun (W : World) (pb : Nat) (hB : Below w.heap.size w W) (hp : W.heap[pb]? = some (.cells #[.int .u8 h, .int .i64 (i : Int), .int .i64 (k : Int), .bool inw] 142 (0, 0))) (h9 : I 0 (.iface T u) W) =>
    each_pass l (.slice la l.length lc) core base T u h i k pb inw W (own_below1 hO hB) hl hi hp I R h9 hd hif (fun j v W' y hj hy hI hW' => hs j v W' y hj hy hI (hB.trans (hW'.mono hB.size)))
  have h2 : ∀ o o', I 0 (.iface T u) ((w.alloc o).alloc o') := fun o o' => hd _ _ _ _ (hd _ _ _ _ h0)
  clear hs hd hif h0 hO
  unfold psg clo at *
  rcases hi with rfl | ⟨T', u', rfl⟩
  · go_enter Tryz.func76, Tryz.ntmps76
    go_wp2_with fail
    obtain ⟨w3, hw3⟩ : ∃ w3, w3 = (w.alloc (.cells #[.slice la l.length lc, .nilIface] 147)).alloc (.cells #[.int .u8 h, .int .i64 (i : Int), .int .i64 (k : Int), .bool inw] 142) := ⟨_, rfl⟩
    have hB3 : Below w.heap.size w w3 := by rw [hw3]; exact below_b (al_bv _ _) (al_bv _ _)
    have hp3 : w3.heap[w.heap.size + 1]? = some (.cells #[.int .u8 h, .int .i64 (i : Int), .int .i64 (k : Int), .bool inw] 142 (0, 0)) := by
      have := heap_alloc_new (w.alloc (.cells #[.slice la l.length lc, .nilIface] 147)) (.cells #[.int .u8 h, .int .i64 (i : Int), .int .i64 (k : Int), .bool inw] 142)
      rw [hw3]; simpa using this
    have h3 : I 0 (.iface T u) w3 := by rw [hw3]; exact h2 _ _
    rw [← hw3]
    clear hw3 h2
    refine (cE w3 (w.heap.size + 1) hB3 hp3 h3).mono ?_
    rintro e w4 hE
    obtain ⟨v4, p4, k4, rfl, hF⟩ := StEnd.from hB3 hE
    have HE : Aside _ := hF
    clear hE hF cE h3
    go_wp2_with fail
    go_ret3
    exact ⟨_, _, _, rfl, HE⟩
  · go_enter Tryz.func76, Tryz.ntmps76
    go_wp2_with fail
    obtain ⟨w3, hw3⟩ : ∃ w3, w3 = (w.alloc (.cells #[.slice la l.length lc, (.iface T' u')] 147)).alloc (.cells #[.int .u8 h, .int .i64 (i : Int), .int .i64 (k : Int), .bool inw] 142) := ⟨_, rfl⟩
    have hB3 : Below w.heap.size w w3 := by rw [hw3]; exact below_b (al_bv _ _) (al_bv _ _)
    have hp3 : w3.heap[w.heap.size + 1]? = some (.cells #[.int .u8 h, .int .i64 (i : Int), .int .i64 (k : Int), .bool inw] 142 (0, 0)) := by
      have := heap_alloc_new (w.alloc (.cells #[.slice la l.length lc, (.iface T' u')] 147)) (.cells #[.int .u8 h, .int .i64 (i : Int), .int .i64 (k : Int), .bool inw] 142)
      rw [hw3]; simpa using this
    have h3 : I 0 (.iface T u) w3 := by rw [hw3]; exact h2 _ _
    rw [← hw3]
    clear hw3 h2
    refine (cE w3 (w.heap.size + 1) hB3 hp3 h3).mono ?_
    rintro e w4 hE
    obtain ⟨v4, p4, k4, rfl, hF⟩ := StEnd.from hB3 hE
    have HE : Aside _ := hF
    clear hE hF cE h3
    go_wp2_with fail
    go_ret3
    exact ⟨_, _, _, rfl, HE⟩
theorem ta_box (v : Value) (w : World) : (Instr.typeAssert (.iface 136 v) 26 136 true).run Tryz.prog w = .ok (.tuple #[v, .bool true]) w := by kernel_rfl
/-- A box of its own. -/
def BxAt (w : World) (x c : Value) : Prop := ∃ g, x = .iface 136 (.pointer (some ⟨g, 0, none⟩)) ∧ w.heap[g]? = some (.cells #[c] 138 (0, 0))
theorem BxAt.below {w w' : World} {x c : Value} (k : BxAt w x c) (hB : Below w.heap.size w w') : BxAt w' x c := by
  obtain ⟨g, e, hg⟩ := k
  exact ⟨g, e, blk_keep hg hB⟩
theorem nw_box0 (u : Value) (w : World) : (Instr.typeAssert (.iface 136 u) 26 216 true).run Tryz.prog w = .ok (.tuple #[.nilIface, .bool false]) w := run_typeAssert_lacksB Tryz.underlying216 (by kernel_rfl) (by kernel_rfl) u _ w
theorem nw_box (u : Value) : NotWr (.iface 136 u) := nw_box0 u
theorem BxAt.ifc {w : World} {x c : Value} (k : BxAt w x c) : Ifc x ∧ NotWr x := by
  obtain ⟨g, rfl, -⟩ := k
  exact ⟨.inr ⟨_, _, rfl⟩, nw_box _⟩
set_option maxHeartbeats 400000 in
theorem cellOf_any (x c : Value) (w : World) (k : BxAt w x c) : Calls Tryz.prog 72 #[x] w fun e w' => e = .returned (.tuple #[c, .int .i64 0]) ∧ w' = w := by
  obtain ⟨g, rfl, hg⟩ := k
  have c0 : w.cell? ⟨g, 0, none⟩ = some c := (ptr_block hg).1 0
  have ha := ta_box
  clear hg
  go_enter Tryz.func72, Tryz.ntmps72
  go_wp2
  go_ret2
  exact ⟨rfl, rfl⟩
set_option maxHeartbeats 800000 in
theorem Cell_any (l : List Value) (x core c : Value) (w : World) (hch : Ch w l x core) (hb : BxAt w core c) (hl : l.length ≤ 1000) (hh : ∀ y ∈ l, Hd w 120 y) :
    Calls Tryz.prog 106 #[x] w fun e w' => e = .returned (.tuple #[c, .int .i64 0]) ∧ Below w.heap.size w w' := by
  have cp := (peel_any l x core 120 w hch hb.ifc.2 hb.ifc.1 hl hh)
  have cp : Calls Tryz.prog 136 #[x, .int .u8 120] w fun e w' => ∃ a c, e = .returned (.tuple #[.agg #[.slice a l.length c, core], .int .i64 0]) ∧ Below w.heap.size w w' := cp.mono (by
    rintro e w' ⟨v, rfl, hO, hB⟩
    obtain ⟨a, c, rfl⟩ := own_formv hO
    exact ⟨a, c, rfl, hB⟩)
  have cc : ∀ W, Below w.heap.size w W → Calls Tryz.prog 72 #[core] W fun e w' => e = .returned (.tuple #[c, .int .i64 0]) ∧ w' = W := fun W hW => cellOf_any core c W (hb.below hW)
  obtain ⟨g, rfl, -⟩ := hb
  clear hch hh
  go_enter Tryz.func106, Tryz.ntmps106
  go_wp2_with (first | (go_at_call 136; refine cp.mono ?_; rintro e w1 ⟨a1, c1, rfl, hB1⟩; have hB2 := fun o => below_b hB1 (al_bv w1 o)) | (go_at_call 72; refine (cc _ (hB2 _)).mono ?_; rintro e w2 ⟨rfl, hw2⟩; replace hw2 := hw2.symm; subst hw2))
  go_ret2
  exact ⟨rfl, hB2 _⟩
set_option maxHeartbeats 1600000 in
theorem through_box (l : List Value) (x core c : Value) (T : TypeId) (u : Value) (i k : Nat) (inw : Bool) (w : World) (hch : Ch w l x core) (hb : BxAt w core c) (hl : l.length ≤ 1000) (hh : ∀ y ∈ l, Hd w 120 y)
    (I : Nat → Value → World → Prop) (R : Int → Int → World → Prop) (h0 : ∀ W, Below w.heap.size w W → I 0 (.iface T u) W) (hd : ∀ j v W o, I j v W → I j v (W.alloc o)) (hif : ∀ j v W, I j v W → ∃ T u, v = .iface T u)
    (hs : ∀ j v W y, j < l.length → l[if inw then j else l.length - 1 - j]? = some y → I j v W → Below w.heap.size w W → ∃ gy, y = .iface 203 (.pointer (some ⟨gy, 0, none⟩)) ∧ Calls Tryz.prog 241 #[.pointer (some ⟨gy, 0, none⟩), v, psg 120 i k inw] W (StEnd W (I (j + 1)) R)) :
    Calls Tryz.prog 70 #[x, .iface T u, psg 120 i k inw, .func (.func 72) #[] #[]] w (StEnd w (I l.length) R) := by
  have cp : ∀ o, Calls Tryz.prog 136 #[x, .int .u8 120] (w.alloc o) fun e w' => ∃ a c, e = .returned (.tuple #[.agg #[.slice a l.length c, core], .int .i64 0]) ∧ w'.ownsRow w.heap.size 216 1 (.slice a l.length c) l.length l ∧ Below (w.alloc o).heap.size (w.alloc o) w' := fun o => (peel_any l x core 120 (w.alloc o) (hch.later (al_bv _ _)) hb.ifc.2 hb.ifc.1 hl (fun y hy => (hh y hy).later (al_bv _ _))).mono (by
    rintro e w' ⟨v, rfl, hO, hB⟩
    obtain ⟨a, c, rfl⟩ := own_formv hO
    exact ⟨a, c, rfl, own_lowerv hO (by simp), hB⟩)
  have cc : ∀ W, Below w.heap.size w W → Calls Tryz.prog 72 #[core] W fun e w' => e = .returned (.tuple #[c, .int .i64 0]) ∧ w' = W := fun W hW => cellOf_any core c W (hb.below hW)
  have hic := hb.ifc.1
  have cP := fun (W : World) (la : Option Addr) (lc : Nat) (hB : Below w.heap.size w W) (hO : W.ownsRow w.heap.size 216 1 (.slice la l.length lc) l.length l) =>
    pass_any l (.slice la l.length lc) core w.heap.size T u 120 i k inw W hO hl hic I R (h0 W hB) hd hif (fun j v W' y hj hy hI hW' => hs j v W' y hj hy hI (hB.trans (hW'.mono hB.size)))
  obtain ⟨g, rfl, -⟩ := hb
  clear hs hd hif h0 hch hh hic
  unfold psg at *
  go_enter Tryz.func70, Tryz.ntmps70
  go_wp2_with fail
  refine (cp _).mono ?_
  rintro e w1 ⟨a1, c1, rfl, hO1, hB1⟩
  have HB2 : Aside (∀ o, Below w.heap.size w (w1.alloc o)) := fun o => below_b (below_b (al_bv w _) hB1) (al_bv w1 o)
  have HO2 : Aside (∀ o, (w1.alloc o).ownsRow w.heap.size 216 1 (.slice a1 l.length c1) l.length l) := fun o => own_below1 hO1 (al_bv w1 o)
  have hpb := fun o => blk_keep (blk_keep (heap_alloc_new w (.cells #[.int .u8 120, .int .i64 (i : Int), .int .i64 (k : Int), .bool inw] 142)) hB1) (al_bv w1 o)
  have q0 := fun o => (ptr_block (hpb o)).1 0
  have q1 := fun o => (ptr_block (hpb o)).1 1
  have q2 := fun o => (ptr_block (hpb o)).1 2
  have q3 := fun o => (ptr_block (hpb o)).1 3
  clear hO1 hB1 cp hpb
  go_wp2_with (go_at_call 72; refine (cc _ (HB2.out _)).mono ?_; rintro e w2 ⟨rfl, hw2⟩; replace hw2 := hw2.symm; subst hw2)
  refine (cP _ _ _ (HB2.out _) (HO2.out _)).mono ?_
  rintro e w4 hE
  obtain ⟨v4, p4, k4, rfl, hF⟩ := StEnd.from (HB2.out _) hE
  have HE : Aside _ := hF
  clear hE hF cP
  go_wp2_with fail
  go_ret3
  exact ⟨_, _, _, rfl, HE⟩
end Go.Proofs.YtkmoeflodafoeaaGreatDoor.Vl
