/- Package value: casts one by one: untag, castBy, Cast; wrappers in memory. -/
import Derived.Test.YtkmoeflodafoeaaGreatDoorUao
namespace Go.Proofs.YtkmoeflodafoeaaGreatDoor.Vl
open Go.RowKit
open T3.Tp (Ty)
set_option maxRecDepth 100000
set_option linter.unusedSimpArgs false
set_option linter.unusedVariables false
/-- A base type's text, of this letter. -/
abbrev sB (c : UInt8) : ByteArray := ⟨#[c]⟩
def isB (c : UInt8) : Prop := c = 105 ∨ c = 98 ∨ c = 116
theorem blk_keep {w w' : World} {g : Nat} {o : Obj} (h : w.heap[g]? = some o) (hB : Below w.heap.size w w') : w'.heap[g]? = some o := (hB.block g (Array.getElem?_eq_some_iff.1 h).1).trans h
/-- A tagged value. -/
def TgAt (w : World) (x : Value) (v : Value) (h : Int) : Prop := ∃ g, x = .iface 199 (.pointer (some ⟨g, 0, none⟩)) ∧ w.heap[g]? = some (.cells #[v, .int .u8 h] 201 (0, 0))
theorem TgAt.below {w w' : World} {x v : Value} {h : Int} (k : TgAt w x v h) (hB : Below w.heap.size w w') : TgAt w' x v h := by
  obtain ⟨g, e, hg⟩ := k
  exact ⟨g, e, blk_keep hg hB⟩
/-- A value wrapped with a cast. -/
def RcAt (w : World) (x : Value) (v : Value) (s t : ByteArray) (p : Int) : Prop := ∃ g, x = .iface 203 (.pointer (some ⟨g, 0, none⟩)) ∧ w.heap[g]? = some (.cells #[v, .string s, .string t, .int .i64 p] 205 (0, 0))
theorem RcAt.below {w w' : World} {x v : Value} {s t : ByteArray} {p : Int} (k : RcAt w x v s t p) (hB : Below w.heap.size w w') : RcAt w' x v s t p := by
  obtain ⟨g, e, hg⟩ := k
  exact ⟨g, e, blk_keep hg hB⟩
theorem ta_tag (v : Value) (w : World) : (Instr.typeAssert (.iface 199 v) 26 199 true).run Tryz.prog w = .ok (.tuple #[v, .bool true]) w := by kernel_rfl
set_option maxHeartbeats 400000 in
theorem ground_base (c : UInt8) (hc : isB c) (w : World) :
    Calls Tryz.prog 124 #[.string (sB c)] w fun e w' => e = .returned (.string (sB c)) ∧ Below w.heap.size w w' := by
  have ct : ∀ W, Calls Tryz.prog 164 #[.string (sB c)] W fun e w' => e = .returned (.bool true) ∧ w' = W := fun W => T3.isType_yes _ (by rcases hc with rfl | rfl | rfl <;> rfl) W
  have cp : ∀ W, Calls Tryz.prog 161 #[.int .u8 (c.toNat : Int)] W fun e w' => e = .returned (.int .i64 0) ∧ w' = W := fun W => by
    have h := T3.partsOf_any (c.toNat : Int) W
    rwa [show T3.Tp.ar (c.toNat : Int) = 0 by rcases hc with rfl | rfl | rfl <;> rfl] at h
  have cr := Tryz.strings_Repeat_zero (sB 63)
  rcases hc with rfl | rfl | rfl
  all_goals
    go_enter Tryz.func124, Tryz.ntmps124
    go_wp2_with (go_at_call 164; refine (ct _).mono ?_; rintro e w1 ⟨rfl, rfl⟩)
    go_quiet ((first | (go_at_call 161; exact Calls.quiet_of_same (cp _)) | (go_at_call 165; exact Calls.quiet_of_same (cr _))))
    go_wp2
    go_ret
    exact ⟨congrArg (fun s => Ending.returned (.string s)) (by decide), below_dv (Below.refl _ _) _⟩
set_option maxHeartbeats 800000 in
theorem untag_yes (x v : Value) (h p : Int) (w : World) (k : TgAt w x v h) :
    Calls Tryz.prog 133 #[x, .int .u8 h, .int .i64 p] w fun e w' => e = .returned (.tuple #[v, .int .i64 0, .int .i64 0]) ∧ w' = w := by
  obtain ⟨g, rfl, hg⟩ := k
  obtain ⟨hc, -, -⟩ := ptr_block hg
  have c0 : w.cell? ⟨g, 0, none⟩ = some v := hc 0
  have c1 : w.cell? ⟨g, 1, none⟩ = some (.int .u8 h) := hc 1
  have ha := ta_tag
  clear hc hg
  go_enter Tryz.func133, Tryz.ntmps133
  go_wp2
  go_ret3
  exact ⟨rfl, rfl⟩
set_option maxHeartbeats 800000 in
theorem untag_blame (x v : Value) (h h' p : Int) (hne : h ≠ h') (w : World) (k : TgAt w x v h) :
    Calls Tryz.prog 133 #[x, .int .u8 h', .int .i64 p] w fun e w' => e = .returned (.tuple #[.nilIface, .int .i64 p, .int .i64 33]) ∧ w' = w := by
  obtain ⟨g, rfl, hg⟩ := k
  obtain ⟨hc, -, -⟩ := ptr_block hg
  have c1 : w.cell? ⟨g, 1, none⟩ = some (.int .u8 h) := hc 1
  have ha := ta_tag
  have hne' : (h != h') = true := by simpa using hne
  clear hc hg
  go_enter Tryz.func133, Tryz.ntmps133
  go_wp2
  go_ret3
  exact ⟨rfl, rfl⟩
set_option maxHeartbeats 800000 in
theorem castBy_id (v : Value) (s : ByteArray) (p : Int) (w : World) :
    Calls Tryz.prog 67 #[v, .string s, .string s, .int .i64 p] w fun e w' => e = .returned (.tuple #[v, .int .i64 0, .int .i64 0]) ∧ w' = w := by
  have hs : (s.toList == s.toList) = true := by simp
  go_enter Tryz.func67, Tryz.ntmps67
  go_wp2
  go_ret3
  exact ⟨rfl, rfl⟩
set_option maxHeartbeats 800000 in
theorem castBy_rc (T : TypeId) (u : Value) (s t : ByteArray) (h1 : (s.toList == t.toList) = false) (h2 : (s.toList == [63]) = false) (h3 : (t.toList == [63]) = false) (p : Int) (w : World) :
    Calls Tryz.prog 67 #[.iface T u, .string s, .string t, .int .i64 p] w fun e w' => ∃ x, e = .returned (.tuple #[x, .int .i64 0, .int .i64 0]) ∧ RcAt w' x (.iface T u) s t p ∧ Below w.heap.size w w' := by
  go_enter Tryz.func67, Tryz.ntmps67
  go_wp2
  go_ret3
  exact ⟨_, rfl, ⟨_, rfl, heap_alloc_new _ _⟩, al_bv _ _⟩
set_option maxHeartbeats 800000 in
theorem castBy_tag (T : TypeId) (u : Value) (c : UInt8) (hc : isB c) (p : Int) (w : World) :
    Calls Tryz.prog 67 #[.iface T u, .string (sB c), .string (sB 63), .int .i64 p] w fun e w' => ∃ x, e = .returned (.tuple #[x, .int .i64 0, .int .i64 0]) ∧ TgAt w' x (.iface T u) (c.toNat : Int) ∧ Below w.heap.size w w' := by
  have cg := ground_base c hc
  have ci := castBy_id (.iface T u) (sB c) p
  rcases hc with rfl | rfl | rfl
  all_goals
    go_enter Tryz.func67, Tryz.ntmps67
    go_wp2_with (first | (go_at_call 124; refine (cg _).mono ?_; rintro e w1 ⟨rfl, hB1⟩) | (go_at_call 67; refine (ci _).mono ?_; rintro e w2 ⟨rfl, hw2⟩; replace hw2 := hw2.symm; subst hw2))
    go_ret3
    exact ⟨_, rfl, ⟨_, rfl, heap_alloc_new _ _⟩, hB1.trans ((al_bv _ _).mono hB1.size)⟩
set_option maxHeartbeats 800000 in
theorem castBy_untag (x v : Value) (c : UInt8) (hc : isB c) (p : Int) (w : World) (k : TgAt w x v (c.toNat : Int)) :
    Calls Tryz.prog 67 #[x, .string (sB 63), .string (sB c), .int .i64 p] w fun e w' => e = .returned (.tuple #[v, .int .i64 0, .int .i64 0]) ∧ Below w.heap.size w w' := by
  have cg := ground_base c hc
  have ci := castBy_id v (sB c) p
  have cu := untag_yes x v (c.toNat : Int) p w k
  clear k
  rcases hc with rfl | rfl | rfl
  all_goals
    go_enter Tryz.func67, Tryz.ntmps67
    go_wp2_with (first | (go_at_call 133; refine cu.mono ?_; rintro e w0 ⟨rfl, hw0⟩; replace hw0 := hw0.symm; subst hw0) | (go_at_call 124; refine (cg _).mono ?_; rintro e w1 ⟨rfl, hB1⟩) | (go_at_call 67; refine (ci _).mono ?_; rintro e w2 ⟨rfl, hw2⟩; replace hw2 := hw2.symm; subst hw2))
    go_ret3
    exact ⟨rfl, hB1⟩
set_option maxHeartbeats 800000 in
theorem castBy_blame (x v : Value) (h : Int) (c : UInt8) (hc : isB c) (hne : h ≠ (c.toNat : Int)) (p : Int) (w : World) (k : TgAt w x v h) :
    Calls Tryz.prog 67 #[x, .string (sB 63), .string (sB c), .int .i64 p] w fun e w' => e = .returned (.tuple #[.nilIface, .int .i64 p, .int .i64 33]) ∧ w' = w := by
  have cu := untag_blame x v h (c.toNat : Int) p hne w k
  clear k
  rcases hc with rfl | rfl | rfl
  all_goals
    go_enter Tryz.func67, Tryz.ntmps67
    go_wp2_with (go_at_call 133; refine cu.mono ?_; rintro e w0 ⟨rfl, hw0⟩; replace hw0 := hw0.symm; subst hw0)
    go_ret3
    exact ⟨rfl, rfl⟩
/-- Cast of a value that is there: castError's word first, then castBy's. -/
theorem cast_of (v : Value) (T : TypeId) (u : Value) (hv : v = .iface T u) (a b : Ty) (ha : (T3.Tp.enc a).length ≤ 64) (hb : (T3.Tp.enc b).length ≤ 64) (p : Int) (hp : lab p = true) (hab : T3.Tp.cns a b = true) (w : World) {Q : Ending → World → Prop}
    (h : ∀ W, Below w.heap.size w W → Calls Tryz.prog 67 #[v, .string (tx a), .string (tx b), .int .i64 p] W fun e w' => ∃ x y z, e = .returned (.tuple #[x, y, z]) ∧ Q e w') :
    Calls Tryz.prog 20 #[v, .string (tx a), .string (tx b), .int .i64 p] w Q := by
  have ce := castError_yes a b ha hb p w
  rw [show cErr a b p = 0 by unfold cErr; rw [hab, hp]; rfl] at ce
  generalize tx a = s at *
  generalize tx b = t at *
  subst hv
  go_enter Tryz.func20, Tryz.ntmps20
  go_wp2_with (first | (go_at_call 66; refine ce.mono ?_; rintro e w1 ⟨rfl, hB1⟩) | (go_at_call 67; refine (h _ hB1).mono ?_; rintro e w2 ⟨x, y, z, rfl, hQ⟩))
  go_ret3
  exact hQ
end Go.Proofs.YtkmoeflodafoeaaGreatDoor.Vl
