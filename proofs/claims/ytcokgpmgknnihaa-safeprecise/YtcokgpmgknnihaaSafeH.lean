/- What the program's walk notes, of any two types; what Sides, Plus and Minus answer. -/
import Derived.Test.YtcokgpmgknnihaaSafeD
import Derived.Test.YtcokgpmgknnihaaSafeE
import Derived.Test.YtcokgpmgknnihaaSafeF
import Derived.Test.YtcokgpmgknnihaaSafeG
import Derived.RegionTactic
import Derived.ChangeAlike
namespace Go.Proofs.Ytcokgpmgknnihaa
open Go.RowKit
set_option maxRecDepth 100000

theorem walk_any (n : Nat) : WalkOk n := by
  induction n using Nat.strongRecOn with
  | _ n ih =>
    intro a
    cases a with
    | ti | tb | tt | tq => exact walk_leaf n ih _ rfl
    | tl k => exact walk_l n ih _ rfl
    | tx k => exact walk_x n ih _ rfl
    | tp k m => exact walk_p n ih _ rfl
    | tf k m => exact walk_f n ih _ rfl

theorem sIsType_yes {s : ByteArray} (h : (Tp.chk s.data.toList).1 = 0) (w : World) : Calls Try.prog 18 #[.string s] w fun e w' => e = .returned (.bool true) ∧ w' = w := by
  have := sIsType_any s w; rw [h] at this; exact this
theorem sIsType_no {s : ByteArray} (h : (Tp.chk s.data.toList).1 ≠ 0) (w : World) : Calls Try.prog 18 #[.string s] w fun e w' => e = .returned (.bool false) ∧ w' = w := by
  have := sIsType_any s w
  rw [show ((Tp.chk s.data.toList).1 == 0) = false by simpa using h] at this; exact this

set_option maxHeartbeats 2000000 in
theorem sides_yes (a b : Tp.Ty) (ha : (Tp.enc a).length ≤ 64) (hb : (Tp.enc b).length ≤ 64) (w : World) :
    Calls Try.prog 9 #[.string (S (Tp.enc a)), .string (S (Tp.enc b))] w fun e w' => e = .returned (.tuple #[.bool (Tp.pls a b), .bool (Tp.mns a b)]) ∧ Below w.heap.size w w' := by
  have h1 := sIsType_yes (s := S (Tp.enc a)) (by rw [S_list, Tp.chk_enc a ha])
  have h2 := sIsType_yes (s := S (Tp.enc b)) (by rw [S_list, Tp.chk_enc b hb])
  have hX : Tp.pls a b = (true && Tp.wx false a b) ∧ Tp.mns a b = (true && Tp.wy false a b) := by simp [Tp.wx, Tp.wy]
  rw [hX.1, hX.2]
  clear hX
  have hW := fun (C D : Nat) (w : World) => walk_any (Tp.sz a + Tp.sz b) a b 19 21 C D true true false w (Nat.le_refl _) ha hb qst19 qst21
  generalize (true && Tp.wx false a b) = X at *
  generalize (true && Tp.wy false a b) = Y at *
  have hsf := store_func
  generalize S (Tp.enc a) = s at *
  generalize S (Tp.enc b) = t at *
  go_enter Try.func9, Try.ntmps9
  go_wp2_with (first | (go_at_call_of 18 s; refine (h1 _).mono ?_; rintro e w' ⟨rfl, hw'⟩; replace hw' := hw'.symm; subst hw') | (go_at_call_of 18 t; refine (h2 _).mono ?_; rintro e w' ⟨rfl, hw'⟩; replace hw' := hw'.symm; subst hw'))
  generalize hq : Obj.cells #[Value.func (Fn.func 19) #[] #[Value.pointer (some { block := w.heap.size, off := 0 })], Value.func (Fn.func 21) #[] #[Value.pointer (some { block := w.heap.size + 1, off := 0 })]] 31 = q
  have b0 : Bool1 (((w.alloc (Obj.cells #[Value.bool true] 4)).alloc (Obj.cells #[Value.bool true] 4)).alloc q) w.heap.size true := by
    refine (Below.heap_alloc _ _ _ (by simp; omega)).trans ((Below.heap_alloc _ _ _ (by simp)).trans ?_)
    exact heap_alloc_new w _
  have b1 : Bool1 (((w.alloc (Obj.cells #[Value.bool true] 4)).alloc (Obj.cells #[Value.bool true] 4)).alloc q) (w.heap.size + 1) true := by
    refine (Below.heap_alloc _ _ _ (by simp)).trans ?_
    have := heap_alloc_new (w.alloc (Obj.cells #[Value.bool true] 4)) (Obj.cells #[Value.bool true] 4)
    simpa using this
  have hB : Below w.heap.size w (((w.alloc (Obj.cells #[Value.bool true] 4)).alloc (Obj.cells #[Value.bool true] 4)).alloc q) := (((Below.refl _ _).alloc (Nat.le_refl _) _).alloc (by simp) _).alloc (by simp; omega) _
  generalize ((w.alloc (Obj.cells #[Value.bool true] 4)).alloc (Obj.cells #[Value.bool true] 4)).alloc q = W at *
  refine (hW _ _ _ (by omega) b0 b1).mono ?_
  rintro e w' ⟨rfl, hT⟩
  have hI := hT.inn
  have hX := hT.ctx
  have hB' : Below w.heap.size w w' := ⟨hT.two.os.trans hB.os, hT.two.tape.trans hB.tape, hT.two.output.trans hB.output, Nat.le_trans hB.size hT.two.size, fun k hk => (hT.two.block k (Nat.lt_of_lt_of_le hk hB.size) (by omega) (by omega)).trans (hB.block k hk)⟩
  clear hT hB b0 b1 hW
  obtain ⟨c0, f0⟩ := block_cells hI
  obtain ⟨c1, f1⟩ := block_cells hX
  have c0' : w'.cell? ⟨w.heap.size, 0, none⟩ = some (.bool X) := c0 0
  have c1' : w'.cell? ⟨w.heap.size + 1, 0, none⟩ = some (.bool Y) := c1 0
  have f0' := f0 0
  have f1' := f1 0
  clear c0 c1 f0 f1
  go_wp2_with fail
  go_region
  go_wp2_with fail
  have k0 : Bool1 ((w'.setCell { block := w.heap.size, off := 0 } (Value.bool X)).setCell { block := w.heap.size + 1, off := 0 } (Value.bool Y)).drew w.heap.size X := (hI.set X).keep (by omega) _
  have k1 : Bool1 ((w'.setCell { block := w.heap.size, off := 0 } (Value.bool X)).setCell { block := w.heap.size + 1, off := 0 } (Value.bool Y)).drew (w.heap.size + 1) Y := (hX.keep (C := w.heap.size) (by omega) (.bool X)).set Y
  have hB2 : Below w.heap.size w ((w'.setCell { block := w.heap.size, off := 0 } (Value.bool X)).setCell { block := w.heap.size + 1, off := 0 } (Value.bool Y)).drew := ((hB'.setCell (Nat.le_refl _) _).setCell (by simp) _).drew
  generalize ((w'.setCell { block := w.heap.size, off := 0 } (Value.bool X)).setCell { block := w.heap.size + 1, off := 0 } (Value.bool Y)).drew = W2 at *
  have d0 := (block_cells k0).1 0
  have d1 := (block_cells k1).1 0
  refine bodyPost_ret (v := .tuple #[.bool X, .bool Y]) (by simp [results, Try.results9, go_sem, d0, d1]) rfl ?_
  exact ⟨rfl, hB2⟩

set_option maxHeartbeats 2000000 in
theorem sides_no (s t : ByteArray) (h : (Tp.chk s.data.toList).1 ≠ 0 ∨ (Tp.chk t.data.toList).1 ≠ 0) (w : World) :
    Calls Try.prog 9 #[.string s, .string t] w fun e w' => e = .returned (.tuple #[.bool false, .bool false]) ∧ Below w.heap.size w w' := by
  obtain ⟨x, y, h1, h2, hxy⟩ : ∃ x y, (∀ w : World, Calls Try.prog 18 #[.string s] w fun e w' => e = .returned (.bool x) ∧ w' = w) ∧ (∀ w : World, Calls Try.prog 18 #[.string t] w fun e w' => e = .returned (.bool y) ∧ w' = w) ∧ (x = false ∨ (x = true ∧ y = false)) := by
    refine ⟨_, _, sIsType_any s, sIsType_any t, ?_⟩
    by_cases hs : (Tp.chk s.data.toList).1 = 0
    · rcases h with h | h
      · exact absurd hs h
      · exact .inr ⟨by simpa using hs, by simpa using h⟩
    · exact .inl (by simpa using hs)
  have hB : Below w.heap.size w ((w.alloc (Obj.cells #[Value.bool false] 4)).alloc (Obj.cells #[Value.bool false] 4)) := ((Below.refl _ _).alloc (Nat.le_refl _) _).alloc (by simp) _
  have b0 : Bool1 ((w.alloc (Obj.cells #[Value.bool false] 4)).alloc (Obj.cells #[Value.bool false] 4)) w.heap.size false :=
    (Below.heap_alloc _ _ _ (by simp)).trans (heap_alloc_new w _)
  have b1 : Bool1 ((w.alloc (Obj.cells #[Value.bool false] 4)).alloc (Obj.cells #[Value.bool false] 4)) (w.heap.size + 1) false := by
    have := heap_alloc_new (w.alloc (Obj.cells #[Value.bool false] 4)) (Obj.cells #[Value.bool false] 4)
    rw [show (w.alloc (Obj.cells #[Value.bool false] 4)).heap.size = w.heap.size + 1 by simp] at this
    exact this
  clear h
  rcases hxy with rfl | ⟨rfl, rfl⟩
  · go_enter Try.func9, Try.ntmps9
    go_wp2_with (go_at_call 18; refine (h1 _).mono ?_; rintro e w' ⟨rfl, hw'⟩; replace hw' := hw'.symm; subst hw')
    generalize (w.alloc (Obj.cells #[Value.bool false] 4)).alloc (Obj.cells #[Value.bool false] 4) = W2 at *
    have d0 := (block_cells b0).1 0
    have d1 := (block_cells b1).1 0
    refine bodyPost_ret (v := .tuple #[.bool false, .bool false]) (by simp [results, Try.results9, go_sem, d0, d1]) rfl ?_
    exact ⟨rfl, hB⟩
  · go_enter Try.func9, Try.ntmps9
    go_wp2_with (first | (go_at_call_of 18 s; refine (h1 _).mono ?_; rintro e w' ⟨rfl, hw'⟩; replace hw' := hw'.symm; subst hw') | (go_at_call_of 18 t; refine (h2 _).mono ?_; rintro e w' ⟨rfl, hw'⟩; replace hw' := hw'.symm; subst hw'))
    generalize (w.alloc (Obj.cells #[Value.bool false] 4)).alloc (Obj.cells #[Value.bool false] 4) = W2 at *
    have d0 := (block_cells b0).1 0
    have d1 := (block_cells b1).1 0
    refine bodyPost_ret (v := .tuple #[.bool false, .bool false]) (by simp [results, Try.results9, go_sem, d0, d1]) rfl ?_
    exact ⟨rfl, hB⟩

set_option maxHeartbeats 400000 in
theorem plus_by {s t : ByteArray} {x y : Bool} (h : ∀ w : World, Calls Try.prog 9 #[.string s, .string t] w fun e w' => e = .returned (.tuple #[.bool x, .bool y]) ∧ Below w.heap.size w w') (w : World) :
    Calls Try.prog 10 #[.string s, .string t] w fun e w' => e = .returned (.bool x) ∧ Below w.heap.size w w' := by
  go_enter Try.func10, Try.ntmps10
  go_wp2_with (go_at_call 9; refine (h _).mono ?_; rintro e w' ⟨rfl, hB⟩)
  go_ret
  exact ⟨rfl, hB⟩
set_option maxHeartbeats 400000 in
theorem minus_by {s t : ByteArray} {x y : Bool} (h : ∀ w : World, Calls Try.prog 9 #[.string s, .string t] w fun e w' => e = .returned (.tuple #[.bool x, .bool y]) ∧ Below w.heap.size w w') (w : World) :
    Calls Try.prog 11 #[.string s, .string t] w fun e w' => e = .returned (.bool y) ∧ Below w.heap.size w w' := by
  go_enter Try.func11, Try.ntmps11
  go_wp2_with (go_at_call 9; refine (h _).mono ?_; rintro e w' ⟨rfl, hB⟩)
  go_ret
  exact ⟨rfl, hB⟩

/-- A text that is this type. -/
structure IsTy (s : ByteArray) (a : Tp.Ty) : Prop where
  eq : s = S (Tp.enc a)
  len : (Tp.enc a).length ≤ 64
theorem isTy_of {s : ByteArray} (h : (Tp.chk s.data.toList).1 = 0) : ∃ a, IsTy s a := by
  obtain ⟨t, e, hl⟩ := Tp.chk_dec h
  exact ⟨t, by rw [S_of s, e], hl⟩
theorem IsTy.chk {s : ByteArray} {a : Tp.Ty} (h : IsTy s a) : (Tp.chk s.data.toList).1 = 0 := by
  rw [h.eq, S_list, Tp.chk_enc a h.len]
theorem sides_of {s t : ByteArray} {a b : Tp.Ty} (hs : IsTy s a) (ht : IsTy t b) (w : World) :
    Calls Try.prog 9 #[.string s, .string t] w fun e w' => e = .returned (.tuple #[.bool (Tp.pls a b), .bool (Tp.mns a b)]) ∧ Below w.heap.size w w' := by
  rw [hs.eq, ht.eq]; exact sides_yes a b hs.len ht.len w
theorem plus_of {s t : ByteArray} {a b : Tp.Ty} (hs : IsTy s a) (ht : IsTy t b) (w : World) :
    Calls Try.prog 10 #[.string s, .string t] w fun e w' => e = .returned (.bool (Tp.pls a b)) ∧ Below w.heap.size w w' := plus_by (sides_of hs ht) w
theorem minus_of {s t : ByteArray} {a b : Tp.Ty} (hs : IsTy s a) (ht : IsTy t b) (w : World) :
    Calls Try.prog 11 #[.string s, .string t] w fun e w' => e = .returned (.bool (Tp.mns a b)) ∧ Below w.heap.size w w' := minus_by (sides_of hs ht) w

set_option maxHeartbeats 1000000 in
theorem works_any (w : World) : Calls Try.prog 12 #[] w fun e w' => e = .returned (.bool true) ∧ Below w.heap.size w w' := by
  have t1 : IsTy ⟨#[62, 105, 105]⟩ (.tf .ti .ti) := ⟨rfl, by decide⟩
  have t2 : IsTy ⟨#[62, 63, 63]⟩ (.tf .tq .tq) := ⟨rfl, by decide⟩
  have t3 : IsTy ⟨#[63]⟩ .tq := ⟨rfl, by decide⟩
  have t4 : IsTy ⟨#[105]⟩ .ti := ⟨rfl, by decide⟩
  have v1 : Tp.pls (.tf .ti .ti) (.tf .tq .tq) = true := by simp [Tp.pls, Tp.mns]
  have v2 : Tp.mns (.tf .ti .ti) (.tf .tq .tq) = false := by simp [Tp.pls, Tp.mns]
  have v3 : Tp.mns (.tf .tq .tq) (.tf .ti .ti) = true := by simp [Tp.pls, Tp.mns]
  have v4 : Tp.pls (.tf .tq .tq) (.tf .ti .ti) = false := by simp [Tp.pls, Tp.mns]
  have v5 : Tp.pls .tq .ti = false := by simp [Tp.pls]
  have hB := Below.refl w.heap.size w
  go_enter Try.func12, Try.ntmps12
  go_wp2_with (first | (go_at_call 10; refine (plus_of (by assumption) (by assumption) _).mono ?_; rintro e w' ⟨rfl, hB'⟩; simp only [v1, v4, v5]; have hB := hB.trans (hB'.mono hB.size); clear hB') | (go_at_call 11; refine (minus_of (by assumption) (by assumption) _).mono ?_; rintro e w' ⟨rfl, hB'⟩; simp only [v2, v3]; have hB := hB.trans (hB'.mono hB.size); clear hB'))
  go_ret
  exact ⟨rfl, hB⟩
end Go.Proofs.Ytcokgpmgknnihaa
