/- Package coerce: Of at the two casts of works; works. -/
import Derived.Test.YtaaokecdmbmgbaaDoorCcX
namespace Go.Proofs.YtaaokecdmbmgbaaDoor
open Go.RowKit Cc
set_option maxRecDepth 100000
set_option linter.unusedSimpArgs false
set_option linter.unusedVariables false
open T3.Tp (Ty)
theorem isTypeC_yes (t : Ty) (h : (T3.Tp.enc t).length ≤ 64) (w : World) : Calls Tryd.prog 26 #[.string (T3.S (T3.Tp.enc t))] w fun e w' => e = .returned (.bool true) ∧ w' = w := by
  have hc := T3.check_any (T3.S (T3.Tp.enc t)) w
  rw [T3.S_list, T3.Tp.chk_enc t h] at hc
  generalize T3.S (T3.Tp.enc t) = s at *
  generalize (T3.Tp.enc t).length = n at *
  go_enter Tryd.func26, Tryd.ntmps26
  go_wp2_with (go_at_call 48; refine hc.mono ?_; rintro e w1 ⟨rfl, rfl⟩)
  go_ret
  exact ⟨rfl, rfl⟩
namespace Cc
def zro : List Value := [.int .i8 0, .int .i64 0, .bool false, .int .u8 0, .int .i64 0, .int .u8 0, .int .u8 0]
end Cc
theorem mk3 (w : World) : (Instr.makeSlice 22 (.int .i64 0) (.int .u64 3)).run Tryd.prog w = .ok (.slice (some ⟨w.heap.size, 0, none⟩) 0 3) (w.alloc (.cells (zro ++ zro ++ zro).toArray 29)) := by kernel_rfl
theorem own_mk3 (w0 w : World) (hB : w0.heap.size ≤ w.heap.size) : Own w0 (w.alloc (.cells (zro ++ zro ++ zro).toArray 29)) (.slice (some ⟨w.heap.size, 0, none⟩) 0 3) [] :=
  ⟨by simp [crow], .inr ⟨w.heap.size, 3, (zro ++ zro ++ zro).toArray, rfl, hB, heap_alloc_new _ _, by decide, by decide, rfl, rfl⟩⟩
set_option maxHeartbeats 1600000 in
theorem Of_f (a b c d : Ty) (h1 : (T3.Tp.enc (.tf a b)).length ≤ 64) (h2 : (T3.Tp.enc (.tf c d)).length ≤ 64) (p : Int) (hp : -100 ≤ p ∧ p ≤ 100) (hp0 : p ≠ 0) (r1 r2 : List N) (k1 : LyC (T3.S (T3.Tp.enc c)) (T3.S (T3.Tp.enc a)) (-p) r1) (k2 : LyC (T3.S (T3.Tp.enc b)) (T3.S (T3.Tp.enc d)) p r2) (hr : r1.length ≤ 100)
    (hcns : T3.Tp.cns (.tf a b) (.tf c d) = true) (hsz : ∀ W, Calls Tryd.prog 29 #[.string (T3.S (T3.Tp.enc (.tf a b))), .string (T3.S (T3.Tp.enc (.tf c d)))] W fun e w' => e = .returned (.int .u64 3) ∧ Below W.heap.size W w') (w : World) :
    Calls Tryd.prog 7 #[.string (T3.S (T3.Tp.enc (.tf a b))), .string (T3.S (T3.Tp.enc (.tf c d))), .int .i64 p] w fun e w' => ∃ v, e = .returned (.tuple #[v, .int .i64 0]) ∧ Own w w' v ((([⟨3, 0, false, 62, 0, 0, 0⟩] : List N) ++ r1) ++ r2) ∧ Below w.heap.size w w' := by
  have ci1 := isTypeC_yes (.tf a b) h1
  have ci2 := isTypeC_yes (.tf c d) h2
  have cc : ∀ W, Calls Tryd.prog 27 #[.string (T3.S (T3.Tp.enc (.tf a b))), .string (T3.S (T3.Tp.enc (.tf c d)))] W fun e w' => e = .returned (.bool true) ∧ Below W.heap.size W w' := fun W => by
    have h := T3.consistent_yes (.tf a b) (.tf c d) h1 h2 W
    rwa [hcns] at h
  have cl : ∀ W, Calls Tryd.prog 28 #[.int .i64 p] W fun e w' => e = .returned (.bool true) ∧ w' = W := fun W => by
    have h := isLabel_any p W
    rwa [isLab_iff.2 ⟨hp0, by omega, by omega⟩] at h
  have cy : ∀ W lv, Below w.heap.size w W → Own w W lv [] → Calls Tryd.prog 30 #[lv, .string (T3.S (T3.Tp.enc (.tf a b))), .string (T3.S (T3.Tp.enc (.tf c d))), .int .i64 p] W fun e w' => ∃ v, e = .returned v ∧ Own w w' v ((([⟨3, 0, false, 62, 0, 0, 0⟩] : List N) ++ r1) ++ r2) ∧ Below w.heap.size w w' := fun W lv hB hO =>
    (lay_f a b c d h1 h2 p hp r1 r2 k1 k2 hr w W lv [] hB hO (by simp)).mono (by rintro e w' ⟨v, rfl, hO', hB', -⟩; exact ⟨v, rfl, by simpa using hO', hB'⟩)
  clear k1 k2 hcns h1 h2
  generalize T3.S (T3.Tp.enc (.tf a b)) = s1 at *
  generalize T3.S (T3.Tp.enc (.tf c d)) = s2 at *
  generalize (([⟨3, 0, false, 62, 0, 0, 0⟩] : List N) ++ r1) ++ r2 = R at *
  have m3 := mk3
  generalize hz : (zro ++ zro ++ zro).toArray = Z at *
  have HZ : Aside ((zro ++ zro ++ zro).toArray = Z) := hz
  clear hz
  go_enter Tryd.func7, Tryd.ntmps7
  go_wp2_with (first | (go_at_call 26; refine (ci1 _).mono ?_; rintro e w1 ⟨rfl, rfl⟩; clear ci1) | (go_at_call 26; refine (ci2 _).mono ?_; rintro e w2 ⟨rfl, rfl⟩; clear ci2) | (go_at_call 27; refine (cc _).mono ?_; rintro e w3 ⟨rfl, hB3⟩) | (go_at_call 28; refine (cl _).mono ?_; rintro e w4 ⟨rfl, rfl⟩) | (go_at_call 29; refine (hsz _).mono ?_; rintro e w5 ⟨rfl, hB5⟩; have hB6 := hB3.trans (hB5.mono hB3.size)) | (go_at_call 30; refine (cy _ _ (hB6.alloc hB6.size _) (by rw [← HZ.out]; exact own_mk3 _ _ hB6.size)).mono ?_; rintro e w7 ⟨v7, rfl, hO7, hB7⟩))
  go_ret2
  exact ⟨v7, rfl, hO7, hB7⟩
/-- The two casts of works. -/
theorem lyc_b (c : UInt8) (hc : c = 105 ∨ c = 98) (p : Int) : LyC (sB 63) (sB c) p [⟨2, p, false, (c.toNat : Int), 0, 0, 0⟩] ∧ LyC (sB c) (sB 63) p [⟨2, 0, true, (c.toNat : Int), 0, 0, 0⟩] :=
  ⟨fun w0 W lv l hB hO hl => lay_b c hc false p w0 W lv l hB hO hl, fun w0 W lv l hB hO hl => lay_b c hc true p w0 W lv l hB hO hl⟩
theorem Of_1 (w : World) : Calls Tryd.prog 7 #[.string ⟨#[62, 105, 105]⟩, .string ⟨#[62, 63, 63]⟩, .int .i64 5] w fun e w' => ∃ v, e = .returned (.tuple #[v, .int .i64 0]) ∧ Own w w' v [⟨3, 0, false, 62, 0, 0, 0⟩, ⟨2, -5, false, 105, 0, 0, 0⟩, ⟨2, 0, true, 105, 0, 0, 0⟩] ∧ Below w.heap.size w w' :=
  Of_f .ti .ti .tq .tq (by decide) (by decide) 5 (by decide) (by decide) _ _ (lyc_b 105 (.inl rfl) (-5)).1 (lyc_b 105 (.inl rfl) 5).2 (by decide) (by decide) (size_f .ti .ti .tq .tq (by decide) (by decide) (size_b 105 (.inl rfl) true) (size_b 105 (.inl rfl) true)) w
theorem Of_2 (w : World) : Calls Tryd.prog 7 #[.string ⟨#[62, 63, 63]⟩, .string ⟨#[62, 105, 98]⟩, .int .i64 7] w fun e w' => ∃ v, e = .returned (.tuple #[v, .int .i64 0]) ∧ Own w w' v [⟨3, 0, false, 62, 0, 0, 0⟩, ⟨2, 0, true, 105, 0, 0, 0⟩, ⟨2, 7, false, 98, 0, 0, 0⟩] ∧ Below w.heap.size w w' :=
  Of_f .tq .tq .ti .tb (by decide) (by decide) 7 (by decide) (by decide) _ _ (lyc_b 105 (.inl rfl) (-7)).2 (lyc_b 98 (.inr rfl) 7).1 (by decide) (by decide) (size_f .tq .tq .ti .tb (by decide) (by decide) (size_b 105 (.inl rfl) false) (size_b 98 (.inr rfl) false)) w
end Go.Proofs.YtaaokecdmbmgbaaDoor
