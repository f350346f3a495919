/- Package coerce: size and lay of the casts that works asks for. -/
import Derived.Test.YtaaokecdmbmgbaaDoorCcU
import Derived.Test.YtaaokecdmbmgbaaDoorTcRelC
namespace Go.Proofs.YtaaokecdmbmgbaaDoor
open Go.RowKit Cc
set_option maxRecDepth 100000
set_option linter.unusedSimpArgs false
set_option linter.unusedVariables false
namespace Cc
/-- A base type's text, of this letter. -/
abbrev sB (c : UInt8) : ByteArray := ⟨#[c]⟩
def bT : UInt8 → T3.Tp.Ty := fun c => if c = 98 then .tb else .ti
theorem sB_i : sB 105 = T3.S (T3.Tp.enc .ti) := rfl
theorem sB_b : sB 98 = T3.S (T3.Tp.enc .tb) := rfl
end Cc
set_option maxHeartbeats 800000 in
theorem ground_b (c : UInt8) (hc : c = 105 ∨ c = 98) (w : World) :
    Calls Tryd.prog 51 #[.string (sB c)] w fun e w' => e = .returned (.string (sB c)) ∧ Below w.heap.size w w' := by
  have ct : ∀ W, Calls Tryd.prog 70 #[.string (sB c)] W fun e w' => e = .returned (.bool true) ∧ w' = W := fun W => T3.isType_yes _ (by rcases hc with rfl | rfl <;> rfl) W
  have cp : ∀ W, Calls Tryd.prog 67 #[.int .u8 (c.toNat : Int)] W fun e w' => e = .returned (.int .i64 0) ∧ w' = W := fun W => by
    have h := T3.partsOf_any (c.toNat : Int) W
    rwa [show T3.Tp.ar (c.toNat : Int) = 0 by rcases hc with rfl | rfl <;> rfl] at h
  have cr := Tryd.strings_Repeat_zero (sB 63)
  rcases hc with rfl | rfl
  all_goals
    go_enter Tryd.func51, Tryd.ntmps51
    go_wp2_with (go_at_call 70; refine (ct _).mono ?_; rintro e w1 ⟨rfl, rfl⟩)
    go_quiet ((first | (go_at_call 67; exact Calls.quiet_of_same (cp _)) | (go_at_call 71; exact Calls.quiet_of_same (cr _))))
    go_wp2
    go_ret
    exact ⟨congrArg (fun s => Ending.returned (.string s)) (by decide), below_dN (Below.refl _ _) _⟩
theorem parts_b (c : UInt8) (hc : c = 105 ∨ c = 98) (w : World) :
    Calls Tryd.prog 52 #[.string (sB c)] w fun e w' => ∃ a k, e = .returned (.slice a 0 k) ∧ Below w.heap.size w w' := by
  rcases hc with rfl | rfl
  · refine (T3.parts_yes .ti (by decide) w).mono ?_
    rintro e w' ⟨v, rfl, hO, hB⟩
    obtain ⟨a, k, rfl⟩ := T3.own_len hO
    exact ⟨a, k, rfl, hB⟩
  · refine (T3.parts_yes .tb (by decide) w).mono ?_
    rintro e w' ⟨v, rfl, hO, hB⟩
    obtain ⟨a, k, rfl⟩ := T3.own_len hO
    exact ⟨a, k, rfl, hB⟩
theorem head_b (c : UInt8) (hc : c = 105 ∨ c = 98) (w : World) :
    Calls Tryd.prog 53 #[.string (sB c)] w fun e w' => e = .returned (.int .u8 (c.toNat : Int)) ∧ w' = w := by
  rcases hc with rfl | rfl
  · exact T3.head_yes .ti (by decide) w
  · exact T3.head_yes .tb (by decide) w
namespace Cc
/-- A contract, from a world on. -/
theorem at_of {K : Nat} {args : Array Value} {Q : Ending → Prop} (h : ∀ W, Calls Tryd.prog K args W fun e w' => Q e ∧ Below W.heap.size W w') (w W : World) (hW : Below w.heap.size w W) : Calls Tryd.prog K args W fun e w' => Q e ∧ Below w.heap.size w w' :=
  (h W).mono fun e w' ⟨a, b⟩ => ⟨a, hW.trans (b.mono hW.size)⟩
end Cc
set_option maxHeartbeats 1600000 in
theorem size_b (c : UInt8) (hc : c = 105 ∨ c = 98) (r : Bool) (w : World) :
    Calls Tryd.prog 29 #[.string (if r then sB c else sB 63), .string (if r then sB 63 else sB c)] w fun e w' => e = .returned (.int .u64 1) ∧ Below w.heap.size w w' := by
  have cg := at_of (ground_b c hc) w
  have cp : ∀ W, Below w.heap.size w W → Calls Tryd.prog 52 #[.string (sB c)] W fun e w' => (∃ a k, e = .returned (.slice a 0 k)) ∧ Below w.heap.size w w' := at_of (Q := fun e => ∃ a k, e = .returned (.slice a 0 k)) (fun W => (parts_b c hc W).mono (by rintro e w' ⟨a, k, rfl, hB⟩; exact ⟨⟨a, k, rfl⟩, hB⟩)) w
  have ch := head_b c hc
  have hB := Below.refl w.heap.size w
  have hx : ((c.toNat : Int) == 120) = false := by rcases hc with rfl | rfl <;> rfl
  rcases hc with rfl | rfl <;> cases r <;> simp only [if_true, if_false, Bool.false_eq_true]
  all_goals
    go_enter Tryd.func29, Tryd.ntmps29
    go_wp2_with (first | (go_at_call 51; refine (cg _ hB).mono ?_; rintro e w1 ⟨rfl, hB⟩) | (go_at_call 52; refine (cp _ hB).mono ?_; rintro e w2 ⟨⟨a2, k2, rfl⟩, hB⟩))
    go_loopg [5, 31] 0 (fun gq v5 tq wr => v5 = .int .u64 1 ∧ tq = .int .i64 0 ∧ Below w.heap.size w wr)
    case atStart => exact ⟨rfl, rfl, hB⟩
    case round =>
      obtain ⟨rfl, rfl, hB⟩ := hrel
      go_wp2_with (go_at_call 53; refine (ch _).mono ?_; rintro e w3 ⟨rfl, rfl⟩)
      go_ret
      exact ⟨rfl, hB⟩
namespace Cc
/-- Two texts, in a row of our own. -/
theorem own_two {W : World} {B : Nat} {v : Value} {x y : List UInt8} (h : W.ownsRow B 9 1 v 2 (T3.tcells [x, y])) : ∃ g k, v = .slice (some ⟨g, 0, none⟩) 2 k ∧ B ≤ g ∧ g < W.heap.size ∧ W.cell? ⟨g, 0, none⟩ = some (.string (T3.S x)) ∧ W.cell? ⟨g, 1, none⟩ = some (.string (T3.S y)) := by
  obtain ⟨g, cap, rfl, hc, hg, hcell⟩ := T3.own_cells h (by decide)
  have h0 := hcell 0 (by decide)
  have h1 := hcell 1 (by decide)
  exact ⟨g, cap, rfl, hg, World.block_lt_of_cell? W _ h0, h0, h1⟩
end Cc
theorem parts_f (a b : T3.Tp.Ty) (h : (T3.Tp.enc (.tf a b)).length ≤ 64) (w W : World) (hW : Below w.heap.size w W) :
    Calls Tryd.prog 52 #[.string (T3.S (T3.Tp.enc (.tf a b)))] W fun e w' => ∃ g k, e = .returned (.slice (some ⟨g, 0, none⟩) 2 k) ∧ W.heap.size ≤ g ∧ g < w'.heap.size ∧ w'.cell? ⟨g, 0, none⟩ = some (.string (T3.S (T3.Tp.enc a))) ∧ w'.cell? ⟨g, 1, none⟩ = some (.string (T3.S (T3.Tp.enc b))) ∧ Below w.heap.size w w' ∧ Below W.heap.size W w' := by
  refine (T3.parts_yes (.tf a b) h W).mono ?_
  rintro e w' ⟨v, rfl, hO, hB⟩
  obtain ⟨g, k, rfl, h1, h2, h3, h4⟩ := own_two hO
  exact ⟨g, k, rfl, h1, h2, h3, h4, hW.trans (hB.mono hW.size), hB⟩
set_option maxHeartbeats 1600000 in
theorem size_f (a b c d : T3.Tp.Ty) (h1 : (T3.Tp.enc (.tf a b)).length ≤ 64) (h2 : (T3.Tp.enc (.tf c d)).length ≤ 64) (hs1 : ∀ W, Calls Tryd.prog 29 #[.string (T3.S (T3.Tp.enc a)), .string (T3.S (T3.Tp.enc c))] W fun e w' => e = .returned (.int .u64 1) ∧ Below W.heap.size W w')
    (hs2 : ∀ W, Calls Tryd.prog 29 #[.string (T3.S (T3.Tp.enc b)), .string (T3.S (T3.Tp.enc d))] W fun e w' => e = .returned (.int .u64 1) ∧ Below W.heap.size W w') (w : World) :
    Calls Tryd.prog 29 #[.string (T3.S (T3.Tp.enc (.tf a b))), .string (T3.S (T3.Tp.enc (.tf c d)))] w fun e w' => e = .returned (.int .u64 3) ∧ Below w.heap.size w w' := by
  have cp1 := parts_f a b h1 w
  have cp2 := parts_f c d h2 w
  have ch := T3.head_yes (.tf a b) h1
  have hh : (T3.Tp.hd (.tf a b)).toNat = 62 := rfl
  rw [hh] at ch
  have hB := Below.refl w.heap.size w
  have n1 : ((T3.S (T3.Tp.enc (.tf a b))).toList == [63]) = false := by rw [ByteArray.toList_eq]; simp [T3.S, T3.Tp.enc]
  have n2 : ((T3.S (T3.Tp.enc (.tf c d))).toList == [63]) = false := by rw [ByteArray.toList_eq]; simp [T3.S, T3.Tp.enc]
  generalize T3.S (T3.Tp.enc (.tf a b)) = s1 at *
  generalize T3.S (T3.Tp.enc (.tf c d)) = s2 at *
  generalize T3.S (T3.Tp.enc a) = sa at *
  generalize T3.S (T3.Tp.enc b) = sb at *
  generalize T3.S (T3.Tp.enc c) = sc at *
  generalize T3.S (T3.Tp.enc d) = sd at *
  go_enter Tryd.func29, Tryd.ntmps29
  go_wp2_with (first | (go_at_call 52; refine (cp2 _ hB).mono ?_; rintro e w1 ⟨g2, k2, rfl, -, hg2, d0, d1, hB, -⟩; clear cp2) | (go_at_call 52; refine (cp1 _ hB).mono ?_; rintro e w2 ⟨g1, k1, rfl, -, hg1, c0, c1, hB, hB2⟩; clear cp1))
  have HC : Aside (∀ W, Below w2.heap.size w2 W → W.cell? ⟨g1, 0, none⟩ = some (.string sa) ∧ W.cell? ⟨g1, 1, none⟩ = some (.string sb) ∧ W.cell? ⟨g2, 0, none⟩ = some (.string sc) ∧ W.cell? ⟨g2, 1, none⟩ = some (.string sd)) := fun W hW =>
    have hg2' := Nat.lt_of_lt_of_le hg2 hB2.size
    ⟨(hW.cell (p := ⟨g1, 0, none⟩) hg1).trans c0, (hW.cell (p := ⟨g1, 1, none⟩) hg1).trans c1, (hW.cell (p := ⟨g2, 0, none⟩) hg2').trans ((hB2.cell (p := ⟨g2, 0, none⟩) hg2).trans d0), (hW.cell (p := ⟨g2, 1, none⟩) hg2').trans ((hB2.cell (p := ⟨g2, 1, none⟩) hg2).trans d1)⟩
  clear c0 c1 d0 d1 hg1 hg2 hB2
  go_loopg [5, 31] 2 (fun gq v5 tq wr => ∃ k : Nat, k + gq = 2 ∧ v5 = .int .u64 (1 + (k : Int)) ∧ tq = .int .i64 (k : Int) ∧ Below w.heap.size w wr ∧ Aside (Below w2.heap.size w2 wr))
  case atStart => exact ⟨0, rfl, rfl, rfl, hB, Below.refl _ _⟩
  case round =>
    obtain ⟨k, hkg, rfl, rfl, hBr, HR⟩ := hrel
    obtain ⟨c0, c1, d0, d1⟩ := HC.out wr HR.out
    have hk3 : k = 0 ∨ k = 1 ∨ k = 2 := by omega
    rcases hk3 with rfl | rfl | rfl
    · go_wp2_with (go_at_call 29; refine (hs1 _).mono ?_; rintro e w3 ⟨rfl, hB3⟩)
      go_roundg 1
      case measure => omega
      case rel => exact ⟨1, rfl, by go_num, by go_num, hBr.trans (hB3.mono hBr.size), HR.out.trans (hB3.mono HR.out.size)⟩
    · go_wp2_with (go_at_call 29; refine (hs2 _).mono ?_; rintro e w3 ⟨rfl, hB3⟩)
      go_roundg 0
      case measure => omega
      case rel => exact ⟨2, rfl, by go_num, by go_num, hBr.trans (hB3.mono hBr.size), HR.out.trans (hB3.mono HR.out.size)⟩
    · go_wp2_with (go_at_call 53; refine (ch _).mono ?_; rintro e w3 ⟨rfl, rfl⟩)
      go_ret
      exact ⟨rfl, hBr⟩
end Go.Proofs.YtaaokecdmbmgbaaDoor
