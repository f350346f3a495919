/- ParseBounds returns true: the limits of sources are what the document says. Conditions: the listed variables of the library start as the program's text lays them. -/
import Derived.Test.YtohjfikjbeafiaaGreatDoorIam
import Derived.Test.YtohjfikjbeafiaaGreatDoorIak
import Derived.Test.YtohjfikjbeafiaaGreatDoorGad
import Derived.Test.YtohjfikjbeafiaaGreatDoorTie
import Derived.Test.YtohjfikjbeafiaaGreatDoorCards
import Derived.SevenTiedAt
namespace Go.Proofs.YtohjfikjbeafiaaGreatDoor
open Go.ChangeShapes Go.WideShapes Go.ChangeAt Go.RowKit Ps

set_option linter.unusedSimpArgs false in
theorem parseBounds_of (W : World) (hv : T1.Vars W) (h2 : 6 ≤ W.heap.size) (y0 : List UInt8) (t0 : ∀ w, Calls Tryz.prog 30 #[.string (S [44, 48]), .int .i64 ((4094 : Nat) : Int)] w fun e w' => e = .returned (.string (S y0)) ∧ w' = w) (l0 : y0.length = 8188)
    (h3 : ToldE ([91, 48] ++ y0 ++ [93]) 0 0 0) (h4 : ToldE ([49, 32, 61, 61, 32] ++ ([91, 48] ++ y0 ++ [93])) 17 1 1) (h11 : ToldM ([109, 111, 100, 117, 108, 101, 32, 109, 32, 123, 108, 101, 116, 32, 120, 61] ++ ([91, 48] ++ y0 ++ [93]) ++ [59, 108, 101, 116, 32, 121, 61, 49, 59, 125]) 17 1 8213) :
    Calls Tryz.prog 8 #[] W fun e w' => e = .returned (.bool true) ∧ Below W.heap.size W w' := by
  refine parseBounds_walk W hv h2 y0 (reps [45] 63) (reps [45] 64) (reps [98, 111, 120, 32] 63) (reps [98, 111, 120, 32] 64) (reps [109, 111, 100, 117, 108, 101, 32, 109, 32, 123, 125] 8) (reps [109, 111, 100, 117, 108, 101, 32, 109, 32, 123, 125] 9) (reps [105, 109, 112, 111, 114, 116, 32, 97, 46, 98, 59] 63) (reps [105, 109, 112, 111, 114, 116, 32, 97, 46, 98, 59] 64) ((reps [45] 63) ++ [49]) ([32] ++ (reps [45] 64) ++ [49]) ([91, 48] ++ y0 ++ [93]) ([49, 32, 61, 61, 32] ++ ([91, 48] ++ y0 ++ [93])) ([40, 120, 32, 58, 32] ++ (reps [98, 111, 120, 32] 63) ++ [105, 110, 116, 41]) ([40, 120, 32, 58, 32] ++ (reps [98, 111, 120, 32] 64) ++ [105, 110, 116, 41]) ([109, 111, 100, 117, 108, 101, 32, 109, 32, 123] ++ (reps [105, 109, 112, 111, 114, 116, 32, 97, 46, 98, 59] 63) ++ [108, 101, 116, 32, 120, 61, 49, 59, 125]) ([109, 111, 100, 117, 108, 101, 32, 109, 32, 123] ++ (reps [105, 109, 112, 111, 114, 116, 32, 97, 46, 98, 59] 64) ++ [108, 101, 116, 32, 120, 61, 49, 59, 125]) ([109, 111, 100, 117, 108, 101, 32, 109, 32, 123, 108, 101, 116, 32, 120, 61] ++ ([91, 48] ++ y0 ++ [93]) ++ [59, 108, 101, 116, 32, 121, 61, 49, 59, 125]) ([109, 111, 100, 117, 108, 101, 32, 109, 32, 123, 108, 101, 116, 32, 120, 61] ++ (reps [45] 64) ++ [49, 59, 125]) t0 (fun w => times_any [45] 63 (by decide) (by decide) w) (fun w => times_any [45] 64 (by decide) (by decide) w) (fun w => times_any [98, 111, 120, 32] 63 (by decide) (by decide) w) (fun w => times_any [98, 111, 120, 32] 64 (by decide) (by decide) w) (fun w => times_any [109, 111, 100, 117, 108, 101, 32, 109, 32, 123, 125] 8 (by decide) (by decide) w) (fun w => times_any [109, 111, 100, 117, 108, 101, 32, 109, 32, 123, 125] 9 (by decide) (by decide) w) (fun w => times_any [105, 109, 112, 111, 114, 116, 32, 97, 46, 98, 59] 63 (by decide) (by decide) w) (fun w => times_any [105, 109, 112, 111, 114, 116, 32, 97, 46, 98, 59] 64 (by decide) (by decide) w) (app2 [91, 48] _ [93]) (S_app _ [49]) (app2 [32] _ [49]) (S_app [49, 32, 61, 61, 32] _) (app2 [40, 120, 32, 58, 32] _ [105, 110, 116, 41]) (app2 [40, 120, 32, 58, 32] _ [105, 110, 116, 41]) (app2 [109, 111, 100, 117, 108, 101, 32, 109, 32, 123] _ [108, 101, 116, 32, 120, 61, 49, 59, 125]) (app2 [109, 111, 100, 117, 108, 101, 32, 109, 32, 123] _ [108, 101, 116, 32, 120, 61, 49, 59, 125]) (app2 [109, 111, 100, 117, 108, 101, 32, 109, 32, 123, 108, 101, 116, 32, 120, 61] _ [59, 108, 101, 116, 32, 121, 61, 49, 59, 125]) (app2 [109, 111, 100, 117, 108, 101, 32, 109, 32, 123, 108, 101, 116, 32, 120, 61] _ [49, 59, 125]) l0 (by rw [reps_len]; decide) (by rw [reps_len]; decide) (by rw [reps_len]; decide) (by rw [reps_len]; decide) (by rw [reps_len]; decide) (by rw [reps_len]; decide) (by rw [reps_len]; decide) (by rw [reps_len]; decide) ?_
  simp only [List.mem_cons, List.not_mem_nil, or_false, forall_eq_or_imp, forall_eq]
  exact ⟨⟨(by simp only [List.length_append, reps_len, List.length_cons, List.length_nil, l0]; omega), fun _ => told1, fun h => by cases h⟩, ⟨(by simp only [List.length_append, reps_len, List.length_cons, List.length_nil, l0]; omega), fun _ => told2, fun h => by cases h⟩, ⟨(by simp only [List.length_append, reps_len, List.length_cons, List.length_nil, l0]; omega), fun _ => h3, fun h => by cases h⟩, ⟨(by simp only [List.length_append, reps_len, List.length_cons, List.length_nil, l0]; omega), fun _ => h4, fun h => by cases h⟩, ⟨(by simp only [List.length_append, reps_len, List.length_cons, List.length_nil, l0]; omega), fun _ => told5, fun h => by cases h⟩, ⟨(by simp only [List.length_append, reps_len, List.length_cons, List.length_nil, l0]; omega), fun _ => told6, fun h => by cases h⟩, ⟨(by simp only [List.length_append, reps_len, List.length_cons, List.length_nil, l0]; omega), fun h => (by cases h), fun _ => told7⟩, ⟨(by simp only [List.length_append, reps_len, List.length_cons, List.length_nil, l0]; omega), fun h => (by cases h), fun _ => told8⟩, ⟨(by simp only [List.length_append, reps_len, List.length_cons, List.length_nil, l0]; omega), fun h => (by cases h), fun _ => told9⟩, ⟨(by simp only [List.length_append, reps_len, List.length_cons, List.length_nil, l0]; omega), fun h => (by cases h), fun _ => told10⟩, ⟨(by simp only [List.length_append, reps_len, List.length_cons, List.length_nil, l0]; omega), fun h => (by cases h), fun _ => h11⟩, ⟨(by simp only [List.length_append, reps_len, List.length_cons, List.length_nil, l0]; omega), fun h => (by cases h), fun _ => told12⟩⟩
theorem wide_len : (reps [44, 48] 4094).length = 8188 := by rw [reps_len]; rfl
theorem parseBounds_any (W : World) (hv : T1.Vars W) (h2 : 6 ≤ W.heap.size) : Calls Tryz.prog 8 #[] W fun e w' => e = .returned (.bool true) ∧ Below W.heap.size W w' :=
  parseBounds_of W hv h2 (reps [44, 48] 4094) (fun w => times_any [44, 48] 4094 (by decide) (by decide) w) wide_len told3 told4 told11

set_option maxRecDepth 100000 in
theorem parseBounds_lifted (os : Os) (started : os.Started) (H : Type) (enc : TypeId × Value → H) :
    ReturnsInHanded {} Tryz.checked os 8 .any (fun w args => (Rows.parseBoundsSpec.pre enc Tryz.prog Tryz.f8 [] false w args ∧ laidMetH Tryz.prog laidAll w) ∧ sizedMet enc Tryz.prog Tryz.f8 (OpenSpec.ofChange Rows.parseBoundsSpec) false w args)
      (Rows.parseBoundsSpec.post enc Tryz.prog Tryz.f8 false true false false) := by
  refine returnsInHanded_of_change_and (C := Tryz.checked) (X := fun w _ => laidMetH Tryz.prog laidAll w) (fun _ _ _ hh h => h.of_heap hh) ownKnobs started (by kernel_rfl) Tryz.func8
    (ChangeSpec.witness_shaped (enc := enc) (C := Tryz.checked) (os := os) (X := fun w _ => laidMetH Tryz.prog laidAll w) false (World.doorLaid Tryz.prog 400 os) #[] 8 rfl (World.shaped_of_RefB (by kernel_rfl) (by kernel_rfl)) (by kernel_rfl) (by kernel_rfl) (by kernel_rfl) (door_met os _)) ?_
  intro W base args ds gs before hval0 hW _ _ hL _
  have hW' := hW
  obtain ⟨p, q, hA0, hV, rfl, hfz, hnd⟩ := hW
  have hA : DataW.TrodAll enc Tryz.prog W 0 (fun _ => true) true Tryz.f8.params.toList args.toList ds p := hA0
  rw [Tryz.params8] at hA
  obtain ⟨rfl, rfl, rfl⟩ := trodAll_none hA
  obtain ⟨rfl, rfl⟩ := trodVars_none hV
  clear hA0 hval0
  simp only [List.append_nil] at hW'
  refine (parseBounds_any W (vars_of_laid hL) (size_of_laid hL)).mono fun e W' ⟨he, hnx⟩ => ?_
  subst he
  refine ⟨_, rfl, _, _, _, [], [], [], hW', ?_, ?_, rfl, hnx.frame _, fun h => by cases h⟩
  · exact trodAll_mk1 (shut_bool Tryz.underlying4 _)
  · exact trodAll_mk0

theorem parseBounds_row : Rows.ParseBoundsSaid :=
  OpenClaim.holds_of_wide 8 Tryz.f8 rfl rfl rfl rfl rfl rfl rfl ⟨rfl, rfl, rfl, rfl, rfl⟩ rfl rfl rfl rfl rfl (by kernel_rfl) Tryz.func8 (by kernel_rfl)
    (of_decide_eq_true (by kernel_rfl)) (by unfold Func.isWrapper; first | (rw [if_pos (by decide +kernel)]; kernel_rfl) | (rw [if_neg (by decide +kernel)]; exact ⟨rfl, rfl⟩))
    (fun os started H enc _ => parseBounds_lifted os started H enc)

theorem parseBounds_card : Rows.ParseBoundsCardSaid :=
  Claim7.holds_tied_plain_at .later [] [.data, .data, .data, .sentinel, .sentinel] true (true, "74ae8284a65c62c3fdb6af67613f696d9ffd0a6b2f00fea9c0aa13435902ef90") true
    parseBounds_row (fun _ h => by cases h) (by kernel_rfl) (fun _ h => by cases h) parseBounds_row_tie rfl ⟨rfl, rfl⟩ (by kernel_rfl) rfl
    (fun f fn hf hfn => by
      obtain rfl : f = 8 := Option.some.inj ((show Tryz.prog.funcNamed "culprit/culpritlaw06.ParseBounds" = some 8 by kernel_rfl).symm.trans hf) |>.symm
      obtain rfl : fn = Tryz.f8 := (Option.some.inj (Tryz.func8.symm.trans hfn)).symm
      exact ⟨by kernel_rfl, fun j t ht => by
        rw [Tryz.params8] at ht
        simp at ht⟩)
    (by kernel_rfl)
end Go.Proofs.YtohjfikjbeafiaaGreatDoor
