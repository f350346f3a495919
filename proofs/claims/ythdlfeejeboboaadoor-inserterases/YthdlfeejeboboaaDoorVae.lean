/- For every tree and every environment, InsertErases returns true: casts aside the term is the tree, As aside. Conditions: the listed variables start as the program's text lays them. -/
import Derived.Test.YthdlfeejeboboaaDoorVad
import Derived.Test.YthdlfeejeboboaaDoorUar
import Derived.Test.YthdlfeejeboboaaDoorTie
import Derived.Test.YthdlfeejeboboaaDoorCards
import Derived.Lib.LaidTab
namespace Go.Proofs.YthdlfeejeboboaaDoor
open Go.ChangeShapes Go.WideShapes Go.ChangeAt Go.RowKit

set_option maxRecDepth 100000 in
theorem insertErases_lifted (os : Os) (started : os.Started) (H : Type) (enc : TypeId × Value → H) :
    ReturnsInHanded {} Tryd.checked os 3 .any (fun w args => (Rows.insertErasesSpec.pre enc Tryd.prog Tryd.f3 [] false w args ∧ laidMetH Tryd.prog laidAll w) ∧ sizedMet enc Tryd.prog Tryd.f3 (OpenSpec.ofChange Rows.insertErasesSpec) false w args)
      (Rows.insertErasesSpec.post enc Tryd.prog Tryd.f3 false true false false) := by
  refine handed_both (C := Tryd.checked) (X := fun w _ => laidMetH Tryd.prog laidAll w) (fun _ _ _ hh h => h.of_heap hh) ownKnobs started (by kernel_rfl) Tryd.func3
    (ChangeSpec.witness_shaped (enc := enc) (C := Tryd.checked) (os := os) (X := fun w _ => laidMetH Tryd.prog laidAll w) false (World.laidAll Tryd.prog os laidAll) #[.agg #[.slice none 0 0, .slice none 0 0, .slice none 0 0]] 8 (World.laidAll_os _ _ _) (World.shaped_of_ZipB (by kernel_rfl) (by kernel_rfl)) (by kernel_rfl) (by kernel_rfl) (by kernel_rfl) (laid_met os _)) ?_
  intro W base args ds gs before hval0 hW hsz0 hL hsh
  have hsz : (DataW.weightsEach Tryd.prog (Tryd.f3.params.toList ++ Rows.insertErasesSpec.plain.varTypes Tryd.prog) (ds ++ gs)).all (· ≤ reachBytes) = true := hsz0
  clear hsz0
  have hval : ∀ (j : Nat) t v, Tryd.f3.params[j]? = some t → args[j]? = some v → Value.okWide Tryd.prog W .any base t v := hval0
  have hW' := hW
  obtain ⟨p, q, hA0, hV, rfl, hfz, hnd⟩ := hW
  have hA : DataW.TrodAll enc Tryd.prog W 0 (fun _ => true) true Tryd.f3.params.toList args.toList ds p := hA0
  rw [Tryd.params3] at hA hval hsz
  obtain ⟨v0, vs0, d0, ds0, p0, q0, hargs, rfl, rfl, h0, r0⟩ := trodAll_cons hA
  obtain ⟨rfl, rfl, rfl⟩ := trodAll_nil r0
  obtain rfl : args = #[v0] := by cases args; simp_all
  obtain ⟨rfl, rfl⟩ := trodVars_none hV
  have hmem : ∀ (j : Nat) t (d : DataW H), [25][j]? = some t → [d0][j]? = some d → ∀ n ∈ d.weights Tryd.prog t, n ≤ 140737488351232 := fun j t d ht hd n hn => by
    have := List.all_eq_true.1 hsz n (DataW.weights_mem_each (j := j) (t := t) (d := d) (by
      have hjl : j < 1 := (List.getElem?_eq_some_iff.1 ht).1
      rw [List.getElem?_append_left (by simpa using hjl)]; exact ht) (by
      have hjl : j < 1 := (List.getElem?_eq_some_iff.1 hd).1
      rw [List.getElem?_append_left (by simpa using hjl)]; exact hd) n hn)
    exact of_decide_eq_true this
  obtain ⟨fs, hu, _⟩ := fields_some csF
  obtain ⟨cs, rfl, hcsz⟩ := okWide_struct hu (hval 0 25 v0 rfl rfl)
  have k0 := h0
  have lt0 : ∀ x ∈ p0, x.block < W.heap.size := by obtain ⟨m, hm⟩ := k0; exact DataW.trod_lt m _ _ _ hm
  obtain ⟨vL, vN, vT, l, N, Th, rfl, hl, hF, hn, hns, ht, hts, hft⟩ : ∃ vL vN vT l N Th, cs = #[vL, vN, vT] ∧ IsNodes W vL l ∧ Fits l ∧ T3.IsTexts W vN N ∧ (∀ x ∈ N, x.length ≤ maxLen) ∧ T3.IsTexts W vT Th ∧ (∀ x ∈ Th, x.length ≤ maxLen) ∧ (∀ x ∈ l, x.t.size ≤ maxLen ∧ x.u.size ≤ maxLen) := by
    obtain ⟨fuel, hf⟩ := h0
    obtain ⟨vL, vN, vT, l, N, Th, hc, r⟩ := case_open2 hf (hmem 0 _ _ rfl rfl)
    refine ⟨vL, vN, vT, l, N, Th, ?_, r⟩
    obtain ⟨cl⟩ := cs
    simpa [Value.cells] using hc
  obtain ⟨hG, hg⟩ := all_of_laid hL hsh
  clear hA0 hval0
  refine (insertErases_any l hF hft N Th hns hts vL vN vT W hl hn ht hG hg).mono fun e W' ⟨he, bel⟩ => ?_
  subst he
  exact ⟨_, rfl, _, _, _, [], _, [], hW', trodAll_mk1 (shut_bool Tryd.underlying4 _), (trodAll_cons_mk (Below.trod laidOutAll (by kernel_rfl) (of_decide_eq_true (by kernel_rfl)) k0 bel lt0) trodAll_mk0), rfl, bel.frame _, fun h => by cases h⟩

theorem insertErases_row : Rows.InsertErasesSaid :=
  OpenClaim.holds_of_wide 3 Tryd.f3 rfl rfl rfl rfl rfl rfl rfl ⟨rfl, rfl, rfl, rfl, rfl⟩ rfl rfl rfl rfl rfl (by kernel_rfl) Tryd.func3 (by kernel_rfl)
    (of_decide_eq_true (by kernel_rfl)) (by unfold Func.isWrapper; first | (rw [if_pos (by decide +kernel)]; kernel_rfl) | (rw [if_neg (by decide +kernel)]; exact ⟨rfl, rfl⟩))
    (fun os started H enc _ => insertErases_lifted os started H enc)

theorem insertErases_card : Rows.InsertErasesCardSaid :=
  Claim7.holds_tied_plain_at .later [] [.data, .data, .data, .pinned] true (true, "2436413f92c4382f0a75456c310356c1f0baa3c5cdec90da03a580f076ad5aae") true
    insertErases_row (fun _ h => by cases h) (by kernel_rfl) (fun _ h => by cases h) insertErases_row_tie rfl ⟨rfl, rfl⟩ (by kernel_rfl) rfl
    (fun f fn hf hfn => by
      obtain rfl : f = 3 := Option.some.inj ((show Tryd.prog.funcNamed "culprit/culpritlaw11.InsertErases" = some 3 by kernel_rfl).symm.trans hf) |>.symm
      obtain rfl : fn = Tryd.f3 := (Option.some.inj (Tryd.func3.symm.trans hfn)).symm
      exact ⟨by kernel_rfl, fun j t ht => by
        rw [Tryd.params3] at ht
        have hm : t ∈ [25] := by simpa using Array.mem_of_getElem? ht
        have hall : ([25].all fun u => !Tryd.prog.wantsStandIn u) = true := by kernel_rfl
        exact (show Tryd.prog.wantsStandIn t = false by simpa using List.all_eq_true.1 hall t hm)⟩)
    (by kernel_rfl)
#print axioms insertErases_card
end Go.Proofs.YthdlfeejeboboaaDoor
