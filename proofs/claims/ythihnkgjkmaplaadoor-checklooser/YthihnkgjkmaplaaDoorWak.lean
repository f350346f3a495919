/- For every tree, every environment and every looser tree and types, CheckLooser returns true: a tree that is taken is taken with less precise annotations in a less precise environment, and the type of each node is less precise or the same. Conditions: the listed variables start as the program's text lays them. -/
import Derived.Test.YthihnkgjkmaplaaDoorWaj
import Derived.Test.YthihnkgjkmaplaaDoorWae
import Derived.Test.YthihnkgjkmaplaaDoorTie
import Derived.Test.YthihnkgjkmaplaaDoorCards
namespace Go.Proofs.YthihnkgjkmaplaaDoor
open Go.ChangeShapes Go.WideShapes Go.ChangeAt Go.RowKit

set_option maxRecDepth 100000 in
theorem checkLooser_lifted (os : Os) (started : os.Started) (H : Type) (enc : TypeId × Value → H) :
    ReturnsInHanded {} Tryd.checked os 3 .any (fun w args => (Rows.checkLooserSpec.pre enc Tryd.prog Tryd.f3 [] false w args ∧ laidMetH Tryd.prog laidAll w) ∧ sizedMet enc Tryd.prog Tryd.f3 (OpenSpec.ofChange Rows.checkLooserSpec) false w args)
      (Rows.checkLooserSpec.post enc Tryd.prog Tryd.f3 false true false false) := by
  refine handed_both (C := Tryd.checked) (X := fun w _ => laidMetH Tryd.prog laidAll w) (fun _ _ _ hh h => h.of_heap hh) ownKnobs started (by kernel_rfl) Tryd.func3
    (ChangeSpec.witness_shaped (enc := enc) (C := Tryd.checked) (os := os) (X := fun w _ => laidMetH Tryd.prog laidAll w) false (World.laidAll Tryd.prog os laidAll) #[.agg #[.slice none 0 0, .slice none 0 0, .slice none 0 0], .slice none 0 0, .slice none 0 0] 8 (World.laidAll_os _ _ _) (World.shaped_of_ZipB (by kernel_rfl) (by kernel_rfl)) (by kernel_rfl) (by kernel_rfl) (by kernel_rfl) (laid_met os _)) ?_
  intro W base args ds gs before hval0 hW hsz0 hL hsh
  have hsz : (DataW.weightsEach Tryd.prog (Tryd.f3.params.toList ++ Rows.checkLooserSpec.plain.varTypes Tryd.prog) (ds ++ gs)).all (· ≤ reachBytes) = true := hsz0
  clear hsz0
  have hval : ∀ (j : Nat) t v, Tryd.f3.params[j]? = some t → args[j]? = some v → Value.okWide Tryd.prog W .any base t v := hval0
  have hW' := hW
  obtain ⟨p, q, hA0, hV, rfl, hfz, hnd⟩ := hW
  have hA : DataW.TrodAll enc Tryd.prog W 0 (fun _ => true) true Tryd.f3.params.toList args.toList ds p := hA0
  rw [Tryd.params3] at hA hval hsz
  obtain ⟨v0, vs0, d0, ds0, p0, q0, hargs, rfl, rfl, h0, r0⟩ := trodAll_cons hA
  obtain ⟨v1, vs1, d1, ds1, p1, q1, rfl, rfl, rfl, h1, r1⟩ := trodAll_cons r0
  obtain ⟨v2, vs2, d2, ds2, p2, q2, rfl, rfl, rfl, h2, r2⟩ := trodAll_cons r1
  obtain ⟨rfl, rfl, rfl⟩ := trodAll_nil r2
  obtain rfl : args = #[v0, v1, v2] := by cases args; simp_all
  obtain ⟨rfl, rfl⟩ := trodVars_none hV
  have hmem : ∀ (j : Nat) t (d : DataW H), [25, 22, 23][j]? = some t → [d0, d1, d2][j]? = some d → ∀ n ∈ d.weights Tryd.prog t, n ≤ 140737488351232 := fun j t d ht hd n hn => by
    have := List.all_eq_true.1 hsz n (DataW.weights_mem_each (j := j) (t := t) (d := d) (by
      have hjl : j < 3 := (List.getElem?_eq_some_iff.1 ht).1
      rw [List.getElem?_append_left (by simpa using hjl)]; exact ht) (by
      have hjl : j < 3 := (List.getElem?_eq_some_iff.1 hd).1
      rw [List.getElem?_append_left (by simpa using hjl)]; exact hd) n hn)
    exact of_decide_eq_true this
  obtain ⟨fs, hu, _⟩ := fields_some csF
  obtain ⟨cs, rfl, hcsz⟩ := okWide_struct hu (hval 0 25 v0 rfl rfl)
  have k0 := h0
  have lt0 : ∀ x ∈ p0, x.block < W.heap.size := by obtain ⟨m, hm⟩ := k0; exact DataW.trod_lt m _ _ _ hm
  have k1 := h1
  have lt1 : ∀ x ∈ p1, x.block < W.heap.size := by obtain ⟨m, hm⟩ := k1; exact DataW.trod_lt m _ _ _ hm
  have k2 := h2
  have lt2 : ∀ x ∈ p2, x.block < W.heap.size := by obtain ⟨m, hm⟩ := k2; exact DataW.trod_lt m _ _ _ hm
  obtain ⟨vL, vN, vT, l, N, Th, rfl, hl, hF, hn, hns, ht⟩ : ∃ vL vN vT l N Th, cs = #[vL, vN, vT] ∧ IsNodes W vL l ∧ Fits l ∧ T3.IsTexts W vN N ∧ (∀ x ∈ N, x.length ≤ maxLen) ∧ T3.IsTexts W vT Th := by
    obtain ⟨fuel, hf⟩ := h0
    obtain ⟨vL, vN, vT, l, N, Th, hc, r⟩ := case_open hf (hmem 0 _ _ rfl rfl)
    refine ⟨vL, vN, vT, l, N, Th, ?_, r⟩
    obtain ⟨cl⟩ := cs
    simpa [Value.cells] using hc
  obtain ⟨a1, len1, cap1, rfl⟩ := okWide_slice tyNodes (hval 1 22 v1 rfl rfl)
  obtain ⟨l1, hl1, hF1⟩ : ∃ l : List Tr.Nd, IsNodes W (.slice a1 len1 cap1) l ∧ Fits l := by
    obtain ⟨fuel, hf⟩ := h1
    obtain ⟨l, hl, hx, hN⟩ := nodes_open (v := .slice a1 len1 cap1) (p := p1) hf
    refine ⟨l, hl, ?_, fun x h => (hx x h).1, fun x h => (hx x h).2.1⟩
    rcases hN with rfl | ⟨M, h1, h2⟩
    · simp
    · have := hmem 1 _ _ rfl rfl _ h2; omega
  obtain ⟨a2, len2, cap2, rfl⟩ := okWide_slice T3.ty31 (hval 2 23 v2 rfl rfl)
  obtain ⟨T2, hT2⟩ : ∃ l : List (List UInt8), T3.IsTexts W (.slice a2 len2 cap2) l := by
    obtain ⟨fuel, hf⟩ := h2
    obtain ⟨l, hl, _⟩ := texts_open (v := .slice a2 len2 cap2) (p := p2) hf
    exact ⟨l, hl⟩
  obtain ⟨hG, hg⟩ := all_of_laid hL hsh
  clear hA0 hval0
  refine (checkLooser_any l hF N Th hns vL vN vT l1 hF1 T2 _ _ W hl hn ht hl1 hT2 hG hg).mono fun e W' ⟨he, bel⟩ => ?_
  subst he
  exact ⟨_, rfl, _, _, _, [], _, [], hW', trodAll_mk1 (shut_bool Tryd.underlying4 _), (trodAll_cons_mk (Below.trod laidOutAll (by kernel_rfl) (of_decide_eq_true (by kernel_rfl)) k0 bel lt0) (trodAll_cons_mk (Below.trod laidOutAll (by kernel_rfl) (of_decide_eq_true (by kernel_rfl)) k1 bel lt1) (trodAll_cons_mk (Below.trod laidOutAll (by kernel_rfl) (of_decide_eq_true (by kernel_rfl)) k2 bel lt2) trodAll_mk0))), rfl, bel.frame _, fun h => by cases h⟩

theorem checkLooser_row : Rows.CheckLooserSaid :=
  OpenClaim.holds_of_wide 3 Tryd.f3 rfl rfl rfl rfl rfl rfl rfl ⟨rfl, rfl, rfl, rfl, rfl⟩ rfl rfl rfl rfl rfl (by kernel_rfl) Tryd.func3 (by kernel_rfl)
    (of_decide_eq_true (by kernel_rfl)) (by unfold Func.isWrapper; first | (rw [if_pos (by decide +kernel)]; kernel_rfl) | (rw [if_neg (by decide +kernel)]; exact ⟨rfl, rfl⟩))
    (fun os started H enc _ => checkLooser_lifted os started H enc)

theorem checkLooser_card : Rows.CheckLooserCardSaid :=
  Claim7.holds_tied_plain_at .later [] [.data, .data, .data, .pinned] true (true, "acae1c00b07380934e5e031daf110a75caf8a2624959e4b6a1678209fedecf6b") true
    checkLooser_row (fun _ h => by cases h) (by kernel_rfl) (fun _ h => by cases h) checkLooser_row_tie rfl ⟨rfl, rfl⟩ (by kernel_rfl) rfl
    (fun f fn hf hfn => by
      obtain rfl : f = 3 := Option.some.inj ((show Tryd.prog.funcNamed "culprit/culpritlaw08.CheckLooser" = some 3 by kernel_rfl).symm.trans hf) |>.symm
      obtain rfl : fn = Tryd.f3 := (Option.some.inj (Tryd.func3.symm.trans hfn)).symm
      exact ⟨by kernel_rfl, fun j t ht => by
        rw [Tryd.params3] at ht
        have hm : t ∈ [25, 22, 23] := by simpa using Array.mem_of_getElem? ht
        have hall : ([25, 22, 23].all fun u => !Tryd.prog.wantsStandIn u) = true := by kernel_rfl
        exact (show Tryd.prog.wantsStandIn t = false by simpa using List.all_eq_true.1 hall t hm)⟩)
    (by kernel_rfl)
end Go.Proofs.YthihnkgjkmaplaaDoor
