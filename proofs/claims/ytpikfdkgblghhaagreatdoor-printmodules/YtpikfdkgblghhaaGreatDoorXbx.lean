/- For every list of modules, PrintModules returns true: the program's Modules answers the text that the document's tables give, or its error, and the modules stay. Conditions: the listed variables start as the program's text lays them. -/
import Derived.Test.YtpikfdkgblghhaaGreatDoorXbw
import Derived.Test.YtpikfdkgblghhaaGreatDoorXbv
import Derived.Test.YtpikfdkgblghhaaGreatDoorTie
import Derived.Test.YtpikfdkgblghhaaGreatDoorCards
import Derived.SevenTiedAt
import Derived.SizedLaws
import Derived.Lib.LaidTab
import Derived.ProofKit
import Derived.OpenShut
import Derived.LaidMore
import Derived.Lay
import Derived.Stop.Joined
import Derived.Stop.LaidErr
namespace Go.Proofs.YtpikfdkgblghhaaGreatDoor
open Go.ChangeShapes Go.WideShapes Go.ChangeAt Go.RowKit Pn

theorem laidOutAll : laidOutB Tryz.prog = true := by kernel_rfl
theorem ownKnobs : ownKnob Tryz.prog.godebug = none := by kernel_rfl
/-- The three variables that the statement lists. -/
abbrev laidThree : List (String × DataW Unit) := [("math/bits.deBruijn32tab", Rows.laid_math_bits_deBruijn32tab), ("math/bits.deBruijn64tab", Rows.laid_math_bits_deBruijn64tab), ("internal/strconv.uint64pow10", Rows.laid_internal_strconv_uint64pow10)]
theorem laid_met3 (os : Os) (args : Array Value) : laidMetH Tryz.prog laidThree ((World.laidAll Tryz.prog os laidThree).forCall (fun _ _ => 0) ⟨#[], args, []⟩).memory := by
  rw [MakeChecks.laidMetH_plain _ _ _ (by kernel_rfl)]
  exact laidMet_laidAll _ (by kernel_rfl) (by kernel_rfl)
theorem gPow : ∃ g, Tryz.prog.globalNamed "internal/strconv.uint64pow10" = some g ∧ (Tryz.prog.globals[g]?).map (·.type) = some 241 := ⟨1, by kernel_rfl, by kernel_rfl⟩
theorem tab_of_laid {W : World} (h : laidMetH Tryz.prog laidThree W) : Tab W := by
  rw [MakeChecks.laidMetH_plain _ _ _ (by kernel_rfl)] at h
  obtain ⟨g, h1, h2⟩ := gPow
  exact Lib.tabIs_of_head (t := 241) (e := 195) (n := 20) h1 h2 (by kernel_rfl) (by kernel_rfl) (by kernel_rfl) (by kernel_rfl) h.tail.tail

set_option maxRecDepth 100000 in
theorem printModules_lifted (os : Os) (started : os.Started) (H : Type) (enc : TypeId × Value → H) :
    ReturnsInHanded {} Tryz.checked os 4 .any (fun w args => (Rows.printModulesSpec.pre enc Tryz.prog Tryz.f4 [] false w args ∧ laidMetH Tryz.prog laidThree w) ∧ sizedMet enc Tryz.prog Tryz.f4 (OpenSpec.ofChange Rows.printModulesSpec) false w args)
      (Rows.printModulesSpec.post enc Tryz.prog Tryz.f4 false true false false) := by
  refine returnsInHanded_of_change_and (C := Tryz.checked) (X := fun w _ => laidMetH Tryz.prog laidThree w) (fun _ _ _ hh h => h.of_heap hh) ownKnobs started (by kernel_rfl) Tryz.func4
    (ChangeSpec.witness_shaped (enc := enc) (C := Tryz.checked) (os := os) (X := fun w _ => laidMetH Tryz.prog laidThree w) false (World.laidAll Tryz.prog os laidThree) #[.slice none 0 0] 8 (World.laidAll_os _ _ _) (World.shaped_of_ZipB (by kernel_rfl) (by kernel_rfl)) (by kernel_rfl) (by kernel_rfl) (by kernel_rfl) (laid_met3 os _)) ?_
  intro W base args ds gs before hval0 hW _ hsz0 hL _
  have hsz : (DataW.weightsEach Tryz.prog (Tryz.f4.params.toList ++ Rows.printModulesSpec.plain.varTypes Tryz.prog) (ds ++ gs)).all (· ≤ reachBytes) = true := hsz0
  clear hsz0
  have hval : ∀ (j : Nat) t v, Tryz.f4.params[j]? = some t → args[j]? = some v → Value.okWide Tryz.prog W .any base t v := hval0
  have hW' := hW
  obtain ⟨p, q, hA0, hV, rfl, hfz, hnd⟩ := hW
  have hA : DataW.TrodAll enc Tryz.prog W 0 (fun _ => true) true Tryz.f4.params.toList args.toList ds p := hA0
  rw [Tryz.params4] at hA hval hsz
  obtain ⟨v0, vs0, d0, ds0, p0, q0, hargs, rfl, rfl, h0, r0⟩ := trodAll_cons hA
  obtain ⟨rfl, rfl, rfl⟩ := trodAll_nil r0
  obtain rfl : args = #[v0] := by cases args; simp_all
  obtain ⟨rfl, rfl⟩ := trodVars_none hV
  obtain ⟨a0, len0, cap0, rfl⟩ := okWide_slice tyMods (hval 0 30 v0 rfl rfl)
  have k0 := h0
  have lt0 : ∀ x ∈ p0, x.block < W.heap.size := by obtain ⟨m, hm⟩ := k0; exact DataW.trod_lt m _ _ _ hm
  have hm : ∀ n ∈ d0.weights Tryz.prog 30, n ≤ 140737488351232 := fun n hn => by
    have := List.all_eq_true.1 hsz n (DataW.weights_mem_each (j := 0) (t := 30) (d := d0) rfl rfl n hn)
    exact of_decide_eq_true this
  obtain ⟨l, hl, hF, hX, hH⟩ : ∃ l : List Md, IsMods W (.slice a0 len0 cap0) l ∧ FitsM l ∧ TextsM l ∧ ∀ m ∈ l, ∀ x ∈ m.defs, ∀ y ∈ x.tree, Held y := by
    obtain ⟨fuel, hf⟩ := h0
    obtain ⟨l, hl, hx, hN⟩ := mods_open (v := .slice a0 len0 cap0) (p := p0) hf
    have hlen : ∀ {α : Type} (r : List α) (c : Nat), 64 ≤ c → (r = [] ∨ ∃ N, r.length ≤ N ∧ N * c ∈ d0.weights Tryz.prog 30) → r.length ≤ 2199023255552 := fun r c hc h => by
      rcases h with rfl | ⟨N, h1, h2⟩
      · simp
      · have h3 := hm _ h2
        have h4 : N * 64 ≤ N * c := Nat.mul_le_mul_left _ hc
        omega
    refine ⟨l, hl, ⟨hlen l 80 (by decide) hN, fun m h => hlen _ 64 (by decide) (hx m h).2.2.2.1, fun m h => hlen _ 80 (by decide) (hx m h).2.2.2.2.2, fun m h => (hx m h).1, fun m h y hy => ((hx m h).2.2.1 y hy).1, fun m h y hy => ((hx m h).2.2.2.2.1 y hy).1, fun m h y hy => ?_⟩, ⟨fun m h => ?_, fun m h y hy => ?_, fun m h y hy => ?_, fun m h y hy t ht => ?_⟩, fun m h y hy t ht => ?_⟩
    · obtain ⟨_, _, _, q, r⟩ := (hx m h).2.2.2.2.1 y hy
      exact ⟨hlen _ 88 (by decide) r, fun t ht => (q t ht).1, fun t ht => (q t ht).2.2.1⟩
    · have := hm _ (hx m h).2.1; omega
    · obtain ⟨_, q1, q2, q3⟩ := (hx m h).2.2.1 y hy
      have := hm _ q1; have := hm _ q2; have := hm _ q3
      omega
    · obtain ⟨_, q1, q2, _⟩ := (hx m h).2.2.2.2.1 y hy
      have := hm _ q1; have := hm _ q2
      omega
    · obtain ⟨_, _, _, q, _⟩ := (hx m h).2.2.2.2.1 y hy
      obtain ⟨_, _, _, q1, q2, q3⟩ := q t ht
      have := hm _ q1; have := hm _ q2; have := hm _ q3
      omega
    · obtain ⟨_, _, _, q, _⟩ := (hx m h).2.2.2.2.1 y hy
      exact ⟨(q t ht).2.1, (q t ht).2.2.1⟩
  clear hA0 hval0
  refine (printModules_any l hF hX hH _ W hl (tab_of_laid hL)).mono fun e W' ⟨he, bel⟩ => ?_
  subst he
  exact ⟨_, rfl, _, _, _, [], _, [], hW', trodAll_mk1 (shut_bool Tryz.underlying4 _), (trodAll_cons_mk (Below.trod laidOutAll (by kernel_rfl) (of_decide_eq_true (by kernel_rfl)) k0 bel lt0) trodAll_mk0), rfl, bel.frame _, fun h => by cases h⟩

theorem printModules_row : Rows.PrintModulesSaid :=
  OpenClaim.holds_of_wide 4 Tryz.f4 rfl rfl rfl rfl rfl rfl rfl ⟨rfl, rfl, rfl, rfl, rfl⟩ rfl rfl rfl rfl rfl (by kernel_rfl) Tryz.func4 (by kernel_rfl)
    (of_decide_eq_true (by kernel_rfl)) (by unfold Func.isWrapper; first | (rw [if_pos (by decide +kernel)]; kernel_rfl) | (rw [if_neg (by decide +kernel)]; exact ⟨rfl, rfl⟩))
    (fun os started H enc _ => printModules_lifted os started H enc)

theorem printModules_card : Rows.PrintModulesCardSaid :=
  Claim7.holds_tied_plain_at .later [] [.data, .data, .data] true (true, "899be5ed49a2a9c10d67872261e7d3e2e50ea698a48227f34dc586378d8733ff") true
    printModules_row (fun _ h => by cases h) (by kernel_rfl) (fun _ h => by cases h) printModules_row_tie rfl ⟨rfl, rfl⟩ (by kernel_rfl) rfl
    (fun f fn hf hfn => by
      obtain rfl : f = 4 := Option.some.inj ((show Tryz.prog.funcNamed "culprit/culpritlaw07.PrintModules" = some 4 by kernel_rfl).symm.trans hf) |>.symm
      obtain rfl : fn = Tryz.f4 := (Option.some.inj (Tryz.func4.symm.trans hfn)).symm
      exact ⟨by kernel_rfl, fun j t ht => by
        rw [Tryz.params4] at ht
        have hm : t ∈ [30] := by simpa using Array.mem_of_getElem? ht
        have hall : ([30].all fun u => !Tryz.prog.wantsStandIn u) = true := by kernel_rfl
        exact (show Tryz.prog.wantsStandIn t = false by simpa using List.all_eq_true.1 hall t hm)⟩)
    (by kernel_rfl)
#print axioms printModules_card
end Go.Proofs.YtpikfdkgblghhaaGreatDoor
