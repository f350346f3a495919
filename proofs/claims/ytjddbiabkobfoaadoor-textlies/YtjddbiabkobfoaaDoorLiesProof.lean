/- For every source and every list of blanks, TextLies returns true: the tokens of a source lie in it where they are told and are read there again; what stands between is blanks and remarks alone; written one behind the other with a blank between, or with blanks and remarks put ahead of each, they are the same but for places. Conditions: the listed variables of the library start as the program's text lays them. -/
import Derived.Test.YtjddbiabkobfoaaDoorLiesW
import Derived.Test.YtjddbiabkobfoaaDoorSrcRow
import Derived.Test.YtjddbiabkobfoaaDoorLaid
import Derived.Test.YtjddbiabkobfoaaDoorTie
import Derived.Test.YtjddbiabkobfoaaDoorCards
import Derived.SevenTiedAt
import Derived.SizedLaws
namespace Go.Proofs.YtjddbiabkobfoaaDoor
open Go.RowKit
set_option maxRecDepth 100000

set_option maxHeartbeats 1000000 in
theorem textLies_big (w : World) (hv : Vars w) (h2 : 2 ≤ w.heap.size) (a c : Option Addr) (n m ca cc : Nat) (hn : n ≤ 140737488355328) (hl : 4096 < n) :
    Calls Tryd.prog 4 #[.slice a n ca, .slice c m cc] w fun e w' => e = .returned (.bool true) ∧ Below w.heap.size w w' := by
  have hl' : (4096 : Int) < (n : Int) := by omega
  go_enter Tryd.func4, Tryd.ntmps4
  go_wp2_with (go_at_call 9; refine (works_any _ hv h2).mono ?_; rintro e w1 ⟨rfl, hB1⟩)
  go_ret
  exact ⟨rfl, hB1⟩

set_option maxHeartbeats 1000000 in
theorem textLies_wide (w : World) (hv : Vars w) (h2 : 2 ≤ w.heap.size) (a c : Option Addr) (n m ca cc : Nat) (hm : m ≤ 140737488355328) (hn : n ≤ 4096) (hl : 16384 < m) :
    Calls Tryd.prog 4 #[.slice a n ca, .slice c m cc] w fun e w' => e = .returned (.bool true) ∧ Below w.heap.size w w' := by
  have hn' : decide ((4096 : Int) < (n : Int)) = false := by simp; omega
  have hl' : (16384 : Int) < (m : Int) := by omega
  go_enter Tryd.func4, Tryd.ntmps4
  go_wp2_with (go_at_call 9; refine (works_any _ hv h2).mono ?_; rintro e w1 ⟨rfl, hB1⟩)
  go_ret
  exact ⟨rfl, hB1⟩

theorem butPlaces_nil (w : World) (a c : Option Addr) (ca cc : Nat) : Calls Tryd.prog 21 #[.slice a 0 ca, .slice c 0 cc] w fun e w' => e = .returned (.bool true) ∧ Below w.heap.size w w' :=
  butPlaces_same w a c ca cc 0 (by omega) (fun _ => (0, 0, ⟨#[]⟩, 0, 0)) (fun _ => (0, 0, ⟨#[]⟩, 0, 0)) (fun i hi => by omega) (fun i hi => by omega) (fun i hi => by omega)

set_option maxHeartbeats 4000000 in
theorem textLies_nil (w : World) (hv : Vars w) (h2 : 2 ≤ w.heap.size) (a c : Option Addr) (m ca cc : Nat) (hm : m ≤ 16384) :
    Calls Tryd.prog 4 #[.slice a 0 ca, .slice c m cc] w fun e w' => e = .returned (.bool true) ∧ Below w.heap.size w w' := by
  have hl2 : decide ((16384 : Int) < (m : Int)) = false := by simp; omega
  have hT : ∀ (w0 : World) v, IsSrc w0 v [] → Vars w0 → 2 ≤ w0.heap.size → Calls Tryd.prog 12 #[v] w0 fun e w' => ∃ a c, e = .returned (.tuple #[.slice a 0 c, .int .i64 0, .agg #[.int .i64 0, .int .i64 0]]) ∧ Below w0.heap.size w0 w' := fun w0 v hs hv0 h20 => by
    refine (tokens_src w0 v [] hs (by simp) hv0 h20).mono ?_
    rintro e w' ⟨hB, hE⟩
    have hall : Tx.all [] = .ok [] := by rw [Tx.tk_all]; exact Tx.tk_end (by simp)
    rw [hall] at hE
    obtain ⟨v, rfl, row⟩ := hE
    obtain ⟨a, c, rfl⟩ := own_len row
    exact ⟨a, c, rfl, hB⟩
  go_enter Tryd.func4, Tryd.ntmps4
  go_wp2_with (go_at_call 9; refine (works_any _ hv h2).mono ?_; rintro e w1 ⟨rfl, hB1⟩)
  refine (hT w1 _ (Or.inl ⟨rfl, a, ca, rfl⟩) (hv.below hB1) (Nat.le_trans h2 hB1.size)).mono ?_
  rintro e w2 ⟨la, lc, rfl, hB2⟩
  have hB02 := hB1.trans (hB2.mono hB1.size)
  clear hB1 hB2
  go_wp2_with fail
  have hB3 := (hB02.alloc hB02.size (.cells #[.int .i64 0, .int .i64 0] 29)).alloc (by have := hB02.size; simp; omega) (.cells #[.int .i64 1, .int .i64 1] 29)
  generalize (w2.alloc (.cells #[.int .i64 0, .int .i64 0] 29)).alloc (.cells #[.int .i64 1, .int .i64 1] 29) = w3 at *
  clear hB02
  obtain ⟨cv, w20, hcv, hsrc, hB20, hlt20⟩ := conv_str w3 ⟨#[]⟩
  have hB4 := hB3.trans (hB20.mono hB3.size)
  refine wp_loop_rounds 1 ?_
  rw [rounds_succ]
  go_wp2_with (go_at_call 17; refine (behind_nil _ a ca).mono ?_; rintro e w' ⟨rfl, hw'⟩; replace hw' := hw'.symm; subst hw')
  refine (hT w20 cv hsrc (hv.below hB4) (Nat.le_trans h2 hB4.size)).mono ?_
  rintro e w21 ⟨ba, bc, rfl, hB21⟩
  have hB5 := hB4.trans (hB21.mono hB4.size)
  clear hcv hsrc hB20 hlt20 hB21 hB4 hB3
  go_wp2_with fail
  replace hB5 := hB5.alloc hB5.size (.cells #[.int .i64 0, .int .i64 0] 29)
  generalize w21.alloc (.cells #[.int .i64 0, .int .i64 0] 29) = w22 at *
  refine (hT w22 _ (Or.inl ⟨rfl, _, _, rfl⟩) (hv.below hB5) (Nat.le_trans h2 hB5.size)).mono ?_
  rintro e w23 ⟨da, dc, rfl, hB23⟩
  have hB6 := hB5.trans (hB23.mono hB5.size)
  clear hB5 hB23
  go_wp2_with fail
  replace hB6 := hB6.alloc hB6.size (.cells #[.int .i64 0, .int .i64 0] 29)
  generalize w23.alloc (.cells #[.int .i64 0, .int .i64 0] 29) = w24 at *
  refine (butPlaces_nil w24 _ _ _ _).mono ?_
  rintro e w25 ⟨rfl, hB25⟩
  have hB7 := hB6.trans (hB25.mono hB6.size)
  clear hB6 hB25
  go_wp2_with fail
  refine (butPlaces_nil w25 _ _ _ _).mono ?_
  rintro e w26 ⟨rfl, hB26⟩
  have hB8 := hB7.trans (hB26.mono hB7.size)
  go_wp2_with fail
  go_ret
  exact ⟨rfl, hB8⟩

theorem textLies_any (w : World) (hv : Vars w) (h2 : 2 ≤ w.heap.size) (v1 v2 : Value) (bs ks : List UInt8) (hs : IsSrc w v1 bs) (ho : IsSrc w v2 ks) (h1 : bs.length ≤ 140737488355328) (h3 : ks.length ≤ 140737488355328) :
    Calls Tryd.prog 4 #[v1, v2] w fun e w' => e = .returned (.bool true) ∧ Below w.heap.size w w' := by
  obtain ⟨a1, ca1, rfl⟩ := hs.shape
  obtain ⟨a2, ca2, rfl⟩ := ho.shape
  by_cases hl : 4096 < bs.length
  · exact textLies_big w hv h2 a1 a2 _ _ ca1 ca2 h1 hl
  by_cases hk : 16384 < ks.length
  · exact textLies_wide w hv h2 a1 a2 _ _ ca1 ca2 h3 (by omega) hk
  rcases hs with ⟨rfl, a, c, e⟩ | ⟨b, off, cap, e, hcap, hb, hc⟩
  · exact textLies_nil w hv h2 a1 a2 _ ca1 ca2 (by omega)
  · cases e
    exact textLies_main w hv h2 b off ca1 bs (by omega) hb hcap hc a2 ks ca2 (Blk.of ho) (by omega)
end Go.Proofs.YtjddbiabkobfoaaDoor
namespace Go.Proofs.YtjddbiabkobfoaaDoor
open Go.ChangeShapes Go.WideShapes Go.ChangeAt Go.RowKit

set_option maxRecDepth 100000 in
theorem textLies_lifted (os : Os) (started : os.Started) (H : Type) (enc : TypeId × Value → H) :
    ReturnsInHanded {} Tryd.checked os 4 .any (fun w args => (Rows.textLiesSpec.pre enc Tryd.prog Tryd.f4 [] false w args ∧ laidMetH Tryd.prog laidAll w) ∧ sizedMet enc Tryd.prog Tryd.f4 (OpenSpec.ofChange Rows.textLiesSpec) false w args)
      (Rows.textLiesSpec.post enc Tryd.prog Tryd.f4 false true false false) := by
  refine returnsInHanded_of_change_and (C := Tryd.checked) (X := fun w _ => laidMetH Tryd.prog laidAll w) (fun _ _ _ hh h => h.of_heap hh) ownKnobs started (by kernel_rfl) Tryd.func4
    (ChangeSpec.witness_shaped (enc := enc) (C := Tryd.checked) (os := os) (X := fun w _ => laidMetH Tryd.prog laidAll w) false (World.doorLaid Tryd.prog 400 os) #[.slice none 0 0, .slice none 0 0] 8 rfl (World.shaped_of_RefB (by kernel_rfl) (by kernel_rfl)) (by kernel_rfl) (by kernel_rfl) (by kernel_rfl) (door_met os _)) ?_
  intro W base args ds gs before hval0 hW _ hsz0 hL _
  have hsz : (DataW.weightsEach Tryd.prog (Tryd.f4.params.toList ++ Rows.textLiesSpec.plain.varTypes Tryd.prog) (ds ++ gs)).all (· ≤ reachBytes) = true := hsz0
  clear hsz0
  have hval : ∀ (j : Nat) t v, Tryd.f4.params[j]? = some t → args[j]? = some v → Value.okWide Tryd.prog W .any base t v := hval0
  have hW' := hW
  obtain ⟨p, q, hA0, hV, rfl, hfz, hnd⟩ := hW
  have hA : DataW.TrodAll enc Tryd.prog W 0 (fun _ => true) true Tryd.f4.params.toList args.toList ds p := hA0
  rw [Tryd.params4] at hA hval hsz
  obtain ⟨v0, vs0, d0, ds0, p0, q0, hargs, rfl, rfl, h0, r0⟩ := trodAll_cons hA
  obtain ⟨v1, vs1, d1, ds1, p1, q1, rfl, rfl, rfl, h1, r1⟩ := trodAll_cons r0
  obtain ⟨rfl, rfl, rfl⟩ := trodAll_nil r1
  obtain rfl : args = #[v0, v1] := by cases args; simp_all
  obtain ⟨rfl, rfl⟩ := trodVars_none hV
  obtain ⟨a0, len0, cap0, rfl⟩ := okWide_slice Tryd.underlying22 (hval 0 22 v0 rfl rfl)
  have k0 := h0
  have lt0 : ∀ x ∈ p0, x.block < W.heap.size := by obtain ⟨m, hm⟩ := k0; exact DataW.trod_lt m _ _ _ hm
  obtain ⟨bs0, hsrc0, hml0⟩ : ∃ bs : List UInt8, IsSrc W (.slice a0 len0 cap0) bs ∧ bs.length ≤ 140737488355328 := by
    obtain ⟨fuel, hf⟩ := h0
    rcases open_ints Tryd.underlying22 Tryd.underlying5 (by kernel_rfl) hf with ⟨hcs, _⟩ | ⟨x, l, c, zs, hcs, _, hl, hm, hz, hx, hcell, hwz⟩
    · simp [Value.cells] at hcs
      obtain ⟨rfl, rfl, rfl⟩ := hcs
      exact ⟨[], Or.inl ⟨rfl, _, _, rfl⟩, by simp⟩
    · simp [Value.cells] at hcs
      obtain ⟨rfl, rfl, rfl⟩ := hcs
      obtain ⟨bs, e1, e2, e3⟩ := src_of_row hl (by simpa using hz) hcell hwz
      have hd := (Prod.mk.inj hx).1
      subst hd
      have z := sized_slice hsz (j := 0) (t := 22) (e := 5) rfl rfl Tryd.underlying22
      rw [show Tryd.prog.bytesOf 5 = 1 by kernel_rfl] at z
      unfold reachBytes at z
      simp [lits] at z
      rw [e1] at e2
      simp at hz
      exact ⟨bs, e2, by omega⟩
  obtain ⟨a1, len1, cap1, rfl⟩ := okWide_slice Tryd.underlying22 (hval 1 22 v1 rfl rfl)
  have k1 := h1
  have lt1 : ∀ x ∈ p1, x.block < W.heap.size := by obtain ⟨m, hm⟩ := k1; exact DataW.trod_lt m _ _ _ hm
  obtain ⟨bs1, hsrc1, hml1⟩ : ∃ bs : List UInt8, IsSrc W (.slice a1 len1 cap1) bs ∧ bs.length ≤ 140737488355328 := by
    obtain ⟨fuel, hf⟩ := h1
    rcases open_ints Tryd.underlying22 Tryd.underlying5 (by kernel_rfl) hf with ⟨hcs, _⟩ | ⟨x, l, c, zs, hcs, _, hl, hm, hz, hx, hcell, hwz⟩
    · simp [Value.cells] at hcs
      obtain ⟨rfl, rfl, rfl⟩ := hcs
      exact ⟨[], Or.inl ⟨rfl, _, _, rfl⟩, by simp⟩
    · simp [Value.cells] at hcs
      obtain ⟨rfl, rfl, rfl⟩ := hcs
      obtain ⟨bs, e1, e2, e3⟩ := src_of_row hl (by simpa using hz) hcell hwz
      have hd := (Prod.mk.inj hx).1
      subst hd
      have z := sized_slice hsz (j := 1) (t := 22) (e := 5) rfl rfl Tryd.underlying22
      rw [show Tryd.prog.bytesOf 5 = 1 by kernel_rfl] at z
      unfold reachBytes at z
      simp [lits] at z
      rw [e1] at e2
      simp at hz
      exact ⟨bs, e2, by omega⟩
  obtain ⟨hvs, h2⟩ := vars_of_laid hL
  clear hA0 hval0
  refine (textLies_any W hvs h2 _ _ bs0 bs1 hsrc0 hsrc1 hml0 hml1).mono fun e W' ⟨he, bel⟩ => ?_
  subst he
  exact ⟨_, rfl, _, _, _, [], _, [], hW', trodAll_mk1 (shut_bool Tryd.underlying4 _), (trodAll_cons_mk (Below.trod laidOutAll (by kernel_rfl) (of_decide_eq_true (by kernel_rfl)) k0 bel lt0) (trodAll_cons_mk (Below.trod laidOutAll (by kernel_rfl) (of_decide_eq_true (by kernel_rfl)) k1 bel lt1) trodAll_mk0)), rfl, bel.frame _, fun h => by cases h⟩

theorem textLies_row : Rows.TextLiesSaid :=
  OpenClaim.holds_of_wide 4 Tryd.f4 rfl rfl rfl rfl rfl rfl rfl ⟨rfl, rfl, rfl, rfl, rfl⟩ rfl rfl rfl rfl rfl (by kernel_rfl) Tryd.func4 (by kernel_rfl)
    (of_decide_eq_true (by kernel_rfl)) (by unfold Func.isWrapper; first | (rw [if_pos (by decide +kernel)]; kernel_rfl) | (rw [if_neg (by decide +kernel)]; exact ⟨rfl, rfl⟩))
    (fun os started H enc _ => textLies_lifted os started H enc)

theorem textLies_card : Rows.TextLiesCardSaid :=
  Claim7.holds_tied_plain_at .later [] [.data, .data, .data, .sentinel, .sentinel] true (true, "fa0f6428b969901839cc54ea6e95a157484e48e58d86db2795f85ff98574a4bd") true
    textLies_row (fun _ h => by cases h) (by kernel_rfl) (fun _ h => by cases h) textLies_row_tie rfl ⟨rfl, rfl⟩ (by kernel_rfl) rfl
    (fun f fn hf hfn => by
      obtain rfl : f = 4 := Option.some.inj ((show Tryd.prog.funcNamed "culprit/culpritlaw01.TextLies" = some 4 by kernel_rfl).symm.trans hf) |>.symm
      obtain rfl : fn = Tryd.f4 := (Option.some.inj (Tryd.func4.symm.trans hfn)).symm
      exact ⟨by kernel_rfl, fun j t ht => by
        rw [Tryd.params4] at ht
        have hm : t ∈ [22, 22] := by simpa using Array.mem_of_getElem? ht
        have hall : ([22, 22].all fun u => !Tryd.prog.wantsStandIn u) = true := by kernel_rfl
        exact (show Tryd.prog.wantsStandIn t = false by simpa using List.all_eq_true.1 hall t hm)⟩)
    (by kernel_rfl)
#print axioms textLies_card
end Go.Proofs.YtjddbiabkobfoaaDoor
