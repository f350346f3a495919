/- For every list of nodes, CoreChecks returns true: the program's Check answers the type, or what is wrong and where, just as the document's rules do, and the list that is handed in stays as it was. No condition. -/
import Derived.Test.YtnhihajhhlilfaaMgal
import Derived.Deep.Slices
import Derived.ChangeArms
import Derived.SizedLaws
import Derived.RowKit
import Derived.OpenShut
import Derived.Test.YtnhihajhhlilfaaMgbr
import Derived.Test.YtnhihajhhlilfaaRows
import Derived.WalkKit
import Derived.ProofKit
namespace Go.Proofs.Ytnhihajhhlilfaa
open Go.ChangeShapes Go.WideShapes Go.RowKit
set_option maxRecDepth 100000

def fieldsOf (P : Program) (t : TypeId) : List (Nat × Nat) := match P.underlying t with
  | some (.struct fs) => fs.toList.map fun f => (f.type, f.offset)
  | _ => []
theorem ndF : fieldsOf Try.prog 44 = [(40, 0), (3, 1), (2, 2), (9, 3), (9, 4), (9, 5), (42, 6)] := by kernel_rfl
theorem plF : fieldsOf Try.prog 42 = [(3, 0), (3, 1)] := by kernel_rfl
theorem fields_some {P : Program} {t : TypeId} {l : List (Nat × Nat)} {x : Nat × Nat} (h : fieldsOf P t = x :: l) : ∃ fs, P.underlying t = some (.struct fs) ∧ fs.toList.map (fun f => (f.type, f.offset)) = x :: l := by
  unfold fieldsOf at h
  split at h
  · exact ⟨_, by assumption, h⟩
  · simp at h
theorem weights_lit {H : Type} {P : Program} (s : ByteArray) (t : TypeId) : s.size ∈ (DataW.lit (.string s.data.toList) : DataW H).weights P t := by
  unfold DataW.weights
  rw [← str_len s]
  exact List.mem_singleton.2 rfl
theorem weightsAll_mem {H : Type} {P : Program} {e : TypeId} : ∀ {l : List (DataW H)} {d : DataW H}, d ∈ l → ∀ n ∈ d.weights P e, n ∈ DataW.weightsAll P e l
  | [], _, h, _, _ => by simp at h
  | a :: l, d, h, n, hn => by
    rw [DataW.weightsAll, List.mem_append]
    rcases List.mem_cons.1 h with rfl | h
    · exact .inl hn
    · exact .inr (weightsAll_mem h n hn)

section
variable {H : Type} {enc : TypeId × Value → H} {W : World} {base : Nat} {sp : Nat → Bool} {hd : Bool}

set_option maxHeartbeats 2000000 in
theorem node_open {n : Nat} {cs : List Value} {y : DataW H × List MemPlace} (h : DataW.trod enc Try.prog W base sp hd n 44 cs = some y) :
    ∃ x : Tr.Nd, cs = Tr.ncells x ∧ x.kids ≤ 9223372036854775807 ∧ ((Lit.int .i8 x.kind).wf = true ∧ -9223372036854775808 ≤ x.n ∧ x.n ≤ 9223372036854775807) ∧ x.s.size ≤ maxLen ∧ x.s.size ∈ y.1.weights Try.prog 44 ∧ x.t.size ∈ y.1.weights Try.prog 44 ∧ x.u.size ∈ y.1.weights Try.prog 44 := by
  obtain ⟨fs, hu, hfs⟩ := fields_some ndF
  obtain ⟨xs, k, _, rfl, hlen, hxl, hf⟩ := DataW.trod_struct hu h
  rw [show Try.prog.cellsOf 44 = 8 by kernel_rfl] at hlen
  have c34 : Try.prog.cellsOf 40 = 1 := by kernel_rfl
  have c3 : Try.prog.cellsOf 3 = 1 := by kernel_rfl
  have c2 : Try.prog.cellsOf 2 = 1 := by kernel_rfl
  have c9 : Try.prog.cellsOf 9 = 1 := by kernel_rfl
  have cp : Try.prog.cellsOf 42 = 2 := by kernel_rfl
  have u34 : Try.prog.underlying 40 = some (.int .i8) := by kernel_rfl
  have u3 : Try.prog.underlying 3 = some (.int .i64) := by kernel_rfl
  have u2 : Try.prog.underlying 2 = some (.int .i64) := by kernel_rfl
  have u9 : Try.prog.underlying 9 = some .string := by kernel_rfl
  obtain ⟨fl⟩ := fs
  simp only at hfs
  match fl, hfs with
  | [f0, f1, f2, f3, f4, f5, f6], hfs =>
    simp only [List.map_cons, List.map_nil, List.cons.injEq, Prod.mk.injEq, and_true] at hfs
    obtain ⟨⟨t0, o0⟩, ⟨t1, o1⟩, ⟨t2, o2⟩, ⟨t3, o3⟩, ⟨t4, o4⟩, ⟨t5, o5⟩, ⟨t6, o6⟩⟩ := hfs
    match xs, hxl, cs, hlen with
    | [y0, y1, y2, y3, y4, y5, y6], _, [v0, v1, v2, v3, v4, v5, v6, v7], _ =>
      have g0 := hf 0 f0 rfl
      have g1 := hf 1 f1 rfl
      have g2 := hf 2 f2 rfl
      have g3 := hf 3 f3 rfl
      have g4 := hf 4 f4 rfl
      have g5 := hf 5 f5 rfl
      have g6 := hf 6 f6 rfl
      simp only [t0, o0, c34, t1, o1, c3, t2, o2, c2, t3, o3, c9, t4, o4, t5, o5, t6, o6, cp] at g0 g1 g2 g3 g4 g5 g6
      simp only [List.drop_zero, List.drop_succ_cons, List.take_succ_cons, List.take_zero, List.getElem?_cons_zero, List.getElem?_cons_succ, List.take_nil] at g0 g1 g2 g3 g4 g5 g6
      obtain ⟨i0, h0, _, w0⟩ := DataW.trod_int u34 g0
      obtain ⟨i1, h1, _, w1⟩ := DataW.trod_int u3 g1
      obtain ⟨i2, h2, _, w2⟩ := DataW.trod_int u2 g2
      obtain ⟨s3, h3, e3, w3⟩ := DataW.trod_string u9 g3
      obtain ⟨s4, h4, e4, w4⟩ := DataW.trod_string u9 g4
      obtain ⟨s5, h5, e5, w5⟩ := DataW.trod_string u9 g5
      obtain ⟨ps, hup, hps⟩ := fields_some plF
      obtain ⟨zs, k2, _, _, hlen2, hzl, hf2⟩ := DataW.trod_struct hup g6
      obtain ⟨pl⟩ := ps
      simp only at hps
      match pl, hps with
      | [q0, q1], hps =>
        simp only [List.map_cons, List.map_nil, List.cons.injEq, Prod.mk.injEq, and_true] at hps
        obtain ⟨⟨s0, p0⟩, ⟨s1, p1⟩⟩ := hps
        match zs, hzl with
        | [z0, z1], _ =>
          have k0 := hf2 0 q0 rfl
          have k1 := hf2 1 q1 rfl
          simp only [s0, p0, s1, p1, c3, List.drop_zero, List.drop_succ_cons, List.take_succ_cons, List.take_zero, List.getElem?_cons_zero, List.getElem?_cons_succ] at k0 k1
          obtain ⟨i6, h6, _, _⟩ := DataW.trod_int u3 k0
          obtain ⟨i7, h7, _, _⟩ := DataW.trod_int u3 k1
          cases h0; cases h1; cases h2; cases h3; cases h4; cases h5; cases h6; cases h7
          have hw : (DataW.agg (List.map (fun x => x.1) [y0, y1, y2, y3, y4, y5, y6])).weights Try.prog 44 = DataW.weightsEach Try.prog ([f0, f1, f2, f3, f4, f5, f6].map (·.type)) [y0.1, y1.1, y2.1, y3.1, y4.1, y5.1, y6.1] := by
            simp only [DataW.weights, hu]; rfl
          refine ⟨⟨i0, i1, i2, s3, s4, s5, i6, i7⟩, rfl, (bounds_i64 w1).2, ⟨w0, (bounds_i64 w2).1, (bounds_i64 w2).2⟩, w3, ?_, ?_, ?_⟩
          all_goals rw [hw]
          · exact DataW.weights_mem_each (j := 3) (t := 9) (d := y3.1) (congrArg some t3) rfl _ (by rw [e3]; exact weights_lit s3 _)
          · exact DataW.weights_mem_each (j := 4) (t := 9) (d := y4.1) (congrArg some t4) rfl _ (by rw [e4]; exact weights_lit s4 _)
          · exact DataW.weights_mem_each (j := 5) (t := 9) (d := y5.1) (congrArg some t5) rfl _ (by rw [e5]; exact weights_lit s5 _)

set_option maxHeartbeats 2000000 in
theorem nodes_open {fuel : Nat} {v : Value} {d : DataW H} {p : List MemPlace} (h : DataW.trod enc Try.prog W base sp hd fuel 22 [v] = some (d, p)) :
    ∃ l : List Tr.Nd, IsNodes W v l ∧ (∀ x ∈ l, x.kids ≤ 9223372036854775807 ∧ ((Lit.int .i8 x.kind).wf = true ∧ -9223372036854775808 ≤ x.n ∧ x.n ≤ 9223372036854775807) ∧ x.s.size ≤ maxLen ∧ x.s.size ∈ d.weights Try.prog 22 ∧ x.t.size ∈ d.weights Try.prog 22 ∧ x.u.size ∈ d.weights Try.prog 22) ∧
      (l = [] ∨ ∃ N, l.length ≤ N ∧ N * 88 ∈ d.weights Try.prog 22) := by
  have ce : Try.prog.cellsOf 44 = 8 := by kernel_rfl
  have cb : Try.prog.bytesOf 44 = 88 := by kernel_rfl
  rcases Go.Deep.open_slice tyNodes h with ⟨hcs, _⟩ | ⟨a, len, cap, m, n, D, Pl, hcs, hb, hl, hm, hmm, hx, hel⟩
  · cases hcs
    exact ⟨[], .inl ⟨rfl, _, _, rfl⟩, by simp, .inl rfl⟩
  · cases hcs
    have hd := (Prod.mk.inj hx).1
    subst hd
    have hlm : len ≤ m := by rw [hmm]; split <;> omega
    rw [ce] at hel
    obtain ⟨X, hX⟩ := Go.Deep.choose_lt (n := len) (α := Option Tr.Nd) (p := fun i o => ∃ x, o = some x ∧ (∀ j, j < 8 → W.cell? ((a.add (i * 8)).add j) = (Tr.ncells x)[j]?) ∧ x.kids ≤ 9223372036854775807 ∧ ((Lit.int .i8 x.kind).wf = true ∧ -9223372036854775808 ≤ x.n ∧ x.n ≤ 9223372036854775807) ∧ x.s.size ≤ maxLen ∧ x.s.size ∈ (D i).weights Try.prog 44 ∧ x.t.size ∈ (D i).weights Try.prog 44 ∧ x.u.size ∈ (D i).weights Try.prog 44) (fun i hi => by
      obtain ⟨cs', h1, h2⟩ := hel i (by omega)
      obtain ⟨_, hlen, hcell⟩ := World.cells?_some h1
      obtain ⟨x, rfl, r⟩ := node_open h2
      exact ⟨some x, x, rfl, hcell, r⟩)
    have hw : ∀ i, i < len → ∀ n ∈ (D i).weights Try.prog 44, n ∈ (DataW.slice ((List.range len).map D) ((List.range (m - len)).map fun j => D (len + j))).weights Try.prog 22 := by
      intro i hi n hn
      simp only [DataW.weights, tyNodes]
      refine List.mem_cons_of_mem _ (List.mem_append_left _ (weightsAll_mem (d := D i) ?_ n hn))
      exact List.mem_map.2 ⟨i, List.mem_range.2 hi, rfl⟩
    have hget : ∀ j x, ((List.range len).filterMap X)[j]? = some x → j < len ∧ X j = some x := by
      have key : ∀ N, N ≤ len → ((List.range N).filterMap X).length = N ∧ ∀ j x, ((List.range N).filterMap X)[j]? = some x → j < N ∧ X j = some x := by
        intro N
        induction N with
        | zero => intro _; exact ⟨rfl, by simp⟩
        | succ N ih =>
          intro hN
          obtain ⟨e1, e2⟩ := ih (by omega)
          obtain ⟨x, hx, _⟩ := hX N (by omega)
          rw [List.range_succ, List.filterMap_append, show [N].filterMap X = [x] by simp [hx]]
          refine ⟨by simp [e1], fun j y hy => ?_⟩
          by_cases hj : j < N
          · rw [List.getElem?_append_left (by omega)] at hy
            exact ⟨by omega, (e2 j y hy).2⟩
          · have hj2 : j = N := by
              have := (List.getElem?_eq_some_iff.1 hy).1
              simp [e1] at this; omega
            subst hj2
            rw [List.getElem?_append_right (by omega), e1] at hy
            simp at hy
            subst hy
            exact ⟨by omega, hx⟩
      exact (key len (Nat.le_refl _)).2
    have hlen : ((List.range len).filterMap X).length = len := by
      apply Nat.le_antisymm
      · have := List.length_filterMap_le X (List.range len); simpa using this
      · apply Nat.le_of_not_lt
        intro hlt
        have : ∀ N, N ≤ len → ((List.range N).filterMap X).length = N := by
          intro N
          induction N with
          | zero => intro _; rfl
          | succ N ih =>
            intro hN
            obtain ⟨x, hx, _⟩ := hX N (by omega)
            rw [List.range_succ, List.filterMap_append, show [N].filterMap X = [x] by simp [hx]]
            simp [ih (by omega)]
        have := this len (Nat.le_refl _)
        omega
    refine ⟨(List.range len).filterMap X, ?_, ?_, ?_⟩
    · by_cases h0 : len = 0
      · subst h0; exact .inl ⟨rfl, _, _, rfl⟩
      · obtain ⟨b, o, spot⟩ := a
        obtain ⟨x0, _, hc0, _⟩ := hX 0 (by omega)
        have c0 := hc0 0 (by omega)
        have hspot : spot = none := by simpa [Addr.add] using World.cell?_spot c0
        subst hspot
        refine .inr ⟨b, o, cap, by rw [hlen], by rw [hlen]; exact hl, ?_, fun j x hj i u hu => ?_⟩
        · have := World.block_lt_of_cell? W _ c0
          simpa [Addr.add] using this
        · obtain ⟨hjl, hXj⟩ := hget j x hj
          obtain ⟨x', e, hc, _⟩ := hX j hjl
          obtain rfl : x' = x := by rw [hXj] at e; exact (Option.some.inj e).symm
          have hi8 : i < 8 := by have := (List.getElem?_eq_some_iff.1 hu).1; simpa [Tr.ncells] using this
          have := hc i hi8
          rw [hu, add_plain, add_plain] at this
          exact this
    · intro x hx
      obtain ⟨j, hj⟩ := List.getElem?_of_mem hx
      obtain ⟨hjl, hXj⟩ := hget j x hj
      obtain ⟨x', e, _, r1, r0, r2, r3, r4, r5⟩ := hX j hjl
      obtain rfl : x' = x := by rw [hXj] at e; exact (Option.some.inj e).symm
      exact ⟨r1, r0, r2, hw j hjl _ r3, hw j hjl _ r4, hw j hjl _ r5⟩
    · refine .inr ⟨m, by rw [hlen]; exact hlm, ?_⟩
      simp only [DataW.weights, tyNodes, cb]
      refine List.mem_cons.2 (.inl ?_)
      simp; omega
end
end Go.Proofs.Ytnhihajhhlilfaa
namespace Go.Proofs.Ytnhihajhhlilfaa
open Go.ChangeShapes Go.WideShapes Go.ChangeAt Go.RowKit
set_option linter.unusedVariables false
set_option maxRecDepth 100000

theorem dru9_any : Dru9 := fun w wb tv av a x i env b o c t0 t1 t2 z0 z1 z2 hc h hb ht hne hκ => dru9 x i env b o c t0 t1 t2 z0 z1 z2 hc h hb ht hne hκ
theorem ownKnobsC : ownKnob Try.prog.godebug = none := by kernel_rfl
theorem laidOutC : laidOutB Try.prog = true := by kernel_rfl

/-- A list of nodes that is handed in: what it holds. -/
theorem nodes_inC {H : Type} {enc : TypeId × Value → H} {W : World} {sp : Nat → Bool} {hd : Bool} {fuel : Nat} {v : Value} {d : DataW H} {p : List MemPlace} (h : DataW.trod enc Try.prog W 0 sp hd fuel 22 [v] = some (d, p)) (hm : ∀ n ∈ d.weights Try.prog 22, n ≤ 140737488351232) :
    ∃ l : List Tr.Nd, IsNodes W v l ∧ l.length ≤ 2199023255552 ∧ FitC l ∧ Texts l := by
  obtain ⟨l, hl, hx, hN⟩ := nodes_open h
  refine ⟨l, hl, ?_, ⟨fun x h => (hx x h).2.1.1, fun x h => (hx x h).1, fun x h => (hx x h).2.1.2, fun x h => (hx x h).2.2.1⟩, fun x h => ?_⟩
  · rcases hN with rfl | ⟨N, h1, h2⟩
    · simp
    · have := hm _ h2; omega
  · obtain ⟨_, _, _, h3, h4, h5⟩ := hx x h
    have := hm _ h3; have := hm _ h4; have := hm _ h5
    omega

theorem coreChecks_contract (H : Type) (enc : TypeId × Value → H) (W : World) (base : Nat) (args : Array Value) (ds gs : List (DataW H)) (before : List MemPlace)
    (hval0 : ∀ (j : Nat) t v, Try.f3.params[j]? = some t → args[j]? = some v → Value.okWide Try.prog W .any base t v)
    (hW : DataW.Whole enc Try.prog Try.f3.params.toList Rows.coreChecksSpec.vars false W args.toList ds gs before)
    (hsz0 : (DataW.weightsEach Try.prog (Try.f3.params.toList ++ Rows.coreChecksSpec.plain.varTypes Try.prog) (ds ++ gs)).all (· ≤ reachBytes) = true) :
    Calls Try.prog 3 args W fun e W' => ∃ v, e = .returned v ∧ Rows.coreChecksSpec.post enc Try.prog Try.f3 false true false false W args v W' := by
  have hsz := hsz0
  clear hsz0
  have hval := hval0
  have hW' := hW
  obtain ⟨p, q, hA0, hV, rfl, hfz, hnd⟩ := hW
  have hA : DataW.TrodAll enc Try.prog W 0 (fun _ => true) true Try.f3.params.toList args.toList ds p := hA0
  rw [Try.params3] at hA hval hsz
  obtain ⟨v0, d0, rfl, rfl, h0⟩ := trodAll_one hA
  obtain ⟨rfl, rfl⟩ := trodVars_none hV
  obtain ⟨a0, len0, cap0, rfl⟩ := okWide_slice tyNodes (hval 0 22 v0 rfl rfl)
  have k0 := h0
  have lt0 : ∀ x ∈ p, x.block < W.heap.size := by obtain ⟨m, hm⟩ := k0; exact DataW.trod_lt m _ _ _ hm
  obtain ⟨f0, hf0⟩ := h0
  have hm0 : ∀ n ∈ d0.weights Try.prog 22, n ≤ 140737488351232 := fun n hn => by
    have := List.all_eq_true.1 hsz n (DataW.weights_mem_each (j := 0) (t := 22) (d := d0) rfl rfl n hn)
    exact of_decide_eq_true this
  obtain ⟨la, hla, na, fa, ta⟩ := nodes_inC (v := .slice a0 len0 cap0) (p := p) hf0 hm0
  refine (coreChecks_any dru9_any la na fa ta _ W hla).mono fun e W' ⟨he, bel⟩ => ?_
  subst he
  exact ⟨_, rfl, _, _, _, [], _, [], hW', trodAll_mk1 (shut_bool Try.underlying4 _), (trodAll_mk1 (Below.trod laidOutC (by kernel_rfl) (of_decide_eq_true (by kernel_rfl)) k0 bel lt0)), rfl, bel.frame _, fun h => by cases h⟩

set_option maxRecDepth 100000 in
theorem coreChecks_lifted (os : Os) (started : os.Started) (H : Type) (enc : TypeId × Value → H) :
    ReturnsInHanded {} Try.checked os 3 .any (Rows.coreChecksSpec.pre6 enc Try.prog Try.f3 Rows.coreChecksRow.domain false) (Rows.coreChecksSpec.post enc Try.prog Try.f3 false true false false) := by
  refine returnsInHanded_of_change_sized (C := Try.checked) ownKnobsC started (by kernel_rfl) Try.func3
    (ChangeSpec.witness6 (enc := enc) (C := Try.checked) false ⟨#[], #[.slice none 0 0], []⟩ 8 (by kernel_rfl) (by kernel_rfl) (by kernel_rfl) (by kernel_rfl)) ?_
  intro W base args ds gs before hval hW _ hsz _
  exact coreChecks_contract H enc W base args ds gs before hval hW hsz

theorem coreChecks_said : Rows.CoreChecksSaid :=
  OpenClaim.holds_of_wide 3 Try.f3 rfl rfl rfl rfl rfl rfl rfl ⟨rfl, rfl, rfl, rfl, rfl⟩ rfl rfl rfl rfl rfl (by kernel_rfl) Try.func3 (by kernel_rfl)
    (of_decide_eq_true (by kernel_rfl)) (by unfold Func.isWrapper; first | (rw [if_pos (by decide +kernel)]; kernel_rfl) | (rw [if_neg (by decide +kernel)]; exact ⟨rfl, rfl⟩))
    (fun os started H enc _ => coreChecks_lifted os started H enc)
#print axioms coreChecks_said
end Go.Proofs.Ytnhihajhhlilfaa
