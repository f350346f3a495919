/- A list of sites that is handed in, opened: its sites, and how long its texts may be. -/
import Derived.Test.YteaolcfpdhlohaaDoorLbA
import Derived.Deep.Slices
import Derived.ChangeArms
import Derived.SizedLaws
import Derived.RowKit
import Derived.OpenShut
namespace Go.Proofs.YteaolcfpdhlohaaDoor
open Go.ChangeShapes Go.WideShapes Go.RowKit
set_option maxRecDepth 100000

def fieldsOf (P : Program) (t : TypeId) : List (Nat × Nat) := match P.underlying t with
  | some (.struct fs) => fs.toList.map fun f => (f.type, f.offset)
  | _ => []
theorem siF : fieldsOf Tryd.prog 31 = [(9, 0), (9, 1), (29, 2), (3, 4)] := by kernel_rfl
theorem plF : fieldsOf Tryd.prog 29 = [(3, 0), (3, 1)] := by kernel_rfl
theorem fields_some {P : Program} {t : TypeId} {l : List (Nat × Nat)} {x : Nat × Nat} (h : fieldsOf P t = x :: l) : ∃ fs, P.underlying t = some (.struct fs) ∧ fs.toList.map (fun f => (f.type, f.offset)) = x :: l := by
  unfold fieldsOf at h
  split at h
  · exact ⟨_, by assumption, h⟩
  · simp at h
theorem weights_lit {H : Type} {P : Program} (s : ByteArray) (t : TypeId) : s.size ∈ (DataW.lit (.string s.data.toList) : DataW H).weights P t := by
  unfold DataW.weights
  rw [← str_len s]
  exact List.mem_singleton.2 rfl
theorem weightsAll_mem {H : Type} {P : Program} {e : TypeId} : ∀ {l : List (DataW H)} {d : DataW H}, d ∈ l → ∀ n ∈ d.weights P e, n ∈ DataW.weightsAll P e l
  | [], _, h, _, _ => by simp at h
  | a :: l, d, h, n, hn => by
    rw [DataW.weightsAll, List.mem_append]
    rcases List.mem_cons.1 h with rfl | h
    · exact .inl hn
    · exact .inr (weightsAll_mem h n hn)

section
variable {H : Type} {enc : TypeId × Value → H} {W : World} {base : Nat} {sp : Nat → Bool} {hd : Bool}

set_option maxHeartbeats 2000000 in
theorem site_open {n : Nat} {cs : List Value} {y : DataW H × List MemPlace} (h : DataW.trod enc Tryd.prog W base sp hd n 31 cs = some y) :
    ∃ x : Lb.Si, cs = Lb.scells x ∧ x.m.size ∈ y.1.weights Tryd.prog 31 ∧ x.e.size ∈ y.1.weights Tryd.prog 31 ∧ (-9223372036854775808 ≤ x.ln ∧ x.ln ≤ 9223372036854775807) ∧ (-9223372036854775808 ≤ x.co ∧ x.co ≤ 9223372036854775807) ∧ (-9223372036854775808 ≤ x.ru ∧ x.ru ≤ 9223372036854775807) := by
  obtain ⟨fs, hu, hfs⟩ := fields_some siF
  obtain ⟨xs, k, _, rfl, hlen, hxl, hf⟩ := DataW.trod_struct hu h
  rw [show Tryd.prog.cellsOf 31 = 5 by kernel_rfl] at hlen
  have c3 : Tryd.prog.cellsOf 3 = 1 := by kernel_rfl
  have c9 : Tryd.prog.cellsOf 9 = 1 := by kernel_rfl
  have cp : Tryd.prog.cellsOf 29 = 2 := by kernel_rfl
  have u3 : Tryd.prog.underlying 3 = some (.int .i64) := by kernel_rfl
  have u9 : Tryd.prog.underlying 9 = some .string := by kernel_rfl
  obtain ⟨fl⟩ := fs
  simp only at hfs
  match fl, hfs with
  | [f0, f1, f2, f3], hfs =>
    simp only [List.map_cons, List.map_nil, List.cons.injEq, Prod.mk.injEq, and_true] at hfs
    obtain ⟨⟨t0, o0⟩, ⟨t1, o1⟩, ⟨t2, o2⟩, ⟨t3, o3⟩⟩ := hfs
    match xs, hxl, cs, hlen with
    | [y0, y1, y2, y3], _, [v0, v1, v2, v3, v4], _ =>
      have g0 := hf 0 f0 rfl
      have g1 := hf 1 f1 rfl
      have g2 := hf 2 f2 rfl
      have g3 := hf 3 f3 rfl
      simp only [t0, o0, t1, o1, c9, t2, o2, cp, t3, o3, c3] at g0 g1 g2 g3
      simp only [List.drop_zero, List.drop_succ_cons, List.take_succ_cons, List.take_zero, List.getElem?_cons_zero, List.getElem?_cons_succ, List.take_nil] at g0 g1 g2 g3
      obtain ⟨s0, h0, e0, _⟩ := DataW.trod_string u9 g0
      obtain ⟨s1, h1, e1, _⟩ := DataW.trod_string u9 g1
      obtain ⟨i4, h4, _, b4⟩ := DataW.trod_int u3 g3
      obtain ⟨ps, hup, hps⟩ := fields_some plF
      obtain ⟨zs, k2, _, _, hlen2, hzl, hf2⟩ := DataW.trod_struct hup g2
      obtain ⟨pl⟩ := ps
      simp only at hps
      match pl, hps with
      | [q0, q1], hps =>
        simp only [List.map_cons, List.map_nil, List.cons.injEq, Prod.mk.injEq, and_true] at hps
        obtain ⟨⟨s0, p0⟩, ⟨s1, p1⟩⟩ := hps
        match zs, hzl with
        | [z0, z1], _ =>
          have k0 := hf2 0 q0 rfl
          have k1 := hf2 1 q1 rfl
          simp only [s0, p0, s1, p1, c3, List.drop_zero, List.drop_succ_cons, List.take_succ_cons, List.take_zero, List.getElem?_cons_zero, List.getElem?_cons_succ] at k0 k1
          obtain ⟨i2, h2, _, b2⟩ := DataW.trod_int u3 k0
          obtain ⟨i3, h3, _, b3⟩ := DataW.trod_int u3 k1
          cases h0; cases h1; cases h2; cases h3; cases h4
          have hw : (DataW.agg (List.map (fun x => x.1) [y0, y1, y2, y3])).weights Tryd.prog 31 = DataW.weightsEach Tryd.prog ([f0, f1, f2, f3].map (·.type)) [y0.1, y1.1, y2.1, y3.1] := by
            simp only [DataW.weights, hu]; rfl
          refine ⟨⟨_, _, i2, i3, i4⟩, rfl, ?_, ?_, bounds_i64 b2, bounds_i64 b3, bounds_i64 b4⟩
          all_goals rw [hw]
          · exact DataW.weights_mem_each (j := 0) (t := 9) (d := y0.1) (congrArg some t0) rfl _ (by rw [e0]; exact weights_lit _ _)
          · exact DataW.weights_mem_each (j := 1) (t := 9) (d := y1.1) (congrArg some t1) rfl _ (by rw [e1]; exact weights_lit _ _)

set_option maxHeartbeats 2000000 in
theorem sites_open {fuel : Nat} {v : Value} {d : DataW H} {p : List MemPlace} (h : DataW.trod enc Tryd.prog W base sp hd fuel 22 [v] = some (d, p)) :
    ∃ l : List Lb.Si, IsSites W v l ∧ (∀ x ∈ l, x.m.size ∈ d.weights Tryd.prog 22 ∧ x.e.size ∈ d.weights Tryd.prog 22 ∧ (-9223372036854775808 ≤ x.ln ∧ x.ln ≤ 9223372036854775807) ∧ (-9223372036854775808 ≤ x.co ∧ x.co ≤ 9223372036854775807) ∧ (-9223372036854775808 ≤ x.ru ∧ x.ru ≤ 9223372036854775807)) ∧
      (l = [] ∨ ∃ N, l.length ≤ N ∧ N * 56 ∈ d.weights Tryd.prog 22) := by
  have ce : Tryd.prog.cellsOf 31 = 5 := by kernel_rfl
  have cb : Tryd.prog.bytesOf 31 = 56 := by kernel_rfl
  rcases Go.Deep.open_slice tySites h with ⟨hcs, _⟩ | ⟨a, len, cap, m, n, D, Pl, hcs, hb, hl, hm, hmm, hx, hel⟩
  · cases hcs
    exact ⟨[], .inl ⟨rfl, _, _, rfl⟩, by simp, .inl rfl⟩
  · cases hcs
    have hd := (Prod.mk.inj hx).1
    subst hd
    have hlm : len ≤ m := by rw [hmm]; split <;> omega
    rw [ce] at hel
    obtain ⟨X, hX⟩ := Go.Deep.choose_lt (n := len) (α := Option Lb.Si) (p := fun i o => ∃ x, o = some x ∧ (∀ j, j < 5 → W.cell? ((a.add (i * 5)).add j) = (Lb.scells x)[j]?) ∧ x.m.size ∈ (D i).weights Tryd.prog 31 ∧ x.e.size ∈ (D i).weights Tryd.prog 31 ∧ (-9223372036854775808 ≤ x.ln ∧ x.ln ≤ 9223372036854775807) ∧ (-9223372036854775808 ≤ x.co ∧ x.co ≤ 9223372036854775807) ∧ (-9223372036854775808 ≤ x.ru ∧ x.ru ≤ 9223372036854775807)) (fun i hi => by
      obtain ⟨cs', h1, h2⟩ := hel i (by omega)
      obtain ⟨_, hlen, hcell⟩ := World.cells?_some h1
      obtain ⟨x, rfl, r⟩ := site_open h2
      exact ⟨some x, x, rfl, hcell, r⟩)
    have hw : ∀ i, i < len → ∀ n ∈ (D i).weights Tryd.prog 31, n ∈ (DataW.slice ((List.range len).map D) ((List.range (m - len)).map fun j => D (len + j))).weights Tryd.prog 22 := by
      intro i hi n hn
      simp only [DataW.weights, tySites]
      refine List.mem_cons_of_mem _ (List.mem_append_left _ (weightsAll_mem (d := D i) ?_ n hn))
      exact List.mem_map.2 ⟨i, List.mem_range.2 hi, rfl⟩
    have hget : ∀ j x, ((List.range len).filterMap X)[j]? = some x → j < len ∧ X j = some x := by
      have key : ∀ N, N ≤ len → ((List.range N).filterMap X).length = N ∧ ∀ j x, ((List.range N).filterMap X)[j]? = some x → j < N ∧ X j = some x := by
        intro N
        induction N with
        | zero => intro _; exact ⟨rfl, by simp⟩
        | succ N ih =>
          intro hN
          obtain ⟨e1, e2⟩ := ih (by omega)
          obtain ⟨x, hx, _⟩ := hX N (by omega)
          rw [List.range_succ, List.filterMap_append, show [N].filterMap X = [x] by simp [hx]]
          refine ⟨by simp [e1], fun j y hy => ?_⟩
          by_cases hj : j < N
          · rw [List.getElem?_append_left (by omega)] at hy
            exact ⟨by omega, (e2 j y hy).2⟩
          · have hj2 : j = N := by
              have := (List.getElem?_eq_some_iff.1 hy).1
              simp [e1] at this; omega
            subst hj2
            rw [List.getElem?_append_right (by omega), e1] at hy
            simp at hy
            subst hy
            exact ⟨by omega, hx⟩
      exact (key len (Nat.le_refl _)).2
    have hlen : ((List.range len).filterMap X).length = len := by
      apply Nat.le_antisymm
      · have := List.length_filterMap_le X (List.range len); simpa using this
      · apply Nat.le_of_not_lt
        intro hlt
        have : ∀ N, N ≤ len → ((List.range N).filterMap X).length = N := by
          intro N
          induction N with
          | zero => intro _; rfl
          | succ N ih =>
            intro hN
            obtain ⟨x, hx, _⟩ := hX N (by omega)
            rw [List.range_succ, List.filterMap_append, show [N].filterMap X = [x] by simp [hx]]
            simp [ih (by omega)]
        have := this len (Nat.le_refl _)
        omega
    refine ⟨(List.range len).filterMap X, ?_, ?_, ?_⟩
    · by_cases h0 : len = 0
      · subst h0; exact .inl ⟨rfl, _, _, rfl⟩
      · obtain ⟨b, o, spot⟩ := a
        obtain ⟨x0, _, hc0, _⟩ := hX 0 (by omega)
        have c0 := hc0 0 (by omega)
        have hspot : spot = none := by simpa [Addr.add] using World.cell?_spot c0
        subst hspot
        refine .inr ⟨b, o, cap, by rw [hlen], by rw [hlen]; exact hl, ?_, fun j x hj i u hu => ?_⟩
        · have := World.block_lt_of_cell? W _ c0
          simpa [Addr.add] using this
        · obtain ⟨hjl, hXj⟩ := hget j x hj
          obtain ⟨x', e, hc, _⟩ := hX j hjl
          obtain rfl : x' = x := by rw [hXj] at e; exact (Option.some.inj e).symm
          have hi5 : i < 5 := by have := (List.getElem?_eq_some_iff.1 hu).1; simpa [Lb.scells] using this
          have := hc i hi5
          rw [hu, add_plain, add_plain] at this
          exact this
    · intro x hx
      obtain ⟨j, hj⟩ := List.getElem?_of_mem hx
      obtain ⟨hjl, hXj⟩ := hget j x hj
      obtain ⟨x', e, _, r1, r2, r3, r4, r5⟩ := hX j hjl
      obtain rfl : x' = x := by rw [hXj] at e; exact (Option.some.inj e).symm
      exact ⟨hw j hjl _ r1, hw j hjl _ r2, r3, r4, r5⟩
    · refine .inr ⟨m, by rw [hlen]; exact hlm, ?_⟩
      simp only [DataW.weights, tySites, cb]
      refine List.mem_cons.2 (.inl ?_)
      simp; omega
end
end Go.Proofs.YteaolcfpdhlohaaDoor
