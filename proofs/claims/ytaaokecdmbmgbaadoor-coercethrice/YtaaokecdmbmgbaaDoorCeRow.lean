/- A list of nodes of coercions that is handed in, opened. -/
import Derived.Test.YtaaokecdmbmgbaaDoorCcP
import Derived.Deep.Slices
import Derived.ChangeArms
import Derived.SizedLaws
import Derived.RowKit
import Derived.OpenShut
namespace Go.Proofs.YtaaokecdmbmgbaaDoor
open Go.ChangeShapes Go.WideShapes Go.RowKit Cc
set_option maxRecDepth 100000
set_option linter.unusedVariables false

def fieldsOf (P : Program) (t : TypeId) : List (Nat × Nat) := match P.underlying t with
  | some (.struct fs) => fs.toList.map fun f => (f.type, f.offset)
  | _ => []
theorem coF : fieldsOf Tryd.prog 29 = [(27, 0), (2, 1), (4, 2), (5, 3), (2, 4), (5, 5), (5, 6)] := by kernel_rfl
theorem fields_some {P : Program} {t : TypeId} {l : List (Nat × Nat)} {x : Nat × Nat} (h : fieldsOf P t = x :: l) : ∃ fs, P.underlying t = some (.struct fs) ∧ fs.toList.map (fun f => (f.type, f.offset)) = x :: l := by
  unfold fieldsOf at h
  split at h
  · exact ⟨_, by assumption, h⟩
  · simp at h
section
variable {H : Type} {enc : TypeId × Value → H} {W : World} {base : Nat} {sp : Nat → Bool} {hd : Bool}

/-- A node whose letters are bytes. -/
def Cc.Byt (x : N) : Prop := (0 ≤ x.head ∧ x.head ≤ 255) ∧ (0 ≤ x.frm ∧ x.frm ≤ 255) ∧ (0 ≤ x.tto ∧ x.tto ≤ 255)
set_option maxHeartbeats 2000000 in
theorem co_open {n : Nat} {cs : List Value} {y : DataW H × List MemPlace} (h : DataW.trod enc Tryd.prog W base sp hd n 29 cs = some y) :
    ∃ x : N, cs = ncell x ∧ Byt x := by
  obtain ⟨fs, hu, hfs⟩ := fields_some coF
  obtain ⟨xs, k, _, rfl, hlen, hxl, hf⟩ := DataW.trod_struct hu h
  rw [show Tryd.prog.cellsOf 29 = 7 by kernel_rfl] at hlen
  have c8 : Tryd.prog.cellsOf 27 = 1 := by kernel_rfl
  have c2 : Tryd.prog.cellsOf 2 = 1 := by kernel_rfl
  have c4 : Tryd.prog.cellsOf 4 = 1 := by kernel_rfl
  have c5 : Tryd.prog.cellsOf 5 = 1 := by kernel_rfl
  have u8 : Tryd.prog.underlying 27 = some (.int .i8) := by kernel_rfl
  have u2 : Tryd.prog.underlying 2 = some (.int .i64) := by kernel_rfl
  have u4 : Tryd.prog.underlying 4 = some .bool := by kernel_rfl
  have u5 : Tryd.prog.underlying 5 = some (.int .u8) := by kernel_rfl
  obtain ⟨fl⟩ := fs
  simp only at hfs
  match fl, hfs with
  | [f0, f1, f2, f3, f4, f5, f6], hfs =>
    simp only [List.map_cons, List.map_nil, List.cons.injEq, Prod.mk.injEq, and_true] at hfs
    obtain ⟨⟨t0, o0⟩, ⟨t1, o1⟩, ⟨t2, o2⟩, ⟨t3, o3⟩, ⟨t4, o4⟩, ⟨t5, o5⟩, ⟨t6, o6⟩⟩ := hfs
    match xs, hxl, cs, hlen with
    | [y0, y1, y2, y3, y4, y5, y6], _, [v0, v1, v2, v3, v4, v5, v6], _ =>
      have g0 := hf 0 f0 rfl
      have g1 := hf 1 f1 rfl
      have g2 := hf 2 f2 rfl
      have g3 := hf 3 f3 rfl
      have g4 := hf 4 f4 rfl
      have g5 := hf 5 f5 rfl
      have g6 := hf 6 f6 rfl
      simp only [t0, o0, c8, t1, o1, c2, t2, o2, c4, t3, o3, c5, t4, o4, t5, o5, t6, o6] at g0 g1 g2 g3 g4 g5 g6
      simp only [List.drop_zero, List.drop_succ_cons, List.take_succ_cons, List.take_zero, List.getElem?_cons_zero, List.getElem?_cons_succ, List.take_nil] at g0 g1 g2 g3 g4 g5 g6
      obtain ⟨i0, h0, _, _⟩ := DataW.trod_int u8 g0
      obtain ⟨i1, h1, _, w1⟩ := DataW.trod_int u2 g1
      obtain ⟨b2, h2, _⟩ := DataW.trod_bool u4 g2
      obtain ⟨i3, h3, _, w3⟩ := DataW.trod_int u5 g3
      obtain ⟨i4, h4, _, w4⟩ := DataW.trod_int u2 g4
      obtain ⟨i5, h5, _, w5⟩ := DataW.trod_int u5 g5
      obtain ⟨i6, h6, _, w6⟩ := DataW.trod_int u5 g6
      cases h0; cases h1; cases h2; cases h3; cases h4; cases h5; cases h6
      exact ⟨⟨i0, i1, b2, i3, i4, i5, i6⟩, rfl, bounds_u8 w3, bounds_u8 w5, bounds_u8 w6⟩

set_option maxHeartbeats 2000000 in
theorem cos_open {fuel : Nat} {v : Value} {d : DataW H} {p : List MemPlace} (h : DataW.trod enc Tryd.prog W base sp hd fuel 22 [v] = some (d, p)) :
    ∃ l : List N, IsCos W v l ∧ (∀ x ∈ l, Byt x) ∧ (l = [] ∨ ∃ N, l.length ≤ N ∧ N * 40 ∈ d.weights Tryd.prog 22) := by
  have ce : Tryd.prog.cellsOf 29 = 7 := by kernel_rfl
  have cb : Tryd.prog.bytesOf 29 = 40 := by kernel_rfl
  rcases Go.Deep.open_slice tyCos h with ⟨hcs, _⟩ | ⟨a, len, cap, m, n, D, Pl, hcs, hb, hl, hm, hmm, hx, hel⟩
  · cases hcs
    exact ⟨[], .inl ⟨rfl, _, _, rfl⟩, by simp, .inl rfl⟩
  · cases hcs
    have hd := (Prod.mk.inj hx).1
    subst hd
    have hlm : len ≤ m := by rw [hmm]; split <;> omega
    rw [ce] at hel
    obtain ⟨X, hX⟩ := Go.Deep.choose_lt (n := len) (α := Option N) (p := fun i o => ∃ x, o = some x ∧ (∀ j, j < 7 → W.cell? ((a.add (i * 7)).add j) = (ncell x)[j]?) ∧ Byt x) (fun i hi => by
      obtain ⟨cs', h1, h2⟩ := hel i (by omega)
      obtain ⟨_, hlen, hcell⟩ := World.cells?_some h1
      obtain ⟨x, rfl, r⟩ := co_open h2
      exact ⟨some x, x, rfl, hcell, r⟩)
    have hget : ∀ j x, ((List.range len).filterMap X)[j]? = some x → j < len ∧ X j = some x := by
      have key : ∀ N, N ≤ len → ((List.range N).filterMap X).length = N ∧ ∀ j x, ((List.range N).filterMap X)[j]? = some x → j < N ∧ X j = some x := by
        intro N
        induction N with
        | zero => intro _; exact ⟨rfl, by simp⟩
        | succ N ih =>
          intro hN
          obtain ⟨e1, e2⟩ := ih (by omega)
          obtain ⟨x, hx, _⟩ := hX N (by omega)
          rw [List.range_succ, List.filterMap_append, show [N].filterMap X = [x] by simp [hx]]
          refine ⟨by simp [e1], fun j y hy => ?_⟩
          by_cases hj : j < N
          · rw [List.getElem?_append_left (by omega)] at hy
            exact ⟨by omega, (e2 j y hy).2⟩
          · have hj2 : j = N := by
              have := (List.getElem?_eq_some_iff.1 hy).1
              simp [e1] at this; omega
            subst hj2
            rw [List.getElem?_append_right (by omega), e1] at hy
            simp at hy
            subst hy
            exact ⟨by omega, hx⟩
      exact (key len (Nat.le_refl _)).2
    have hlen : ((List.range len).filterMap X).length = len := by
      apply Nat.le_antisymm
      · have := List.length_filterMap_le X (List.range len); simpa using this
      · apply Nat.le_of_not_lt
        intro hlt
        have : ∀ N, N ≤ len → ((List.range N).filterMap X).length = N := by
          intro N
          induction N with
          | zero => intro _; rfl
          | succ N ih =>
            intro hN
            obtain ⟨x, hx, _⟩ := hX N (by omega)
            rw [List.range_succ, List.filterMap_append, show [N].filterMap X = [x] by simp [hx]]
            simp [ih (by omega)]
        have := this len (Nat.le_refl _)
        omega
    refine ⟨(List.range len).filterMap X, ?_, ?_, ?_⟩
    · by_cases h0 : len = 0
      · subst h0; exact .inl ⟨rfl, _, _, rfl⟩
      · obtain ⟨b, o, spot⟩ := a
        obtain ⟨x0, _, hc0, _⟩ := hX 0 (by omega)
        have c0 := hc0 0 (by omega)
        have hspot : spot = none := by simpa [Addr.add] using World.cell?_spot c0
        subst hspot
        refine .inr ⟨b, o, cap, by rw [hlen], by rw [hlen]; exact hl, ?_, ?_⟩
        · have key : ∀ (l : List N) (o' : Nat), (∀ k x, l[k]? = some x → ∀ j, j < 7 → W.cell? ⟨b, o' + k * 7 + j, none⟩ = (ncell x)[j]?) → At W b o' l := by
            intro l
            induction l with
            | nil => intro _ _; trivial
            | cons x r ih =>
              intro o' hk
              have hx := hk 0 x rfl
              simp only [Nat.zero_mul, Nat.add_zero] at hx
              refine ⟨⟨hx 0 (by omega), hx 1 (by omega), hx 2 (by omega), hx 3 (by omega), hx 4 (by omega), hx 5 (by omega), hx 6 (by omega)⟩, ih _ fun k y hy j hj => ?_⟩
              have := hk (k + 1) y (by simpa using hy) j hj
              rwa [show o' + (k + 1) * 7 + j = o' + 7 + k * 7 + j by omega] at this
          refine key _ _ fun k x hk j hj => ?_
          obtain ⟨hjl, hXj⟩ := hget k x hk
          obtain ⟨x', e, hc, _⟩ := hX k hjl
          rw [hXj] at e
          cases e
          have := hc j hj
          have ea : ((⟨b, o, none⟩ : Addr).add (k * 7)).add j = ⟨b, o + k * 7 + j, none⟩ := by
            unfold Addr.add
            by_cases hk0 : k * 7 = 0 <;> by_cases hj0 : j = 0 <;> simp [hk0, hj0]
          rwa [ea] at this
        · have := World.block_lt_of_cell? W _ c0
          simpa [Addr.add] using this
    · intro x hx
      obtain ⟨k, hk⟩ := List.getElem?_of_mem hx
      obtain ⟨hjl, hXj⟩ := hget k x hk
      obtain ⟨x', e, _, hB⟩ := hX k hjl
      rw [hXj] at e
      cases e
      exact hB
    · right
      refine ⟨m, by rw [hlen]; exact hlm, ?_⟩
      simp only [DataW.weights, tyCos, cb]
      refine List.mem_cons.2 (.inl ?_)
      simp; omega
end
end Go.Proofs.YtaaokecdmbmgbaaDoor
