/- A list of modules that is handed in, opened: its modules, and how long its parts and texts may be. -/
import Derived.Test.YtkcehgpcimlamabGreatDoorMdD
import Derived.Test.YtkcehgpcimlamabGreatDoorNRow
namespace Go.Proofs.YtkcehgpcimlamabGreatDoor
open Go.ChangeShapes Go.WideShapes Go.RowKit
set_option maxRecDepth 100000

section
variable {H : Type} {enc : TypeId × Value → H} {W : World} {base : Nat} {sp : Nat → Bool} {hd : Bool}

theorem row_open {α : Type} {n e ty : Nat} (hty : Tryz.prog.underlying ty = some (.slice e)) (hn : Tryz.prog.cellsOf e = n) (hn0 : 0 < n) (R : World → α → List Value → Prop) (hRn : ∀ x cs, R W x cs → cs.length = n) (Q : α → List Nat → Prop)
    (hQ : ∀ x ws ws', (∀ k ∈ ws, k ∈ ws') → Q x ws → Q x ws') (helm : ∀ m cs y, DataW.trod enc Tryz.prog W base sp hd m e cs = some y → ∃ x, R W x cs ∧ Q x (y.1.weights Tryz.prog e))
    {fuel : Nat} {v : Value} {d : DataW H} {p : List MemPlace} (h : DataW.trod enc Tryz.prog W base sp hd fuel ty [v] = some (d, p)) :
    ∃ l : List α, RowOf n R W v l ∧ (∀ x ∈ l, Q x (d.weights Tryz.prog ty)) ∧ (l = [] ∨ ∃ N, l.length ≤ N ∧ N * Tryz.prog.bytesOf e ∈ d.weights Tryz.prog ty) := by
  rcases Go.Deep.open_slice hty h with ⟨hcs, _⟩ | ⟨a, len, cap, m, k, D, Pl, hcs, hb, hl, hm, hmm, hx, hel⟩
  · cases hcs
    exact ⟨[], .inl ⟨rfl, _, _, rfl⟩, by simp, .inl rfl⟩
  · cases hcs
    have hd' := (Prod.mk.inj hx).1
    subst hd'
    have hlm : len ≤ m := by rw [hmm]; split <;> omega
    rw [hn] at hel
    obtain ⟨X, hX⟩ := Go.Deep.choose_lt (n := len) (α := Option (α × List Value)) (p := fun i o => ∃ x cs, o = some (x, cs) ∧ R W x cs ∧ (∀ j, j < n → W.cell? ((a.add (i * n)).add j) = cs[j]?) ∧ Q x ((D i).weights Tryz.prog e)) (fun i hi => by
      obtain ⟨cs', h1, h2⟩ := hel i (by omega)
      obtain ⟨_, hlen, hcell⟩ := World.cells?_some h1
      obtain ⟨x, r1, r2⟩ := helm _ _ _ h2
      exact ⟨some (x, cs'), x, cs', rfl, r1, hcell, r2⟩)
    have hw : ∀ i, i < len → ∀ k ∈ (D i).weights Tryz.prog e, k ∈ (DataW.slice ((List.range len).map D) ((List.range (m - len)).map fun j => D (len + j))).weights Tryz.prog ty := by
      intro i hi k hk
      simp only [DataW.weights, hty]
      refine List.mem_cons_of_mem _ (List.mem_append_left _ (weightsAll_mem (d := D i) ?_ k hk))
      exact List.mem_map.2 ⟨i, List.mem_range.2 hi, rfl⟩
    have key : ∀ N, N ≤ len → ((List.range N).filterMap X).length = N ∧ ∀ j x, ((List.range N).filterMap X)[j]? = some x → j < N ∧ X j = some x := by
      intro N
      induction N with
      | zero => intro _; exact ⟨rfl, by simp⟩
      | succ N ih =>
        intro hN
        obtain ⟨e1, e2⟩ := ih (by omega)
        obtain ⟨x, cs, hx, _⟩ := hX N (by omega)
        rw [List.range_succ, List.filterMap_append, show [N].filterMap X = [(x, cs)] by simp [hx]]
        refine ⟨by simp [e1], fun j y hy => ?_⟩
        by_cases hj : j < N
        · rw [List.getElem?_append_left (by omega)] at hy
          exact ⟨by omega, (e2 j y hy).2⟩
        · have hj2 : j = N := by
            have := (List.getElem?_eq_some_iff.1 hy).1
            simp [e1] at this; omega
          subst hj2
          rw [List.getElem?_append_right (by omega), e1] at hy
          simp at hy
          subst hy
          exact ⟨by omega, hx⟩
    obtain ⟨hlen, hget⟩ := key len (Nat.le_refl _)
    have hlen2 : (((List.range len).filterMap X).map Prod.fst).length = len := by simp [hlen]
    have hget2 : ∀ j x, (((List.range len).filterMap X).map Prod.fst)[j]? = some x → j < len ∧ ∃ cs, X j = some (x, cs) := fun j x hj => by
      rw [List.getElem?_map] at hj
      cases hq : ((List.range len).filterMap X)[j]? with
      | none => rw [hq] at hj; cases hj
      | some y =>
        rw [hq] at hj
        cases hj
        obtain ⟨q1, q2⟩ := hget j y hq
        exact ⟨q1, y.2, q2⟩
    refine ⟨((List.range len).filterMap X).map Prod.fst, ?_, ?_, ?_⟩
    · by_cases h0 : len = 0
      · subst h0; exact .inl ⟨rfl, _, _, rfl⟩
      · obtain ⟨b, o, spot⟩ := a
        obtain ⟨x0, cs0, _, hr0, hc0, _⟩ := hX 0 (by omega)
        have c0 := hc0 0 hn0
        have hl0 := hRn _ _ hr0
        rw [List.getElem?_eq_getElem (by omega)] at c0
        have hspot : spot = none := by simpa [Addr.add] using World.cell?_spot c0
        subst hspot
        refine .inr ⟨b, o, cap, by rw [hlen2], by rw [hlen2]; exact hl, ?_, fun j x hj => ?_⟩
        · have := World.block_lt_of_cell? W _ c0
          simpa [Addr.add] using this
        · obtain ⟨hjl, cs, hXj⟩ := hget2 j x hj
          obtain ⟨x', cs', e, hr, hc, _⟩ := hX j hjl
          rw [hXj] at e
          cases e
          refine ⟨cs, hr, fun i u hu => ?_⟩
          have hi : i < n := by have := (List.getElem?_eq_some_iff.1 hu).1; rw [hRn _ _ hr] at this; exact this
          have := hc i hi
          rw [hu, add_plain, add_plain] at this
          exact this
    · intro x hx
      obtain ⟨j, hj⟩ := List.getElem?_of_mem hx
      obtain ⟨hjl, cs, hXj⟩ := hget2 j x hj
      obtain ⟨x', cs', e, _, _, r⟩ := hX j hjl
      rw [hXj] at e
      cases e
      exact hQ _ _ _ (hw j hjl) r
    · refine .inr ⟨m, by rw [hlen2]; exact hlm, ?_⟩
      simp only [DataW.weights, hty]
      refine List.mem_cons.2 (.inl ?_)
      have hmm2 : len + (m - len) = m := by omega
      simp [hmm2]

def Qim (x : Im) (ws : List Nat) : Prop := (x.frm.size ≤ maxLen ∧ x.name.size ≤ maxLen ∧ x.t.size ≤ maxLen) ∧ x.frm.size ∈ ws ∧ x.name.size ∈ ws ∧ x.t.size ∈ ws
def Qdf (x : Df) (ws : List Nat) : Prop := (x.name.size ≤ maxLen ∧ x.t.size ≤ maxLen) ∧ x.name.size ∈ ws ∧ x.t.size ∈ ws ∧ (∀ y ∈ x.tree, y.kids ≤ 9223372036854775807 ∧ y.s.size ≤ maxLen ∧ y.s.size ∈ ws ∧ y.t.size ∈ ws ∧ y.u.size ∈ ws) ∧ (x.tree = [] ∨ ∃ N, x.tree.length ≤ N ∧ N * 88 ∈ ws)
def Qmd (x : Md) (ws : List Nat) : Prop := x.name.size ≤ maxLen ∧ x.name.size ∈ ws ∧ (∀ y ∈ x.imps, Qim y ws) ∧ (x.imps = [] ∨ ∃ N, x.imps.length ≤ N ∧ N * 64 ∈ ws) ∧ (∀ y ∈ x.defs, Qdf y ws) ∧ (x.defs = [] ∨ ∃ N, x.defs.length ≤ N ∧ N * 80 ∈ ws)
theorem or_mono {l : Nat} {A : Prop} {c : Nat} {ws ws' : List Nat} (h : ∀ k ∈ ws, k ∈ ws') (q : A ∨ ∃ N, l ≤ N ∧ N * c ∈ ws) : A ∨ ∃ N, l ≤ N ∧ N * c ∈ ws' := by
  rcases q with q | ⟨N, a, b⟩
  · exact .inl q
  · exact .inr ⟨N, a, h _ b⟩
theorem Qim.mono (x : Im) (ws ws' : List Nat) (h : ∀ k ∈ ws, k ∈ ws') (q : Qim x ws) : Qim x ws' := ⟨q.1, h _ q.2.1, h _ q.2.2.1, h _ q.2.2.2⟩
theorem Qdf.mono (x : Df) (ws ws' : List Nat) (h : ∀ k ∈ ws, k ∈ ws') (q : Qdf x ws) : Qdf x ws' := by
  obtain ⟨a, b, c, d, e⟩ := q
  exact ⟨a, h _ b, h _ c, fun y hy => by obtain ⟨p, q, r, s, t⟩ := d y hy; exact ⟨p, q, h _ r, h _ s, h _ t⟩, or_mono h e⟩
theorem Qmd.mono (x : Md) (ws ws' : List Nat) (h : ∀ k ∈ ws, k ∈ ws') (q : Qmd x ws) : Qmd x ws' := by
  obtain ⟨a, b, c, d, e, f⟩ := q
  exact ⟨a, h _ b, fun y hy => (c y hy).mono _ _ _ h, or_mono h d, fun y hy => (e y hy).mono _ _ _ h, or_mono h f⟩

theorem imF : fieldsOf Tryz.prog 52 = [(9, 0), (9, 1), (9, 2), (32, 3)] := by kernel_rfl
theorem dfF : fieldsOf Tryz.prog 54 = [(9, 0), (4, 1), (9, 2), (35, 3), (32, 4)] := by kernel_rfl
theorem mdF : fieldsOf Tryz.prog 50 = [(9, 0), (47, 1), (48, 2), (32, 3)] := by kernel_rfl
theorem c1s : Tryz.prog.cellsOf 3 = 1 ∧ Tryz.prog.cellsOf 9 = 1 ∧ Tryz.prog.cellsOf 4 = 1 ∧ Tryz.prog.cellsOf 32 = 2 ∧ Tryz.prog.cellsOf 35 = 1 ∧ Tryz.prog.cellsOf 47 = 1 ∧ Tryz.prog.cellsOf 48 = 1 := by refine ⟨?_, ?_, ?_, ?_, ?_, ?_, ?_⟩ <;> kernel_rfl

theorem place_open {n : Nat} {a b : Value} {y : DataW H × List MemPlace} (h : DataW.trod enc Tryz.prog W base sp hd n 32 [a, b] = some y) : ∃ i j, a = .int .i64 i ∧ b = .int .i64 j := by
  obtain ⟨c3, _⟩ := c1s
  have u3 : Tryz.prog.underlying 3 = some (.int .i64) := by kernel_rfl
  obtain ⟨ps, hup, hps⟩ := fields_some plF
  obtain ⟨zs, k2, _, _, hlen2, hzl, hf2⟩ := DataW.trod_struct hup h
  obtain ⟨pl⟩ := ps
  simp only at hps
  match pl, hps with
  | [q0, q1], hps =>
    simp only [List.map_cons, List.map_nil, List.cons.injEq, Prod.mk.injEq, and_true] at hps
    obtain ⟨⟨s0, p0⟩, ⟨s1, p1⟩⟩ := hps
    match zs, hzl with
    | [z0, z1], _ =>
      have k0 := hf2 0 q0 rfl
      have k1 := hf2 1 q1 rfl
      simp only [s0, p0, s1, p1, c3, List.drop_zero, List.drop_succ_cons, List.take_succ_cons, List.take_zero, List.getElem?_cons_zero, List.getElem?_cons_succ] at k0 k1
      obtain ⟨i6, h6, _, _⟩ := DataW.trod_int u3 k0
      obtain ⟨i7, h7, _, _⟩ := DataW.trod_int u3 k1
      cases h6; cases h7
      exact ⟨i6, i7, rfl, rfl⟩

set_option maxHeartbeats 2000000 in
theorem im_open {n : Nat} {cs : List Value} {y : DataW H × List MemPlace} (h : DataW.trod enc Tryz.prog W base sp hd n 52 cs = some y) : ∃ x : Im, IsIm W x cs ∧ Qim x (y.1.weights Tryz.prog 52) := by
  obtain ⟨fs, hu, hfs⟩ := fields_some imF
  obtain ⟨xs, k, _, rfl, hlen, hxl, hf⟩ := DataW.trod_struct hu h
  rw [show Tryz.prog.cellsOf 52 = 5 by kernel_rfl] at hlen
  obtain ⟨_, c9, _, cp, _⟩ := c1s
  have u9 : Tryz.prog.underlying 9 = some .string := by kernel_rfl
  obtain ⟨fl⟩ := fs
  simp only at hfs
  match fl, hfs with
  | [f0, f1, f2, f3], hfs =>
    simp only [List.map_cons, List.map_nil, List.cons.injEq, Prod.mk.injEq, and_true] at hfs
    obtain ⟨⟨t0, o0⟩, ⟨t1, o1⟩, ⟨t2, o2⟩, ⟨t3, o3⟩⟩ := hfs
    match xs, hxl, cs, hlen with
    | [y0, y1, y2, y3], _, [v0, v1, v2, v3, v4], _ =>
      have g0 := hf 0 f0 rfl
      have g1 := hf 1 f1 rfl
      have g2 := hf 2 f2 rfl
      have g3 := hf 3 f3 rfl
      simp only [t0, o0, t1, o1, t2, o2, t3, o3, c9, cp] at g0 g1 g2 g3
      simp only [List.drop_zero, List.drop_succ_cons, List.take_succ_cons, List.take_zero, List.getElem?_cons_zero, List.getElem?_cons_succ, List.take_nil] at g0 g1 g2 g3
      obtain ⟨s0, h0, e0, w0⟩ := DataW.trod_string u9 g0
      obtain ⟨s1, h1, e1, w1⟩ := DataW.trod_string u9 g1
      obtain ⟨s2, h2, e2, w2⟩ := DataW.trod_string u9 g2
      obtain ⟨i, j, rfl, rfl⟩ := place_open g3
      cases h0; cases h1; cases h2
      have hw : (DataW.agg (List.map (fun x => x.1) [y0, y1, y2, y3])).weights Tryz.prog 52 = DataW.weightsEach Tryz.prog ([f0, f1, f2, f3].map (·.type)) [y0.1, y1.1, y2.1, y3.1] := by
        simp only [DataW.weights, hu]; rfl
      refine ⟨⟨s0, s1, s2, i, j⟩, rfl, ⟨w0, w1, w2⟩, ?_, ?_, ?_⟩
      all_goals rw [hw]
      · exact DataW.weights_mem_each (j := 0) (t := 9) (d := y0.1) (congrArg some t0) rfl _ (by rw [e0]; exact weights_lit s0 _)
      · exact DataW.weights_mem_each (j := 1) (t := 9) (d := y1.1) (congrArg some t1) rfl _ (by rw [e1]; exact weights_lit s1 _)
      · exact DataW.weights_mem_each (j := 2) (t := 9) (d := y2.1) (congrArg some t2) rfl _ (by rw [e2]; exact weights_lit s2 _)

set_option maxHeartbeats 2000000 in
theorem df_open {n : Nat} {cs : List Value} {y : DataW H × List MemPlace} (h : DataW.trod enc Tryz.prog W base sp hd n 54 cs = some y) : ∃ x : Df, IsDf W x cs ∧ Qdf x (y.1.weights Tryz.prog 54) := by
  obtain ⟨fs, hu, hfs⟩ := fields_some dfF
  obtain ⟨xs, k, _, rfl, hlen, hxl, hf⟩ := DataW.trod_struct hu h
  rw [show Tryz.prog.cellsOf 54 = 6 by kernel_rfl] at hlen
  obtain ⟨_, c9, c4, cp, cn, _⟩ := c1s
  have u9 : Tryz.prog.underlying 9 = some .string := by kernel_rfl
  have u4 : Tryz.prog.underlying 4 = some .bool := by kernel_rfl
  obtain ⟨fl⟩ := fs
  simp only at hfs
  match fl, hfs with
  | [f0, f1, f2, f3, f4], hfs =>
    simp only [List.map_cons, List.map_nil, List.cons.injEq, Prod.mk.injEq, and_true] at hfs
    obtain ⟨⟨t0, o0⟩, ⟨t1, o1⟩, ⟨t2, o2⟩, ⟨t3, o3⟩, ⟨t4, o4⟩⟩ := hfs
    match xs, hxl, cs, hlen with
    | [y0, y1, y2, y3, y4], _, [v0, v1, v2, v3, v4, v5], _ =>
      have g0 := hf 0 f0 rfl
      have g1 := hf 1 f1 rfl
      have g2 := hf 2 f2 rfl
      have g3 := hf 3 f3 rfl
      have g4 := hf 4 f4 rfl
      simp only [t0, o0, t1, o1, t2, o2, t3, o3, t4, o4, c9, cp, c4, cn] at g0 g1 g2 g3 g4
      simp only [List.drop_zero, List.drop_succ_cons, List.take_succ_cons, List.take_zero, List.getElem?_cons_zero, List.getElem?_cons_succ, List.take_nil] at g0 g1 g2 g3 g4
      obtain ⟨s0, h0, e0, w0⟩ := DataW.trod_string u9 g0
      obtain ⟨b1, h1, _⟩ := DataW.trod_bool u4 g1
      obtain ⟨s2, h2, e2, w2⟩ := DataW.trod_string u9 g2
      obtain ⟨l, hl, hx, hN⟩ := nodes_open (d := y3.1) (p := y3.2) g3
      obtain ⟨i, j, rfl, rfl⟩ := place_open g4
      cases h0; cases h1; cases h2
      have hw : (DataW.agg (List.map (fun x => x.1) [y0, y1, y2, y3, y4])).weights Tryz.prog 54 = DataW.weightsEach Tryz.prog ([f0, f1, f2, f3, f4].map (·.type)) [y0.1, y1.1, y2.1, y3.1, y4.1] := by
        simp only [DataW.weights, hu]; rfl
      have h3w : ∀ k ∈ y3.1.weights Tryz.prog 35, k ∈ DataW.weightsEach Tryz.prog ([f0, f1, f2, f3, f4].map (·.type)) [y0.1, y1.1, y2.1, y3.1, y4.1] := fun k hk => DataW.weights_mem_each (j := 3) (t := 35) (d := y3.1) (congrArg some t3) rfl _ hk
      refine ⟨⟨s0, b1, s2, l, i, j⟩, ⟨v3, rfl, hl⟩, ⟨w0, w2⟩, ?_, ?_, fun y hy => ?_, ?_⟩
      all_goals rw [hw]
      · exact DataW.weights_mem_each (j := 0) (t := 9) (d := y0.1) (congrArg some t0) rfl _ (by rw [e0]; exact weights_lit s0 _)
      · exact DataW.weights_mem_each (j := 2) (t := 9) (d := y2.1) (congrArg some t2) rfl _ (by rw [e2]; exact weights_lit s2 _)
      · obtain ⟨p, q, r, s, t⟩ := hx y hy
        exact ⟨p, q, h3w _ r, h3w _ s, h3w _ t⟩
      · exact or_mono h3w hN

set_option maxHeartbeats 2000000 in
theorem md_open {n : Nat} {cs : List Value} {y : DataW H × List MemPlace} (h : DataW.trod enc Tryz.prog W base sp hd n 50 cs = some y) : ∃ x : Md, IsMd W x cs ∧ Qmd x (y.1.weights Tryz.prog 50) := by
  obtain ⟨fs, hu, hfs⟩ := fields_some mdF
  obtain ⟨xs, k, _, rfl, hlen, hxl, hf⟩ := DataW.trod_struct hu h
  rw [show Tryz.prog.cellsOf 50 = 5 by kernel_rfl] at hlen
  obtain ⟨_, c9, _, cp, _, ci, cd⟩ := c1s
  have u9 : Tryz.prog.underlying 9 = some .string := by kernel_rfl
  obtain ⟨fl⟩ := fs
  simp only at hfs
  match fl, hfs with
  | [f0, f1, f2, f3], hfs =>
    simp only [List.map_cons, List.map_nil, List.cons.injEq, Prod.mk.injEq, and_true] at hfs
    obtain ⟨⟨t0, o0⟩, ⟨t1, o1⟩, ⟨t2, o2⟩, ⟨t3, o3⟩⟩ := hfs
    match xs, hxl, cs, hlen with
    | [y0, y1, y2, y3], _, [v0, v1, v2, v3, v4], _ =>
      have g0 := hf 0 f0 rfl
      have g1 := hf 1 f1 rfl
      have g2 := hf 2 f2 rfl
      have g3 := hf 3 f3 rfl
      simp only [t0, o0, t1, o1, t2, o2, t3, o3, c9, cp, ci, cd] at g0 g1 g2 g3
      simp only [List.drop_zero, List.drop_succ_cons, List.take_succ_cons, List.take_zero, List.getElem?_cons_zero, List.getElem?_cons_succ, List.take_nil] at g0 g1 g2 g3
      obtain ⟨s0, h0, e0, w0⟩ := DataW.trod_string u9 g0
      obtain ⟨li, hli, hxi, hNi⟩ := row_open tyImps (n := 5) (by kernel_rfl) (by decide) IsIm (fun x cs r => by rw [r]; rfl) Qim Qim.mono (fun m cs y h => im_open h) (d := y1.1) (p := y1.2) g1
      obtain ⟨ld, hld, hxd, hNd⟩ := row_open tyDefs (n := 6) (by kernel_rfl) (by decide) IsDf (fun x cs ⟨_, r, _⟩ => by rw [r]; rfl) Qdf Qdf.mono (fun m cs y h => df_open h) (d := y2.1) (p := y2.2) g2
      obtain ⟨i, j, rfl, rfl⟩ := place_open g3
      cases h0
      have hw : (DataW.agg (List.map (fun x => x.1) [y0, y1, y2, y3])).weights Tryz.prog 50 = DataW.weightsEach Tryz.prog ([f0, f1, f2, f3].map (·.type)) [y0.1, y1.1, y2.1, y3.1] := by
        simp only [DataW.weights, hu]; rfl
      have h1w : ∀ k ∈ y1.1.weights Tryz.prog 47, k ∈ DataW.weightsEach Tryz.prog ([f0, f1, f2, f3].map (·.type)) [y0.1, y1.1, y2.1, y3.1] := fun k hk => DataW.weights_mem_each (j := 1) (t := 47) (d := y1.1) (congrArg some t1) rfl _ hk
      have h2w : ∀ k ∈ y2.1.weights Tryz.prog 48, k ∈ DataW.weightsEach Tryz.prog ([f0, f1, f2, f3].map (·.type)) [y0.1, y1.1, y2.1, y3.1] := fun k hk => DataW.weights_mem_each (j := 2) (t := 48) (d := y2.1) (congrArg some t2) rfl _ hk
      have bi : Tryz.prog.bytesOf 52 = 64 := by kernel_rfl
      have bd : Tryz.prog.bytesOf 54 = 80 := by kernel_rfl
      rw [bi] at hNi
      rw [bd] at hNd
      refine ⟨⟨s0, li, ld, i, j⟩, ⟨v1, v2, rfl, hli, hld⟩, w0, ?_, fun y hy => ?_, ?_, fun y hy => ?_, ?_⟩
      all_goals rw [hw]
      · exact DataW.weights_mem_each (j := 0) (t := 9) (d := y0.1) (congrArg some t0) rfl _ (by rw [e0]; exact weights_lit s0 _)
      · exact (hxi y hy).mono _ _ _ h1w
      · exact or_mono h1w hNi
      · exact (hxd y hy).mono _ _ _ h2w
      · exact or_mono h2w hNd
/-- A list of modules, opened. -/
theorem mods_open {fuel : Nat} {v : Value} {d : DataW H} {p : List MemPlace} (h : DataW.trod enc Tryz.prog W base sp hd fuel 22 [v] = some (d, p)) :
    ∃ l : List Md, IsMods W v l ∧ (∀ x ∈ l, Qmd x (d.weights Tryz.prog 22)) ∧ (l = [] ∨ ∃ N, l.length ≤ N ∧ N * 80 ∈ d.weights Tryz.prog 22) := by
  obtain ⟨l, h1, h2, h3⟩ := row_open tyMods (n := 5) (by kernel_rfl) (by decide) IsMd (fun x cs ⟨_, _, r, _⟩ => by rw [r]; rfl) Qmd Qmd.mono (fun m cs y h => md_open h) h
  rw [show Tryz.prog.bytesOf 50 = 80 by kernel_rfl] at h3
  exact ⟨l, h1, h2, h3⟩
end
end Go.Proofs.YtkcehgpcimlamabGreatDoor
