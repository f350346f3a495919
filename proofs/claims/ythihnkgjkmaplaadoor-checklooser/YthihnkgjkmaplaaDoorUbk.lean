/- Package check: what Expr answers is one thing; works. -/
import Derived.Test.YthihnkgjkmaplaaDoorUao
import Derived.Test.YthihnkgjkmaplaaDoorUbj
namespace Go.Proofs.YthihnkgjkmaplaaDoor
open Go.RowKit
set_option maxRecDepth 100000
set_option linter.unusedSimpArgs false

namespace Tr
mutual
theorem flat_inj : ∀ (t t' : T) (r r' : List Nd), wf t → wf t' → flat t ++ r = flat t' ++ r' → t = t' ∧ r = r'
  | .nd x ks, .nd y js, r, r', h, h', e => by
    rw [wf] at h h'
    simp only [flat, List.cons_append, List.cons.injEq] at e
    obtain ⟨rfl, e⟩ := e
    have hl : ks.length = js.length := by have := h.1.symm.trans h'.1; omega
    obtain ⟨rfl, rfl⟩ := flats_inj ks js r r' hl h.2 h'.2 e
    exact ⟨rfl, rfl⟩
theorem flats_inj : ∀ (ts ts' : List T) (r r' : List Nd), ts.length = ts'.length → wfs ts → wfs ts' → flats ts ++ r = flats ts' ++ r' → ts = ts' ∧ r = r'
  | [], [], r, r', _, _, _, e => ⟨rfl, by simpa [flats] using e⟩
  | [], _ :: _, _, _, h, _, _, _ => by simp at h
  | _ :: _, [], _, _, h, _, _, _ => by simp at h
  | t :: ts, t' :: ts', r, r', h, h1, h2, e => by
    rw [wfs] at h1 h2
    rw [flats, flats, List.append_assoc, List.append_assoc] at e
    obtain ⟨e1, e2⟩ := flat_inj t t' _ _ h1.1 h2.1 e
    subst e1
    obtain ⟨rfl, rfl⟩ := flats_inj ts ts' r r' (by simpa using h) h1.2 h2.2 e2
    exact ⟨rfl, rfl⟩
end
end Tr
/-- Nodes as cells, one behind the other. -/
def nrow (l : List Tr.Nd) : List Value := (l.map Tr.ncells).flatten
theorem nrow_cons (x : Tr.Nd) (l : List Tr.Nd) : nrow (x :: l) = Tr.ncells x ++ nrow l := rfl
theorem nrow_at : ∀ (l : List Tr.Nd) (j : Nat) (x : Tr.Nd), l[j]? = some x → ∀ i u, (Tr.ncells x)[i]? = some u → (nrow l)[j * 8 + i]? = some u
  | [], j, x, h, _, _, _ => by simp at h
  | y :: l, 0, x, h, i, u, hu => by
    simp at h; subst h
    have hi : i < (Tr.ncells y).length := (List.getElem?_eq_some_iff.1 hu).1
    rw [nrow_cons, Nat.zero_mul, Nat.zero_add, List.getElem?_append_left hi]; exact hu
  | y :: l, j + 1, x, h, i, u, hu => by
    rw [nrow_cons, List.getElem?_append_right (by simp [Tr.ncells]; omega)]
    have := nrow_at l j x (by simpa using h) i u hu
    rw [← this]
    congr 1
    simp [Tr.ncells]; omega
theorem nrow_len (l : List Tr.Nd) : (nrow l).length = l.length * 8 := by
  induction l with
  | nil => rfl
  | cons x l ih => rw [nrow_cons, List.length_append, ih, List.length_cons]; simp [Tr.ncells]; omega
/-- A list that is written out. -/
theorem IsNodes.lit (w : World) (l : List Tr.Nd) (t : TypeId) (fr : Nat × Nat) (cap : Nat) (hcap : l.length ≤ cap) : IsNodes (w.alloc (.cells (nrow l).toArray t fr)) (.slice (some ⟨w.heap.size, 0, none⟩) l.length cap) l := by
  refine .inr ⟨_, 0, cap, rfl, hcap, by simp, fun j x hx i u hu => ?_⟩
  rw [World.cell?_alloc_mark, List.getElem?_toArray, Nat.zero_add]
  exact nrow_at l j x hx i u hu

theorem tyNodes : Tryd.prog.underlying 22 = some (.slice 45) := by kernel_rfl
theorem infoN : (Tryd.prog.info? 45).map (fun i => (i.zero, i.size, i.bytes)) = some (some (.agg #[.int .i8 0, .int .i64 0, .int .i64 0, .string ⟨#[]⟩, .string ⟨#[]⟩, .string ⟨#[]⟩, .int .i64 0, .int .i64 0]), 8, 88) := by kernel_rfl
theorem nrow_append (a b : List Tr.Nd) : nrow (a ++ b) = nrow a ++ nrow b := by simp [nrow]
theorem nrow_one (l : List Tr.Nd) : ∀ u ∈ nrow l, u.oneCell' = true := by
  intro u hu
  unfold nrow at hu
  obtain ⟨c, hc, hu⟩ := List.mem_flatten.1 hu
  obtain ⟨x, _, rfl⟩ := List.mem_map.1 hc
  simp [Tr.ncells] at hu
  rcases hu with rfl | rfl | rfl | rfl | rfl | rfl | rfl | rfl <;> rfl
theorem IsNodes.own {w : World} {base : Nat} {v : Value} {l : List Tr.Nd} (h : w.ownsRow base 45 8 v l.length (nrow l)) : IsNodes w v l := by
  by_cases h0 : l = []
  · subst h0
    obtain ⟨a, c, rfl⟩ := own_len h
    exact .inl ⟨rfl, a, c, rfl⟩
  · obtain ⟨g, cap, rfl, hc, hg, hcell⟩ := own_cells h (List.length_pos_iff.2 h0)
    have key : ∀ j x, l[j]? = some x → ∀ i u, (Tr.ncells x)[i]? = some u → w.cell? ⟨g, 0 + j * 8 + i, none⟩ = some u := by
      intro j x hx i u hu
      have hj : j < l.length := (List.getElem?_eq_some_iff.1 hx).1
      have hi : i < 8 := by have := (List.getElem?_eq_some_iff.1 hu).1; simpa [Tr.ncells] using this
      rw [Nat.zero_add, hcell (j * 8 + i) (by omega)]
      exact nrow_at l j x hx i u hu
    refine .inr ⟨g, 0, cap, rfl, hc, ?_, key⟩
    obtain ⟨x, r, rfl⟩ := List.exists_cons_of_ne_nil h0
    exact World.block_lt_of_cell? w _ (key 0 x rfl 0 _ rfl)
theorem own_nodes_lit (w : World) (l : List Tr.Nd) (hm : l.length ≤ maxLen) : (w.alloc (.cells (nrow l).toArray 45)).ownsRow w.heap.size 45 8 (.slice (some ⟨w.heap.size, 0, none⟩) l.length l.length) l.length (nrow l) :=
  ⟨nrow_len l, .inr ⟨w.heap.size, l.length, (nrow l).toArray, rfl, Nat.le_refl _, heap_alloc_new _ _, Nat.le_refl _, hm, by simp [nrow_len], by rw [← nrow_len]; simp⟩⟩

end Go.Proofs.YthihnkgjkmaplaaDoor
namespace Go.Proofs.YthihnkgjkmaplaaDoor
open Go.RowKit Ck
open T3.Tp (Ty enc cns met)
open Tr (flat wf)
set_option maxRecDepth 100000
set_option linter.unusedSimpArgs false

theorem encs_inj : ∀ {a b : List Ty}, a.map enc = b.map enc → a = b
  | [], [], _ => rfl
  | [], _ :: _, h => by simp at h
  | _ :: _, [], h => by simp at h
  | x :: a, y :: b, h => by
    simp only [List.map_cons, List.cons.injEq] at h
    rw [T3.Tp.enc_inj h.1, encs_inj h.2]
theorem tree_one {t t' : Tr.T} (h : wf t) (h' : wf t') (e : flat t = flat t') : t = t' := (Tr.flat_inj t t' [] [] h h' (by simpa using e)).1
theorem Ex.err {l : List Tr.Nd} {N Th : List (List UInt8)} {ts0 : List Ty} {t0 : Tr.T} {q : Int × Nat} (hE : envB N Th = true) (hT : Th = ts0.map enc) (hc : (chkN l).1 = 0) (hw : wf t0) (hl : l = flat t0) (h : ckT (envOf N ts0) t0 0 = .error q)
    {r : List (List UInt8)} {er at' : Int} (hx : Ex l N Th r er at') : r = [] ∧ er = q.1 ∧ at' = (q.2 : Int) := by
  cases hx with
  | arg h' => rw [hE] at h'; cases h'
  | tree _ h1 => exact absurd hc h1
  | bad _ _ ts t h2 h3 h4 h5 q' h6 h7 =>
    obtain rfl : ts = ts0 := encs_inj (h3.symm.trans hT)
    obtain rfl : t = t0 := tree_one h4 hw (h5.symm.trans hl)
    rw [h] at h6; cases h6; exact ⟨rfl, rfl, rfl⟩
  | good _ _ ts t h2 h3 h4 h5 a h6 =>
    obtain rfl : ts = ts0 := encs_inj (h3.symm.trans hT)
    obtain rfl : t = t0 := tree_one h4 hw (h5.symm.trans hl)
    rw [h] at h6; cases h6
theorem Ex.ok {l : List Tr.Nd} {N Th : List (List UInt8)} {ts0 : List Ty} {t0 : Tr.T} {a : List Ty} (hE : envB N Th = true) (hT : Th = ts0.map enc) (hc : (chkN l).1 = 0) (hw : wf t0) (hl : l = flat t0) (h : ckT (envOf N ts0) t0 0 = .ok a)
    {r : List (List UInt8)} {er at' : Int} (hx : Ex l N Th r er at') : r = a.map enc ∧ er = 0 ∧ at' = 0 := by
  cases hx with
  | arg h' => rw [hE] at h'; cases h'
  | tree _ h1 => exact absurd hc h1
  | bad _ _ ts t h2 h3 h4 h5 q' h6 h7 =>
    obtain rfl : ts = ts0 := encs_inj (h3.symm.trans hT)
    obtain rfl : t = t0 := tree_one h4 hw (h5.symm.trans hl)
    rw [h] at h6; cases h6
  | good _ _ ts t h2 h3 h4 h5 a h6 =>
    obtain rfl : ts = ts0 := encs_inj (h3.symm.trans hT)
    obtain rfl : t = t0 := tree_one h4 hw (h5.symm.trans hl)
    rw [h] at h6; cases h6; exact ⟨rfl, rfl, rfl⟩
theorem txs_lit (w : World) (ps : List (List UInt8)) (hm : ps.length ≤ 1000) : T3.IsTexts (w.alloc (.cells (T3.tcells ps).toArray 9)) (.slice (some ⟨w.heap.size, 0, none⟩) ps.length ps.length) ps := by
  have h := T3.own_lit w (T3.tcells ps) 9 (by unfold maxLen; simp [T3.tcells]; omega)
  rw [show (T3.tcells ps).length = ps.length by simp [T3.tcells]] at h
  exact T3.IsTexts.own h
theorem txs_nil (w : World) : T3.IsTexts w (.slice none 0 0) [] := .inl ⟨rfl, none, 0, rfl⟩

/-- The tree of works. -/
def wkT : Tr.T := .nd (nod 10 2 [] [] []) [.nd (nod 4 0 [120] [] []) [], .nd ⟨1, 0, 1, ⟨#[]⟩, ⟨#[]⟩, ⟨#[]⟩, 0, 0⟩ []]
theorem wk_wf : wf wkT := ⟨rfl, ⟨rfl, trivial⟩, ⟨rfl, trivial⟩, trivial⟩
theorem wk_chk : (chkN (flat wkT)).1 = 0 := by kernel_rfl
theorem wk1 : ckT (envOf [[120]] [.tq]) wkT 0 = .ok [.ti, .tq, .ti] := by kernel_rfl
theorem wk2 : ckT (envOf [[120]] [.tt]) wkT 0 = .error (23, 1) := by kernel_rfl
theorem wk3 : ckT (envOf [] []) wkT 0 = .error (22, 1) := by kernel_rfl
theorem wk_fits : Fits (flat wkT) := ⟨by decide, by decide, by decide⟩
theorem wk_is (w : World) : IsNodes (w.alloc (.cells #[.int .i8 10, .int .i64 2, .int .i64 0, .string ⟨#[]⟩, .string ⟨#[]⟩, .string ⟨#[]⟩, .int .i64 0, .int .i64 0, .int .i8 4, .int .i64 0, .int .i64 0, .string ⟨#[120]⟩, .string ⟨#[]⟩, .string ⟨#[]⟩, .int .i64 0, .int .i64 0, .int .i8 1, .int .i64 0, .int .i64 1, .string ⟨#[]⟩, .string ⟨#[]⟩, .string ⟨#[]⟩, .int .i64 0, .int .i64 0] 45)) (.slice (some ⟨w.heap.size, 0, none⟩) 3 3) (flat wkT) :=
  IsNodes.lit w (flat wkT) 45 (0, 0) 3 (Nat.le_refl _)

theorem one_txs (w : World) (c : UInt8) : T3.IsTexts (w.alloc (.cells #[.string ⟨#[c]⟩] 9)) (.slice (some ⟨w.heap.size, 0, none⟩) 1 1) [[c]] := txs_lit w [[c]] (by simp)

theorem small_names {N : List (List UInt8)} (h : N.all (fun p => decide (p.length ≤ 1000)) = true) : ∀ p ∈ N, p.length ≤ maxLen := fun p hp => by
  have := of_decide_eq_true (List.all_eq_true.1 h p hp)
  unfold maxLen; omega
/-- Expr, where the answer is known to be types. -/
theorem expr_ok {l : List Tr.Nd} {N Th : List (List UInt8)} {ts0 : List Ty} {t0 : Tr.T} {a : List Ty} (hf : Fits l) (hN : N.length ≤ 1000) (hs : ∀ p ∈ N, p.length ≤ maxLen) (hE : envB N Th = true) (hT : Th = ts0.map enc) (hc : (chkN l).1 = 0) (hw : wf t0) (hl : l = flat t0) (h : ckT (envOf N ts0) t0 0 = .ok a)
    {v vn vt : Value} {w : World} (hv : IsNodes w v l) (hn : T3.IsTexts w vn N) (ht : T3.IsTexts w vt Th) (hG : HasG w) (hg : 5 ≤ w.heap.size) :
    Calls Tryd.prog 8 #[v, vn, vt] w fun e w' => ∃ b c, e = .returned (.tuple #[.slice b a.length c, .int .i64 0, .int .i64 0]) ∧ T3.IsTexts w' (.slice b a.length c) (a.map enc) ∧ Below w.heap.size w w' :=
  (expr_any l hf N Th hN hs v vn vt w hv hn ht hG hg).mono fun e w' ⟨hB, b, n, c, r, er, at', he, hx, hnr, htx, _⟩ => by
    obtain ⟨rfl, rfl, rfl⟩ := Ex.ok hE hT hc hw hl h hx
    obtain rfl : n = a.length := by simpa using hnr
    exact ⟨b, c, he, htx, hB⟩
/-- Expr, where the answer is known to be an error. -/
theorem expr_err {l : List Tr.Nd} {N Th : List (List UInt8)} {ts0 : List Ty} {t0 : Tr.T} {q : Int × Nat} (hf : Fits l) (hN : N.length ≤ 1000) (hs : ∀ p ∈ N, p.length ≤ maxLen) (hE : envB N Th = true) (hT : Th = ts0.map enc) (hc : (chkN l).1 = 0) (hw : wf t0) (hl : l = flat t0) (h : ckT (envOf N ts0) t0 0 = .error q)
    {v vn vt : Value} {w : World} (hv : IsNodes w v l) (hn : T3.IsTexts w vn N) (ht : T3.IsTexts w vt Th) (hG : HasG w) (hg : 5 ≤ w.heap.size) :
    Calls Tryd.prog 8 #[v, vn, vt] w fun e w' => ∃ b c, e = .returned (.tuple #[.slice b 0 c, .int .i64 q.1, .int .i64 (q.2 : Int)]) ∧ Below w.heap.size w w' :=
  (expr_any l hf N Th hN hs v vn vt w hv hn ht hG hg).mono fun e w' ⟨hB, b, n, c, r, er, at', he, hx, hnr, htx, _⟩ => by
    obtain ⟨rfl, rfl, rfl⟩ := Ex.err hE hT hc hw hl h hx
    obtain rfl : n = 0 := by simpa using hnr
    exact ⟨b, c, he, hB⟩
theorem one_two (w : World) (c d : UInt8) : T3.IsTexts ((w.alloc (.cells #[.string ⟨#[c]⟩] 9)).alloc (.cells #[.string ⟨#[d]⟩] 9)) (.slice (some ⟨w.heap.size, 0, none⟩) 1 1) [[c]] ∧ T3.IsTexts ((w.alloc (.cells #[.string ⟨#[c]⟩] 9)).alloc (.cells #[.string ⟨#[d]⟩] 9)) (.slice (some ⟨w.heap.size + 1, 0, none⟩) 1 1) [[d]] := by
  refine ⟨txs_below (one_txs w c) ((Below.refl _ _).alloc (Nat.le_refl _) _), ?_⟩
  have h := one_txs (w.alloc (.cells #[.string ⟨#[c]⟩] 9)) d
  rw [show (w.alloc (.cells #[.string ⟨#[c]⟩] 9)).heap.size = w.heap.size + 1 by simp] at h
  exact h

set_option maxHeartbeats 4000000 in
theorem works_any (w : World) (hG : HasG w) (hg : 5 ≤ w.heap.size) :
    Calls Tryd.prog 6 #[] w fun e w' => e = .returned (.bool true) ∧ Below w.heap.size w w' := by
  have hl0 := wk_is w
  have hB0 : Below w.heap.size w (w.alloc (.cells #[.int .i8 10, .int .i64 2, .int .i64 0, .string ⟨#[]⟩, .string ⟨#[]⟩, .string ⟨#[]⟩, .int .i64 0, .int .i64 0, .int .i8 4, .int .i64 0, .int .i64 0, .string ⟨#[120]⟩, .string ⟨#[]⟩, .string ⟨#[]⟩, .int .i64 0, .int .i64 0, .int .i8 1, .int .i64 0, .int .i64 1, .string ⟨#[]⟩, .string ⟨#[]⟩, .string ⟨#[]⟩, .int .i64 0, .int .i64 0] 45)) := (Below.refl _ _).alloc (Nat.le_refl _) _
  have hG0 := hG.below hB0
  have hg0 := Nat.le_trans hg hB0.size
  go_enter Tryd.func6, Tryd.ntmps6
  go_upto_region 2 with fail
  generalize w.alloc _ = W0 at *
  have hX : ∀ (W : World) (d : UInt8), Below W0.heap.size W0 W → Below W0.heap.size W0 ((W.alloc (.cells #[.string ⟨#[120]⟩] 9)).alloc (.cells #[.string ⟨#[d]⟩] 9)) := fun W d hB => balloc (balloc hB _) _
  have c1 : ∀ W, Below W0.heap.size W0 W → _ := fun W hB => expr_ok wk_fits (by decide) (small_names (by decide)) (N := [[120]]) (Th := [[63]]) (by kernel_rfl) (ts0 := [.tq]) rfl wk_chk wk_wf rfl wk1 (hl0.below (hX W 63 hB)) (one_two W 120 63).1 (one_two W 120 63).2 (hG0.below (hX W 63 hB)) (Nat.le_trans hg0 (hX W 63 hB).size)
  have c2 : ∀ W, Below W0.heap.size W0 W → _ := fun W hB => expr_err wk_fits (by decide) (small_names (by decide)) (N := [[120]]) (Th := [[116]]) (by kernel_rfl) (ts0 := [.tt]) rfl wk_chk wk_wf rfl wk2 (hl0.below (hX W 116 hB)) (one_two W 120 116).1 (one_two W 120 116).2 (hG0.below (hX W 116 hB)) (Nat.le_trans hg0 (hX W 116 hB).size)
  have c3 : ∀ W, Below W0.heap.size W0 W → _ := fun W hB => expr_err wk_fits (by decide) (small_names (by decide)) (N := []) (Th := []) (by kernel_rfl) (ts0 := []) rfl wk_chk wk_wf rfl wk3 (hl0.below hB) (txs_nil W) (txs_nil W) (hG0.below hB) (Nat.le_trans hg0 hB.size)
  clear hl0 hG0
  go_wp2_with fail
  refine (c1 W0 (Below.refl _ _)).mono ?_
  rintro e w1 ⟨b1, d1, rfl, ht1, hB1⟩
  have hB1 := bt (hX W0 63 (Below.refl _ _)) hB1
  go_wp2_with fail
  refine (c2 w1 hB1).mono ?_
  rintro e w2 ⟨b2, d2, rfl, hB2⟩
  have ht2 := txs_below ht1 (bt (balloc (balloc (Below.refl _ _) _) _) hB2)
  have hB2 := bt (hX w1 116 hB1) hB2
  go_wp2_with fail
  refine (c3 w2 hB2).mono ?_
  rintro e w3 ⟨b3, d3, rfl, hB3⟩
  have ht3 := txs_below ht2 hB3
  have hB3 := bt hB2 hB3
  obtain ⟨tb, tof, rfl, hcc, _, p0⟩ := txs_at ht3 (k := 0) (p := [105]) rfl
  obtain ⟨_, _, he1, _, _, p1⟩ := txs_at ht3 (k := 1) (p := [63]) rfl
  cases he1
  rw [show T3.S [105] = ⟨#[105]⟩ from rfl, Nat.add_zero] at p0
  rw [show T3.S [63] = ⟨#[63]⟩ from rfl] at p1
  have HB : Aside (Below w.heap.size w w3) := bt hB0 hB3
  clear ht1 ht2 ht3 hB1 hB2 hB3 c1 c2 c3 hX
  go_wp2_with fail
  go_ret
  exact ⟨rfl, HB.out⟩
end Go.Proofs.YthihnkgjkmaplaaDoor
