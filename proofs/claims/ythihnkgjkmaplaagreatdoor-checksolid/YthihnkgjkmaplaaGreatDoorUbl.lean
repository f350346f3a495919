/- The trees of CheckBounds, as the rules take them. Plain. Package check: what Expr answers is one thing; works. The document's Expr and Plain: read. -/
import Derived.Test.YthihnkgjkmaplaaGreatDoorUau
import Derived.KernelRfl
import Derived.Test.YthihnkgjkmaplaaGreatDoorUbk
import Derived.Test.YthihnkgjkmaplaaGreatDoorUbb
import Derived.Test.YthihnkgjkmaplaaGreatDoorUbh
import Derived.Test.YthihnkgjkmaplaaGreatDoorUbj
namespace Go.Proofs.YthihnkgjkmaplaaGreatDoor
set_option maxRecDepth 100000
namespace Ck
open T3.Tp (Ty enc)
open Tr (T Nd flat flats wf wfs)

/-- A node without a place. -/
def nod (kind kids : Int) (s t u : List UInt8) : Nd := ⟨kind, kids, 0, ⟨s.toArray⟩, ⟨t.toArray⟩, ⟨u.toArray⟩, 0, 0⟩
def pairsT : Nat → T
  | 0 => .nd (nod 1 0 [] [] []) []
  | n + 1 => .nd (nod 18 2 [] [] []) [.nd (nod 1 0 [] [] []) [], pairsT n]
/-- So many pairs, as the statement's list lays them. -/
def pairsL : Nat → List Nd
  | 0 => [nod 1 0 [] [] []]
  | n + 1 => [nod 18 2 [] [] [], nod 1 0 [] [] []] ++ pairsL n
theorem pairs_flat : ∀ n, flat (pairsT n) = pairsL n
  | 0 => rfl
  | n + 1 => by simp [pairsT, pairsL, flat, flats, pairs_flat n]
theorem pairs_wf : ∀ n, wf (pairsT n)
  | 0 => ⟨rfl, trivial⟩
  | n + 1 => ⟨rfl, ⟨rfl, trivial⟩, pairs_wf n, trivial⟩
def okLen : Rs (List Ty) → Nat
  | .ok a => a.length
  | .error _ => 0
theorem pairs31 : okLen (ckT [] (pairsT 31) 0) = 63 := by kernel_rfl
theorem pairs32 : ckT [] (pairsT 32) 0 = .error (21, 0) := by kernel_rfl
theorem neg32 : ckT [] (.nd (nod 16 1 [] [] []) [pairsT 32]) 0 = .error (21, 1) := by kernel_rfl
/-- ",i" so often, and i. -/
def longL : Nat → List UInt8
  | 0 => [105]
  | n + 1 => [44, 105] ++ longL n
theorem fnLarge : ckT [] (.nd (nod 5 1 [120] (longL 30) [108, 108, 105]) [.nd (nod 4 0 [121] [] []) []]) 0 = .error (21, 0) := by kernel_rfl
theorem fnFits : ckT [] (.nd (nod 5 1 [120] (longL 30) [108, 105]) [.nd (nod 4 0 [121] [] []) []]) 0 = .error (22, 1) := by kernel_rfl
theorem ifLarge : ckT [([121], tyOf ([44, 63] ++ longL 16)), ([120], tyOf ([44] ++ longL 16 ++ [63]))] (.nd (nod 9 3 [] [] []) [.nd (nod 3 0 [] [] []) [], .nd (nod 4 0 [120] [] []) [], .nd (nod 4 0 [121] [] []) []]) 0 = .error (21, 0) := by kernel_rfl
theorem long_drop : (longL 30).drop 28 = longL 16 ∧ (longL 30).length = 61 ∧ (longL 16).length = 33 := by decide
end Ck
end Go.Proofs.YthihnkgjkmaplaaGreatDoor
namespace Go.Proofs.YthihnkgjkmaplaaGreatDoor
open Go.RowKit Ck
open T3.Tp (Ty enc cns met)
open Tr (flat wf)
set_option maxRecDepth 100000
set_option linter.unusedSimpArgs false

theorem encs_inj : ∀ {a b : List Ty}, a.map enc = b.map enc → a = b
  | [], [], _ => rfl
  | [], _ :: _, h => by simp at h
  | _ :: _, [], h => by simp at h
  | x :: a, y :: b, h => by
    simp only [List.map_cons, List.cons.injEq] at h
    rw [T3.Tp.enc_inj h.1, encs_inj h.2]
theorem tree_one {t t' : Tr.T} (h : wf t) (h' : wf t') (e : flat t = flat t') : t = t' := (Tr.flat_inj t t' [] [] h h' (by simpa using e)).1
theorem Ex.err {l : List Tr.Nd} {N Th : List (List UInt8)} {ts0 : List Ty} {t0 : Tr.T} {q : Int × Nat} (hE : envB N Th = true) (hT : Th = ts0.map enc) (hc : (chkN l).1 = 0) (hw : wf t0) (hl : l = flat t0) (h : ckT (envOf N ts0) t0 0 = .error q)
    {r : List (List UInt8)} {er at' : Int} (hx : Ex l N Th r er at') : r = [] ∧ er = q.1 ∧ at' = (q.2 : Int) := by
  cases hx with
  | arg h' => rw [hE] at h'; cases h'
  | tree _ h1 => exact absurd hc h1
  | bad _ _ ts t h2 h3 h4 h5 q' h6 h7 =>
    obtain rfl : ts = ts0 := encs_inj (h3.symm.trans hT)
    obtain rfl : t = t0 := tree_one h4 hw (h5.symm.trans hl)
    rw [h] at h6; cases h6; exact ⟨rfl, rfl, rfl⟩
  | good _ _ ts t h2 h3 h4 h5 a h6 =>
    obtain rfl : ts = ts0 := encs_inj (h3.symm.trans hT)
    obtain rfl : t = t0 := tree_one h4 hw (h5.symm.trans hl)
    rw [h] at h6; cases h6
theorem Ex.ok {l : List Tr.Nd} {N Th : List (List UInt8)} {ts0 : List Ty} {t0 : Tr.T} {a : List Ty} (hE : envB N Th = true) (hT : Th = ts0.map enc) (hc : (chkN l).1 = 0) (hw : wf t0) (hl : l = flat t0) (h : ckT (envOf N ts0) t0 0 = .ok a)
    {r : List (List UInt8)} {er at' : Int} (hx : Ex l N Th r er at') : r = a.map enc ∧ er = 0 ∧ at' = 0 := by
  cases hx with
  | arg h' => rw [hE] at h'; cases h'
  | tree _ h1 => exact absurd hc h1
  | bad _ _ ts t h2 h3 h4 h5 q' h6 h7 =>
    obtain rfl : ts = ts0 := encs_inj (h3.symm.trans hT)
    obtain rfl : t = t0 := tree_one h4 hw (h5.symm.trans hl)
    rw [h] at h6; cases h6
  | good _ _ ts t h2 h3 h4 h5 a h6 =>
    obtain rfl : ts = ts0 := encs_inj (h3.symm.trans hT)
    obtain rfl : t = t0 := tree_one h4 hw (h5.symm.trans hl)
    rw [h] at h6; cases h6; exact ⟨rfl, rfl, rfl⟩
theorem txs_lit (w : World) (ps : List (List UInt8)) (hm : ps.length ≤ 1000) : T3.IsTexts (w.alloc (.cells (T3.tcells ps).toArray 9)) (.slice (some ⟨w.heap.size, 0, none⟩) ps.length ps.length) ps := by
  have h := T3.own_lit w (T3.tcells ps) 9 (by unfold maxLen; simp [T3.tcells]; omega)
  rw [show (T3.tcells ps).length = ps.length by simp [T3.tcells]] at h
  exact T3.IsTexts.own h
theorem txs_nil (w : World) : T3.IsTexts w (.slice none 0 0) [] := .inl ⟨rfl, none, 0, rfl⟩

/-- The tree of works. -/
def wkT : Tr.T := .nd (nod 10 2 [] [] []) [.nd (nod 4 0 [120] [] []) [], .nd ⟨1, 0, 1, ⟨#[]⟩, ⟨#[]⟩, ⟨#[]⟩, 0, 0⟩ []]
theorem wk_wf : wf wkT := ⟨rfl, ⟨rfl, trivial⟩, ⟨rfl, trivial⟩, trivial⟩
theorem wk_chk : (chkN (flat wkT)).1 = 0 := by kernel_rfl
theorem wk1 : ckT (envOf [[120]] [.tq]) wkT 0 = .ok [.ti, .tq, .ti] := by kernel_rfl
theorem wk2 : ckT (envOf [[120]] [.tt]) wkT 0 = .error (23, 1) := by kernel_rfl
theorem wk3 : ckT (envOf [] []) wkT 0 = .error (22, 1) := by kernel_rfl
theorem wk_fits : Fits (flat wkT) := ⟨by decide, by decide, by decide⟩
theorem wk_is (w : World) : IsNodes (w.alloc (.cells #[.int .i8 10, .int .i64 2, .int .i64 0, .string ⟨#[]⟩, .string ⟨#[]⟩, .string ⟨#[]⟩, .int .i64 0, .int .i64 0, .int .i8 4, .int .i64 0, .int .i64 0, .string ⟨#[120]⟩, .string ⟨#[]⟩, .string ⟨#[]⟩, .int .i64 0, .int .i64 0, .int .i8 1, .int .i64 0, .int .i64 1, .string ⟨#[]⟩, .string ⟨#[]⟩, .string ⟨#[]⟩, .int .i64 0, .int .i64 0] 64)) (.slice (some ⟨w.heap.size, 0, none⟩) 3 3) (flat wkT) :=
  IsNodes.lit w (flat wkT) 64 (0, 0) 3 (Nat.le_refl _)

theorem one_txs (w : World) (c : UInt8) : T3.IsTexts (w.alloc (.cells #[.string ⟨#[c]⟩] 9)) (.slice (some ⟨w.heap.size, 0, none⟩) 1 1) [[c]] := txs_lit w [[c]] (by simp)

theorem small_names {N : List (List UInt8)} (h : N.all (fun p => decide (p.length ≤ 1000)) = true) : ∀ p ∈ N, p.length ≤ maxLen := fun p hp => by
  have := of_decide_eq_true (List.all_eq_true.1 h p hp)
  unfold maxLen; omega
/-- Expr, where the answer is known to be types. -/
theorem expr_ok {l : List Tr.Nd} {N Th : List (List UInt8)} {ts0 : List Ty} {t0 : Tr.T} {a : List Ty} (hf : Fits l) (hN : N.length ≤ 1000) (hs : ∀ p ∈ N, p.length ≤ maxLen) (hE : envB N Th = true) (hT : Th = ts0.map enc) (hc : (chkN l).1 = 0) (hw : wf t0) (hl : l = flat t0) (h : ckT (envOf N ts0) t0 0 = .ok a)
    {v vn vt : Value} {w : World} (hv : IsNodes w v l) (hn : T3.IsTexts w vn N) (ht : T3.IsTexts w vt Th) (hG : HasG w) (hg : 8 ≤ w.heap.size) :
    Calls Tryz.prog 9 #[v, vn, vt] w fun e w' => ∃ b c, e = .returned (.tuple #[.slice b a.length c, .int .i64 0, .int .i64 0]) ∧ T3.IsTexts w' (.slice b a.length c) (a.map enc) ∧ Below w.heap.size w w' :=
  (expr_any l hf N Th hN hs v vn vt w hv hn ht hG hg).mono fun e w' ⟨hB, b, n, c, r, er, at', he, hx, hnr, htx, _⟩ => by
    obtain ⟨rfl, rfl, rfl⟩ := Ex.ok hE hT hc hw hl h hx
    obtain rfl : n = a.length := by simpa using hnr
    exact ⟨b, c, he, htx, hB⟩
/-- Expr, where the answer is known to be an error. -/
theorem expr_err {l : List Tr.Nd} {N Th : List (List UInt8)} {ts0 : List Ty} {t0 : Tr.T} {q : Int × Nat} (hf : Fits l) (hN : N.length ≤ 1000) (hs : ∀ p ∈ N, p.length ≤ maxLen) (hE : envB N Th = true) (hT : Th = ts0.map enc) (hc : (chkN l).1 = 0) (hw : wf t0) (hl : l = flat t0) (h : ckT (envOf N ts0) t0 0 = .error q)
    {v vn vt : Value} {w : World} (hv : IsNodes w v l) (hn : T3.IsTexts w vn N) (ht : T3.IsTexts w vt Th) (hG : HasG w) (hg : 8 ≤ w.heap.size) :
    Calls Tryz.prog 9 #[v, vn, vt] w fun e w' => ∃ b c, e = .returned (.tuple #[.slice b 0 c, .int .i64 q.1, .int .i64 (q.2 : Int)]) ∧ Below w.heap.size w w' :=
  (expr_any l hf N Th hN hs v vn vt w hv hn ht hG hg).mono fun e w' ⟨hB, b, n, c, r, er, at', he, hx, hnr, htx, _⟩ => by
    obtain ⟨rfl, rfl, rfl⟩ := Ex.err hE hT hc hw hl h hx
    obtain rfl : n = 0 := by simpa using hnr
    exact ⟨b, c, he, hB⟩
theorem one_two (w : World) (c d : UInt8) : T3.IsTexts ((w.alloc (.cells #[.string ⟨#[c]⟩] 9)).alloc (.cells #[.string ⟨#[d]⟩] 9)) (.slice (some ⟨w.heap.size, 0, none⟩) 1 1) [[c]] ∧ T3.IsTexts ((w.alloc (.cells #[.string ⟨#[c]⟩] 9)).alloc (.cells #[.string ⟨#[d]⟩] 9)) (.slice (some ⟨w.heap.size + 1, 0, none⟩) 1 1) [[d]] := by
  refine ⟨txs_below (one_txs w c) ((Below.refl _ _).alloc (Nat.le_refl _) _), ?_⟩
  have h := one_txs (w.alloc (.cells #[.string ⟨#[c]⟩] 9)) d
  rw [show (w.alloc (.cells #[.string ⟨#[c]⟩] 9)).heap.size = w.heap.size + 1 by simp] at h
  exact h

set_option maxHeartbeats 4000000 in
theorem works_any (w : World) (hG : HasG w) (hg : 8 ≤ w.heap.size) :
    Calls Tryz.prog 5 #[] w fun e w' => e = .returned (.bool true) ∧ Below w.heap.size w w' := by
  have hl0 := wk_is w
  have hB0 : Below w.heap.size w (w.alloc (.cells #[.int .i8 10, .int .i64 2, .int .i64 0, .string ⟨#[]⟩, .string ⟨#[]⟩, .string ⟨#[]⟩, .int .i64 0, .int .i64 0, .int .i8 4, .int .i64 0, .int .i64 0, .string ⟨#[120]⟩, .string ⟨#[]⟩, .string ⟨#[]⟩, .int .i64 0, .int .i64 0, .int .i8 1, .int .i64 0, .int .i64 1, .string ⟨#[]⟩, .string ⟨#[]⟩, .string ⟨#[]⟩, .int .i64 0, .int .i64 0] 64)) := (Below.refl _ _).alloc (Nat.le_refl _) _
  have hG0 := hG.below hB0
  have hg0 := Nat.le_trans hg hB0.size
  go_enter Tryz.func5, Tryz.ntmps5
  go_upto_region 2 with fail
  generalize w.alloc _ = W0 at *
  have hX : ∀ (W : World) (d : UInt8), Below W0.heap.size W0 W → Below W0.heap.size W0 ((W.alloc (.cells #[.string ⟨#[120]⟩] 9)).alloc (.cells #[.string ⟨#[d]⟩] 9)) := fun W d hB => balloc (balloc hB _) _
  have c1 : ∀ W, Below W0.heap.size W0 W → _ := fun W hB => expr_ok wk_fits (by decide) (small_names (by decide)) (N := [[120]]) (Th := [[63]]) (by kernel_rfl) (ts0 := [.tq]) rfl wk_chk wk_wf rfl wk1 (hl0.below (hX W 63 hB)) (one_two W 120 63).1 (one_two W 120 63).2 (hG0.below (hX W 63 hB)) (Nat.le_trans hg0 (hX W 63 hB).size)
  have c2 : ∀ W, Below W0.heap.size W0 W → _ := fun W hB => expr_err wk_fits (by decide) (small_names (by decide)) (N := [[120]]) (Th := [[116]]) (by kernel_rfl) (ts0 := [.tt]) rfl wk_chk wk_wf rfl wk2 (hl0.below (hX W 116 hB)) (one_two W 120 116).1 (one_two W 120 116).2 (hG0.below (hX W 116 hB)) (Nat.le_trans hg0 (hX W 116 hB).size)
  have c3 : ∀ W, Below W0.heap.size W0 W → _ := fun W hB => expr_err wk_fits (by decide) (small_names (by decide)) (N := []) (Th := []) (by kernel_rfl) (ts0 := []) rfl wk_chk wk_wf rfl wk3 (hl0.below hB) (txs_nil W) (txs_nil W) (hG0.below hB) (Nat.le_trans hg0 hB.size)
  clear hl0 hG0
  go_wp2_with fail
  refine (c1 W0 (Below.refl _ _)).mono ?_
  rintro e w1 ⟨b1, d1, rfl, ht1, hB1⟩
  have hB1 := bt (hX W0 63 (Below.refl _ _)) hB1
  go_wp2_with fail
  refine (c2 w1 hB1).mono ?_
  rintro e w2 ⟨b2, d2, rfl, hB2⟩
  have ht2 := txs_below ht1 (bt (balloc (balloc (Below.refl _ _) _) _) hB2)
  have hB2 := bt (hX w1 116 hB1) hB2
  go_wp2_with fail
  refine (c3 w2 hB2).mono ?_
  rintro e w3 ⟨b3, d3, rfl, hB3⟩
  have ht3 := txs_below ht2 hB3
  have hB3 := bt hB2 hB3
  obtain ⟨tb, tof, rfl, hcc, _, p0⟩ := txs_at ht3 (k := 0) (p := [105]) rfl
  obtain ⟨_, _, he1, _, _, p1⟩ := txs_at ht3 (k := 1) (p := [63]) rfl
  cases he1
  rw [show T3.S [105] = ⟨#[105]⟩ from rfl, Nat.add_zero] at p0
  rw [show T3.S [63] = ⟨#[63]⟩ from rfl] at p1
  have HB : Aside (Below w.heap.size w w3) := bt hB0 hB3
  clear ht1 ht2 ht3 hB1 hB2 hB3 c1 c2 c3 hX
  go_wp2_with fail
  go_ret
  exact ⟨rfl, HB.out⟩
end Go.Proofs.YthihnkgjkmaplaaGreatDoor
namespace Go.Proofs.YthihnkgjkmaplaaGreatDoor
open Go.RowKit Ck
open T3.Tp (Ty enc cns met)
open Tr (T Nd nm flat flats wf)
set_option maxRecDepth 100000
set_option linter.unusedSimpArgs false
set_option linter.unusedVariables false

/-- The cells of names and types. -/
def rcl (L : List (List UInt8 × List UInt8)) : List Value := L.flatMap fun p => [.string (S p.1), .string (S p.2)]
theorem rcl_len (L : List (List UInt8 × List UInt8)) : (rcl L).length = L.length * 2 := by
  unfold rcl
  induction L with
  | nil => rfl
  | cons p r ih => simp [List.flatMap_cons] at ih ⊢; omega
theorem rcl_take {L : List (List UInt8 × List UInt8)} {k : Nat} {p : List UInt8 × List UInt8} (h : L[k]? = some p) : rcl (L.take (k + 1)) = rcl (L.take k) ++ [.string (S p.1), .string (S p.2)] := by
  unfold rcl
  rw [List.take_add_one, h]
  simp
theorem rcl_env {N Th : List (List UInt8)} {ts : List Ty} (h : Th = ts.map enc) : rcl (N.zip Th) = ecells (envOf N ts) := by
  unfold rcl ecells envOf
  rw [List.reverse_reverse, h, List.zip_map_right, List.flatMap_map]
  rfl
theorem envOf_len {N : List (List UInt8)} {ts : List Ty} (h : N.length = ts.length) : (envOf N ts).length = N.length := by
  unfold envOf; rw [List.length_reverse, List.length_zip]; omega

/-- What the document's Expr answers (Plain, where consistent is read as the same). -/
inductive Rd (sm : Bool) (l : List Nd) (N Th : List (List UInt8)) : List (List UInt8) → Int → Int → Prop
  | arg (h : envB N Th = false) : Rd sm l N Th [] 1 0
  | tree (h : envB N Th = true) (h1 : (chkN l).1 ≠ 0) : Rd sm l N Th [] ((chkN l).1 : Int) ((chkN l).2 : Int)
  | bad (h : envB N Th = true) (h1 : (chkN l).1 = 0) (ts : List Ty) (t : T) (h2 : N.length = ts.length) (h3 : Th = ts.map enc) (h4 : wf t) (h5 : l = flat t) (q : Int × Nat) (h6 : kdT sm (envOf N ts) t 0 = .error q) : Rd sm l N Th [] q.1 (q.2 : Int)
  | good (h : envB N Th = true) (h1 : (chkN l).1 = 0) (ts : List Ty) (t : T) (h2 : N.length = ts.length) (h3 : Th = ts.map enc) (h4 : wf t) (h5 : l = flat t) (a : List Ty) (h6 : kdT sm (envOf N ts) t 0 = .ok a) (h8 : a.length = l.length) : Rd sm l N Th (a.map enc) 0 0
/-- How it ends. -/
def RdEnd (w : World) (sm : Bool) (l : List Nd) (N Th : List (List UInt8)) (e : Ending) (w' : World) : Prop :=
  Below w.heap.size w w' ∧ ∃ a n c r er at', e = .returned (.tuple #[.slice a n c, .int .i64 er, .int .i64 at']) ∧ Rd sm l N Th r er at' ∧ n = r.length ∧ T3.IsTexts w' (.slice a n c) r
theorem RdEnd.nil {w w' : World} {sm : Bool} {l : List Nd} {N Th : List (List UInt8)} {er at' : Int} (hB : Below w.heap.size w w') (h : Rd sm l N Th [] er at') : RdEnd w sm l N Th (.returned (.tuple #[.slice none 0 0, .int .i64 er, .int .i64 at'])) w' :=
  ⟨hB, none, 0, 0, [], er, at', rfl, h, rfl, .inl ⟨rfl, none, 0, rfl⟩⟩
theorem hcut_of {x : Nd} (h : Tr.mayB x = true) (h6 : x.kind = 6) : (Tr.cut32 (nm x)).2.2 = true := by
  have hs := Tr.mayB_s h
  unfold Tr.sB at hs
  rw [h6] at hs
  have hn : (nameB (Tr.cut32 (nm x)).1 && nameB (Tr.cut32 (nm x)).2.1) = true := hs
  by_cases hc : Lib.indexByte (nm x) 32 = -1
  · rw [Tr.cut32_none hc] at hn
    simp [Tr.nameB_nil] at hn
  · obtain ⟨o, ho⟩ : ∃ o : Nat, Lib.indexByte (nm x) 32 = o := ⟨(Lib.indexByte (nm x) 32).toNat, by have := Lib.indexByte_ge (nm x) 32; omega⟩
    rw [(Tr.cut32_some ho).2]

/-- The checker as read lays it: w1 ahead of it, w2 behind. -/
structure Kw (w1 w2 : World) (l : List Nd) (sm : Bool) (nv : Value) : Prop where
  below : Below w1.heap.size w1 w2
  row : ∃ xs, w2.ownsRow 0 9 1 (rowT w1.heap.size l) l.length xs
  kc : KC w2 (w1.heap.size + 1) w1.heap.size l.length nv 0 0 sm
theorem Kw.made (w1 : World) (l : List Nd) (sm : Bool) (a : Option Addr) (c : Nat) (hl : l.length ≤ 2000) : Kw w1 ((w1.alloc (.cells (madeCells #[.string ⟨#[]⟩] l.length) 9)).alloc (.cells #[.slice a l.length c, .slice (some ⟨w1.heap.size, 0, none⟩) l.length l.length, .int .i64 0, .int .i64 0, .bool sm] 101)) l sm (.slice a l.length c) := by
  obtain ⟨X, hX⟩ : ∃ X, X = w1.alloc (.cells (madeCells #[.string ⟨#[]⟩] l.length) 9) := ⟨_, rfl⟩
  have hXn : X.heap[w1.heap.size]? = some (.cells (madeCells #[.string ⟨#[]⟩] l.length) 9 (0, 0)) := by rw [hX]; exact heap_alloc_new _ _
  have hXz : X.heap.size = w1.heap.size + 1 := by rw [hX]; simp
  have hBX : Below w1.heap.size w1 X := by rw [hX]; exact (Below.refl _ _).alloc (Nat.le_refl _) _
  rw [← hX]
  clear hX
  obtain ⟨Y, hY⟩ : ∃ Y, Y = X.alloc (.cells #[.slice a l.length c, .slice (some ⟨w1.heap.size, 0, none⟩) l.length l.length, .int .i64 0, .int .i64 0, .bool sm] 101) := ⟨_, rfl⟩
  have hYn : Y.heap[w1.heap.size + 1]? = some (.cells #[.slice a l.length c, .slice (some ⟨w1.heap.size, 0, none⟩) l.length l.length, .int .i64 0, .int .i64 0, .bool sm] 101) := by rw [hY, ← hXz]; exact heap_alloc_new _ _
  have hBY : Below X.heap.size X Y := by rw [hY]; exact (Below.refl _ _).alloc (Nat.le_refl _) _
  rw [← hY]
  clear hY
  have hYt := (hBY.block _ (by omega)).trans hXn
  refine ⟨bt hBX hBY, ⟨(madeCells #[.string ⟨#[]⟩] l.length).toList, by simp [size_madeCells], .inr ⟨w1.heap.size, l.length, _, rfl, by omega, hYt, Nat.le_refl _, by unfold maxLen; omega, by simp [size_madeCells], ?_⟩⟩, ⟨(block_cells hYn).1 1, (block_cells hYn).1 2, (block_cells hYn).1 3, (block_cells hYn).1 4, (block_cells hYn).2, (block_cells hYn).1 0⟩⟩
  rw [List.take_of_length_le]
  simp [size_madeCells]
theorem own_form2 {w : World} {base e n : Nat} {v : Value} {xs : List Value} (h : w.ownsRow base e 2 v n xs) : ∃ a c, v = .slice a n c ∧ n ≤ c := by
  obtain ⟨_, ⟨h1, h2⟩ | ⟨g, cap, cur, h1, _, _, h4, _⟩⟩ := h
  · subst h2; exact ⟨none, 0, h1, Nat.le_refl _⟩
  · exact ⟨_, cap, h1, h4⟩
theorem own_cells2 {w : World} {base e n : Nat} {v : Value} {xs : List Value} (h : w.ownsRow base e 2 v n xs) (hn : 0 < n) : ∃ g cap, v = .slice (some ⟨g, 0, none⟩) n cap ∧ n ≤ cap ∧ g < w.heap.size ∧ ∀ j u, xs[j]? = some u → w.cell? ⟨g, j, none⟩ = some u := by
  obtain ⟨h0, ⟨h1, h2⟩ | ⟨g, cap, cur, h1, h2, h3, h4, h5, h6, h7⟩⟩ := h
  · omega
  · refine ⟨g, cap, h1, h4, (Array.getElem?_eq_some_iff.1 h3).1, fun j u hu => ?_⟩
    rw [(block_cells h3).1 j]
    rw [← h7, List.getElem?_take] at hu
    split at hu
    · simpa using hu
    · cases hu

set_option maxHeartbeats 8000000 in
theorem read_any (sm : Bool) (l : List Nd) (hf : Fits l) (hl2 : l.length ≤ 2000) (N Th : List (List UInt8)) (hN : N.length ≤ 100) (hs : ∀ p ∈ N, p.length ≤ maxLen) (v vn vt : Value) (w : World) (hl : IsNodes w v l) (hn : T3.IsTexts w vn N) (ht : T3.IsTexts w vt Th) :
    Calls Tryz.prog 26 #[v, vn, vt, .bool sm] w (RdEnd w sm l N Th) := by
  obtain ⟨i0, hi, hz0, hz1, hz2⟩ := info_parts infoB
  obtain ⟨a, c, rfl⟩ := hl.form
  obtain ⟨aN, cN, rfl⟩ := txs_form hn
  obtain ⟨aT, cT, rfl⟩ := txs_form ht
  by_cases hne : N.length = Th.length
  case neg =>
    have hne' : ((N.length : Int) != (Th.length : Int)) = true := by simp; omega
    have HX : Aside (Rd sm l N Th [] 1 0) := .arg (envB_len hne)
    clear hne hn ht hl
    go_enter Tryz.func26, Tryz.ntmps26
    go_wp2_with fail
    go_ret3
    exact RdEnd.nil (Below.refl _ _) HX.out
  case pos =>
  have hne' : ((N.length : Int) != (Th.length : Int)) = false := by simp; omega
  have HNE : Aside (N.length = Th.length) := hne
  have hTN : Th.length ≤ 100 := by omega
  clear hne
  go_enter Tryz.func26, Tryz.ntmps26
  go_wp2_with fail
  clear hne'
  go_loopg [11, 12] N.length (fun g rv iv wr => ∃ k : Nat, k + g = N.length ∧ iv = .int .i64 (k : Int) ∧ Below w.heap.size w wr ∧ wr.ownsRow w.heap.size 98 2 rv k (rcl ((N.zip Th).take k)) ∧ Aside (∀ (j : Nat) p t, j < k → N[j]? = some p → Th[j]? = some t → (T3.Tp.chk t).1 = 0 ∧ nameB p = true))
  case atStart => exact ⟨0, by omega, rfl, Below.refl _ _, own_nil _ _ _ _, fun j p t hj => absurd hj (by omega)⟩
  case round =>
    obtain ⟨k, hkg, rfl, hB, hown, HJ⟩ := hrel
    have hws := hB.size
    by_cases hk : k < N.length
    · have hk' : (k : Int) < (N.length : Int) := by omega
      have hk0 : (0 : Int) ≤ (k : Int) := by omega
      have hkT : k < Th.length := by have := HNE.out; omega
      have hkT' : (k : Int) < (Th.length : Int) := by omega
      obtain ⟨p, hp⟩ := getp hk
      obtain ⟨t, hq⟩ := getp hkT
      obtain ⟨b1, o1, rfl, hc1, hb1, p0⟩ := txs_at (txs_below hn hB) hp
      obtain ⟨b2, o2, rfl, hc2, hb2, q0⟩ := txs_at (txs_below ht hB) hq
      have hb1w : b1 < w.heap.size := by obtain ⟨_, _, e, _, h, _⟩ := txs_at hn hp; cases e; exact h
      have hb2w : b2 < w.heap.size := by obtain ⟨_, _, e, _, h, _⟩ := txs_at ht hq; cases e; exact h
      have hnm := fun W => refIsName_any (S p) (by rw [S_size]; exact hs p (List.mem_of_getElem? hp)) W
      have hty := fun W => refIsType_any (S t) W
      rw [S_list] at hnm hty
      replace p0 : wr.cell? ⟨b1, o1 + k, none⟩ = some (.string (S p)) := p0
      replace q0 : wr.cell? ⟨b2, o2 + k, none⟩ = some (.string (S t)) := q0
      have HNo : Aside ((nameB p = false ∨ typB t = false) → Rd sm l N Th [] 1 0) := fun h => .arg (envB_bad hp hq (by
        rcases h with h | h
        · exact .inr h
        · refine .inl ?_
          unfold typB at h
          rw [← chk_same] at h
          simpa using h))
      have HYes : Aside (nameB p = true → typB t = true → (∀ (j : Nat) p t, j < k + 1 → N[j]? = some p → Th[j]? = some t → (T3.Tp.chk t).1 = 0 ∧ nameB p = true) ∧ rcl ((N.zip Th).take (k + 1)) = rcl ((N.zip Th).take k) ++ [.string (S p), .string (S t)]) := fun h1 h2 => by
        refine ⟨fun j p' t' hj hp' ht' => ?_, rcl_take (p := (p, t)) (by rw [List.getElem?_zip_eq_some]; exact ⟨hp, hq⟩)⟩
        by_cases e : j = k
        · subst e
          rw [hp] at hp'; rw [hq] at ht'
          cases hp'; cases ht'
          unfold typB at h2
          rw [← chk_same] at h2
          exact ⟨by simpa using h2, h1⟩
        · exact HJ.out j p' t' (by omega) hp' ht'
      clear HJ hn ht hl hp hq
      generalize S p = sp at *
      generalize S t = st at *
      generalize rcl ((N.zip Th).take k) = xs at *
      cases hpb : nameB p with
      | false =>
        rw [hpb] at hnm
        have HX : Aside (Rd sm l N Th [] 1 0) := HNo.out (.inl hpb)
        clear HNo HYes hpb
        go_wp2_with (go_at_call 57; refine (hnm _).mono ?_; rintro e w1 ⟨rfl, hB1⟩)
        go_ret3
        exact RdEnd.nil (bt hB hB1) HX.out
      | true =>
        rw [hpb] at hnm
        cases htb : typB t with
        | false =>
          rw [htb] at hty
          have HX : Aside (Rd sm l N Th [] 1 0) := HNo.out (.inr htb)
          have q1 : ∀ W, Below wr.heap.size wr W → W.cell? ⟨b2, o2 + k, none⟩ = some (.string st) := fun W h => (h.cell (p := ⟨b2, o2 + k, none⟩) hb2).trans q0
          clear HNo HYes hpb htb
          go_wp2_with fail
          go_at_call 57
          refine (hnm _).mono ?_
          rintro e w1 ⟨rfl, hB1⟩
          have q2 := q1 w1 hB1
          clear q1
          go_wp2_with (go_at_call 58; refine (hty _).mono ?_; rintro e w2 ⟨rfl, hw2⟩; replace hw2 := hw2.symm; subst hw2)
          go_ret3
          exact RdEnd.nil (bt hB hB1) HX.out
        | true =>
          rw [htb] at hty
          obtain ⟨y1, y2⟩ := HYes.out hpb htb
          have HY1 : Aside (∀ (j : Nat) p t, j < k + 1 → N[j]? = some p → Th[j]? = some t → (T3.Tp.chk t).1 = 0 ∧ nameB p = true) := y1
          have HY2 : Aside (rcl ((N.zip Th).take (k + 1)) = xs ++ [.string sp, .string st]) := y2
          have q1 : ∀ W, Below wr.heap.size wr W → W.cell? ⟨b1, o1 + k, none⟩ = some (.string sp) ∧ W.cell? ⟨b2, o2 + k, none⟩ = some (.string st) := fun W h => ⟨(h.cell (p := ⟨b1, o1 + k, none⟩) hb1).trans p0, (h.cell (p := ⟨b2, o2 + k, none⟩) hb2).trans q0⟩
          clear HNo HYes hpb htb y1 y2
          go_wp2_with fail
          go_at_call 57
          refine (hnm _).mono ?_
          rintro e w1 ⟨rfl, hB1⟩
          obtain ⟨q2, q3⟩ := q1 w1 hB1
          have hown1 := own_below hown hB1
          have hBw1 := bt hB hB1
          have hb1' : b1 < w1.heap.size := Nat.lt_of_lt_of_le hb1 hB1.size
          have hb2' : b2 < w1.heap.size := Nat.lt_of_lt_of_le hb2 hB1.size
          have hws1 := hBw1.size
          clear q1 p0 q0 hown hnm
          go_upto_region 9 with (go_at_call 58; refine (hty _).mono ?_; rintro e w2 ⟨rfl, hw2⟩; replace hw2 := hw2.symm; subst hw2)
          have hob : ∀ x, u11.ownBlock = some x → w.heap.size ≤ x := fun x hx => (hown1.lt x hx).1
          have HS : ∀ W, w1.drew.grownBy W u11.ownBlock → W.cell? ⟨b1, o1 + k, none⟩ = some (.string sp) ∧ W.cell? ⟨b2, o2 + k, none⟩ = some (.string st) := fun W hg => ⟨hg.cell q2 (fun e => by have := hob b1 e.symm; omega), hg.cell q3 (fun e => by have := hob b2 e.symm; omega)⟩
          go_region_held3 (fun W => W.cell? ⟨b1, o1 + k, none⟩ = some (.string sp) ∧ W.cell? ⟨b2, o2 + k, none⟩ = some (.string st)) (first | go_keep | exact HS _ (grownBy_alloc_pre hg2)) (first | (refine step_append_lies _ (by rfl) _ _ _ (by rfl) w.heap.size 98 i0 (.agg #[.string ⟨#[]⟩, .string ⟨#[]⟩]) 2 32 tyBinds hi hz0 hz1 hz2 rfl (by decide) u11 _ _ (by rfl) (World.ownsRow.alloc (w := w1.drew) hown1 _) ⟨w1.heap.size, 0, none⟩ 1 1 [.string sp, .string st] (by rfl) rfl (cells_list_new w1.drew [.string sp, .string st] 98) (fun u hu => by simp at hu; rcases hu with rfl | rfl <;> rfl) (by omega) (by unfold maxLen; omega) (by omega) (by simp; omega) (w1.heap.size + 1) (by simp) ?_; intro g2 cap2 w2 hown2 hg2 hat hlt))
          all_goals
            have hBn : Below w.heap.size w w2 := hBw1.grown (grownBy_alloc_pre (show (w1.alloc _).grownBy w2 u11.ownBlock from ⟨hg2.os, hg2.tape, hg2.output, hg2.size, hg2.block⟩)) (by omega) (fun q e => hob q e)
            rw [← HY2.out] at hown2
            clear hg2 hat hown1 HS
            go_wp2_with fail
            go_roundg (gk - 1)
            case measure => omega
            case rel => exact ⟨k + 1, by omega, by go_num, hBn, hown2, HY1⟩
    · have hk' : ¬ (k : Int) < (N.length : Int) := by omega
      obtain rfl : k = N.length := by omega
      have HB : Aside (envB N Th = true) := envB_good HNE.out (fun j p t hp ht => HJ.out j p t (List.getElem?_eq_some_iff.1 hp).1 hp ht)
      rw [List.take_of_length_le (by simp; omega)] at hown
      have hown' := hown
      obtain ⟨r0, cr, hrv⟩ := own_form2 hown
      clear hown HJ hn ht
      by_cases h0 : (chkN l).1 = 0
      case neg =>
        have h0' : (((chkN l).1 : Int) != 0) = true := by simpa using h0
        have hck := refCheck_any l hf _ wr (hl.below hB)
        have HX : Aside (Rd sm l N Th [] ((chkN l).1 : Int) ((chkN l).2 : Int)) := .tree HB.out h0
        generalize ((chkN l).1 : Int) = q1 at *
        generalize ((chkN l).2 : Int) = q2 at *
        clear h0 hl HB hown'
        go_wp2_with (go_at_call 59; refine hck.mono ?_; rintro e w1 ⟨rfl, hB1⟩)
        go_ret3
        exact RdEnd.nil (bt hB hB1) HX.out
      case pos =>
      obtain ⟨t, hw, he, hmay, hl4, _⟩ := chk_tree h0
      have hl0 : 0 < l.length := by rw [he]; exact Tr.flat_pos t
      obtain ⟨ts, e1, e2, e3⟩ := envB_types HB.out
      have hck := refCheck_any l hf _ wr (hl.below hB)
      rw [h0] at hck
      have HG : Aside (∀ w1 w2, Below wr.heap.size wr w1 → Kw w1 w2 l sm (.slice a l.length c) → Calls Tryz.prog 60 #[.pointer (some ⟨w1.heap.size + 1, 0, none⟩), .int .i64 0, u11] w2 (KpEnd w2 (w1.heap.size + 1) w1.heap.size (.slice a l.length c) l sm 0 0 l.length (kdT sm (envOf N ts) t 0))) := fun w1 w2 hB1 hK => by
        have hz1 := hB1.size
        have hB2 := hK.below
        have hz2 := hB2.size
        have hBw : Below w.heap.size w w2 := bt (bt hB hB1) hB2
        have hnl : ∀ b o n c', Value.slice a l.length c = .slice (some ⟨b, o, none⟩) n c' → b < w.heap.size := fun b o n c' e => by
          rcases hl with ⟨h, _⟩ | ⟨b1, o1, c1, h1, _, h2, _⟩
          · rw [h] at hl0; simp at hl0
          · rw [h1] at e; cases e; exact h2
        have hP := kpart_any (cb := w1.heap.size + 1) (tb := w1.heap.size) (nv := .slice a l.length c) (sm := sm) (a0 := 0) hl2 hmay hf.str (fun x hx => hcut_of (hmay x hx)) l.length t 0 [] (envOf N ts) u11 w2 (by rw [he]; exact Nat.le_refl _) hw (by rw [List.drop_zero, List.append_nil]; exact he) (envOk_of e3 e1) (by rw [envOf_len e1]; omega)
          ⟨hl.below hBw, hK.row, fun b o n c' e => by have := hnl b o n c' e; omega, by omega⟩ hK.kc ?_
        · rw [← he] at hP; exact hP
        · have hownB := own_below (own_below hown' hB1) hB2
          rw [rcl_env e2] at hownB
          refine ⟨⟨r0, cr, by rw [envOf_len e1]; exact hrv.1, fun hne => ?_⟩, fun a m c' e => ?_, fun b o n c' e => ?_⟩
          · have hpos : 0 < N.length := by rw [← envOf_len e1]; exact List.length_pos_iff.2 hne
            obtain ⟨g, cap, hg1, hg2, hg3, hg4⟩ := own_cells2 hownB hpos
            rw [hrv.1] at hg1
            cases hg1
            exact ⟨g, 0, rfl, hg3, fun j u hu => by rw [Nat.zero_add]; exact hg4 j u hu⟩
          · rw [hrv.1] at e; cases e; exact hrv.2
          · rw [e] at hown'
            have := hown'.lt b rfl
            omega
      have HR : Aside ((∀ q, kdT sm (envOf N ts) t 0 = .error q → q.1 ≠ 0 ∧ Rd sm l N Th [] q.1 (q.2 : Int)) ∧ (∀ x, kdT sm (envOf N ts) t 0 = .ok x → Rd sm l N Th (x.map enc) 0 0 ∧ x.length = l.length)) :=
        ⟨fun q h => ⟨kdT_pos t _ _ q hw (fun y hy => hmay y (by rw [he]; exact hy)) h, .bad HB.out h0 ts t e1 e2 hw he q h⟩, fun x h => by
          have h8 : x.length = l.length := by rw [he]; exact (kdT_len t (envOf N ts) 0 x h).1
          exact ⟨.good HB.out h0 ts t e1 e2 hw he x h h8, h8⟩⟩
      have hmk := run_make_row' (P := Tryz.prog) 23 9 (.string ⟨#[]⟩) 16 tyTx infTx rfl .i64 .i64 l.length (by omega) (by omega)
      generalize ((chkN l).2 : Int) = q2 at *
      generalize kdT sm (envOf N ts) t 0 = R at *
      clear h0 hl HB hown' e2 e3 he hw hmay hrv
      go_wp2_with fail
      go_at_call 59
      refine hck.mono ?_
      rintro e w1 ⟨rfl, hB1⟩
      have HPP := HG.out w1 _ hB1 (Kw.made w1 l sm a c (by omega))
      have hBz := bt hB hB1
      clear HG hck
      go_wp2_with fail
      refine HPP.mono ?_
      rintro e w3 ⟨rfl, hT3, hS3, hC3, hA3, hO3⟩
      have HB3 : Aside (Below w.heap.size w w3) := (balloc (balloc hBz _) _).trans ⟨hT3.os, hT3.tape, hT3.output, hT3.size, fun k hk => hT3.block k (by have := hBz.size; simp; omega) (by have := hBz.size; omega) (by have := hBz.size; omega)⟩
      have hcbl := hC3.lt
      have htbl := hS3.lt
      clear HPP hT3 hA3 hmk
      cases R with
      | error q =>
        obtain ⟨hq0, HE0⟩ := HR.out.1 q rfl
        have HE : Aside (Rd sm l N Th [] q.1 (q.2 : Int)) := HE0
        have d2 : w3.cell? ⟨w1.heap.size + 1, 2, none⟩ = some (.int .i64 q.1) := hC3.er
        have d3 : w3.cell? ⟨w1.heap.size + 1, 3, none⟩ = some (.int .i64 (q.2 : Int)) := hC3.pl
        have hq1 : (q.1 != 0) = true := by simpa using hq0
        clear hC3 hS3 hO3 HR hq0 HE0
        go_wp2_with fail
        go_quiet (fail)
        go_wp2_with fail
        go_ret3
        exact RdEnd.nil (below_drewN HB3.out _) HE.out
      | ok x =>
        obtain ⟨HE0, hxl⟩ := HR.out.2 x rfl
        have HE : Aside (Rd sm l N Th (x.map enc) 0 0 ∧ x.length = l.length) := ⟨HE0, hxl⟩
        have d2 : w3.cell? ⟨w1.heap.size + 1, 2, none⟩ = some (.int .i64 0) := hC3.er
        have d1 : w3.cell? ⟨w1.heap.size + 1, 1, none⟩ = some (.slice (some ⟨w1.heap.size, 0, none⟩) l.length l.length) := hC3.ty
        have HO : Aside (∀ j t, x[j]? = some t → w3.cell? ⟨w1.heap.size, 0 + j, none⟩ = some (.string (S (enc t)))) := hO3 x rfl
        clear hC3 hS3 hO3 HR HE0 hxl
        go_wp2_with fail
        go_ret3
        obtain ⟨HE1, HE2⟩ := HE.out
        refine ⟨HB3.out, _, _, _, x.map enc, 0, 0, rfl, HE1, by simp [HE2], .inr ⟨w1.heap.size, 0, l.length, by simp [HE2], by simp [HE2], htbl, fun j p hp => ?_⟩⟩
        rw [List.getElem?_map] at hp
        cases hu : x[j]? with
        | none => rw [hu] at hp; simp at hp
        | some u =>
          rw [hu] at hp
          simp at hp
          subst hp
          exact HO.out j u hu
end Go.Proofs.YthihnkgjkmaplaaGreatDoor
