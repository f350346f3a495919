/- Package insert: Expr. -/
import Derived.Test.YthdlfeejeboboaaDoorUau
import Derived.Test.YthdlfeejeboboaaDoorUbi
import Derived.Test.YthdlfeejeboboaaDoorUaq
import Derived.KernelRfl
import Derived.Test.YthdlfeejeboboaaDoorUae
import Derived.Test.YthdlfeejeboboaaDoorUbh
namespace Go.Proofs.YthdlfeejeboboaaDoor
open Go.RowKit Ck
open T3.Tp (Ty enc cns met)
open Tr (flat wf)
set_option maxRecDepth 100000
set_option linter.unusedSimpArgs false

/-- What Expr answers of a list, names and types: the types' texts, the error and its node; which tree it is and in which environment. -/
inductive Ex (l : List Tr.Nd) (N Th : List (List UInt8)) : List (List UInt8) → Int → Int → Prop
  | arg (h : envB N Th = false) : Ex l N Th [] 1 0
  | tree (h : envB N Th = true) (h1 : (chkN l).1 ≠ 0) : Ex l N Th [] ((chkN l).1 : Int) ((chkN l).2 : Int)
  | bad (h : envB N Th = true) (h1 : (chkN l).1 = 0) (ts : List Ty) (t : Tr.T) (h2 : N.length = ts.length) (h3 : Th = ts.map enc) (h4 : wf t) (h5 : l = flat t) (q : Int × Nat) (h6 : ckT (envOf N ts) t 0 = .error q) (h7 : q.1 ≠ 0) : Ex l N Th [] q.1 (q.2 : Int)
  | good (h : envB N Th = true) (h1 : (chkN l).1 = 0) (ts : List Ty) (t : Tr.T) (h2 : N.length = ts.length) (h3 : Th = ts.map enc) (h4 : wf t) (h5 : l = flat t) (a : List Ty) (h6 : ckT (envOf N ts) t 0 = .ok a) (h7 : ∀ u ∈ a, (enc u).length ≤ 64) (h8 : a.length = l.length) : Ex l N Th (a.map enc) 0 0
/-- How Expr ends. -/
def ExEnd (w : World) (l : List Tr.Nd) (N Th : List (List UInt8)) (e : Ending) (w' : World) : Prop := Below w.heap.size w w' ∧ ∃ a n c r er at', e = .returned (.tuple #[.slice a n c, .int .i64 er, .int .i64 at']) ∧ Ex l N Th r er at' ∧ n = r.length ∧ T3.IsTexts w' (.slice a n c) r ∧ (∀ b o, a = some ⟨b, o, none⟩ → w.heap.size ≤ b) ∧ (a = none ∧ c = 0 ∨ ∃ b, a = some ⟨b, 0, none⟩ ∧ w.heap.size ≤ b ∧ c = n ∧ Rw w' b n)
theorem ExEnd.nil {w w' : World} {l : List Tr.Nd} {N Th : List (List UInt8)} {er at' : Int} (hB : Below w.heap.size w w') (h : Ex l N Th [] er at') : ExEnd w l N Th (.returned (.tuple #[.slice none 0 0, .int .i64 er, .int .i64 at'])) w' :=
  ⟨hB, none, 0, 0, [], er, at', rfl, h, rfl, .inl ⟨rfl, none, 0, rfl⟩, fun b o e => (by cases e), .inl ⟨rfl, rfl⟩⟩

theorem envOk_of {N : List (List UInt8)} {ts : List Ty} (h : ∀ t ∈ ts, (enc t).length ≤ 64) (hl : N.length = ts.length) : EnvOk (envOf N ts) := by
  intro n t hn
  have := look_last N ts hl N.length (Nat.le_refl _) n
  rw [List.take_of_length_le (by simp; omega)] at this
  unfold envOf at hn
  rw [hn] at this
  cases hj : lastAt N N.length n with
  | none => rw [hj] at this; simp at this
  | some j => rw [hj] at this; exact h t (List.mem_of_getElem? this.symm)
theorem tyTx : Tryd.prog.underlying 23 = some (.slice 9) := by kernel_rfl
theorem infTx : (Tryd.prog.info? 9).map (fun i => (i.zero, i.size, i.bytes)) = some (some (.string ⟨#[]⟩), 1, 16) := by kernel_rfl

theorem made_str (n k : Nat) (h : k < n) : (madeCells #[.string ⟨#[]⟩] n)[k]? = some (.string ⟨#[]⟩) := by
  simp [madeCells, h, Nat.mod_one]

set_option maxHeartbeats 4000000 in
theorem expr_any (l : List Tr.Nd) (hf : Fits l) (N Th : List (List UInt8)) (hN : N.length ≤ 1000) (hs : ∀ p ∈ N, p.length ≤ maxLen) (v vn vt : Value) (w : World) (hl : IsNodes w v l) (hn : T3.IsTexts w vn N) (ht : T3.IsTexts w vt Th) (hG : HasG w) (hg : 5 ≤ w.heap.size) :
    Calls Tryd.prog 12 #[v, vn, vt] w (ExEnd w l N Th) := by
  have henv := environment_any N Th hN hs vn vt w hn ht
  obtain ⟨a, c, rfl⟩ := hl.form
  cases hb : envB N Th with
  | false =>
    have henv' := henv.mono (R' := fun e w' => e = .returned (.tuple #[.nilFunc, .bool false]) ∧ Below w.heap.size w w') (fun e w' ⟨hB, h⟩ => by rw [if_neg (by rw [hb]; decide)] at h; exact ⟨h, hB⟩)
    have HX : Aside (Ex l N Th [] 1 0) := .arg hb
    clear henv hb hn ht
    go_enter Tryd.func12, Tryd.ntmps12
    go_wp2_with (go_at_call 19; refine henv'.mono ?_; rintro e w1 ⟨rfl, hB1⟩)
    refine bodyPost_ret (v := .tuple #[.slice none 0 0, .int .i64 1, .int .i64 0]) (by simp [results, Tryd.results12, go_sem]) rfl ?_
    exact ExEnd.nil hB1 HX.out
  | true =>
    have henv' := henv.mono (R' := fun e w' => ∃ sv ts, e = .returned (.tuple #[sv, .bool true]) ∧ N.length = ts.length ∧ Th = ts.map enc ∧ (∀ t ∈ ts, (enc t).length ≤ 64) ∧ (∀ a b, w'.heap.size ≤ a → w'.heap.size ≤ b → Scope a b w' sv (envOf N ts)) ∧ Below w.heap.size w w') (fun e w' ⟨hB, h⟩ => by
      rw [if_pos hb] at h
      obtain ⟨sv, ts, h1, h2, h3, h4, h5⟩ := h
      exact ⟨sv, ts, h1, h2, h3, h4, h5, hB⟩)
    clear henv hn ht
    by_cases h0 : (chkN l).1 = 0
    · obtain ⟨t, hw, he, hmay, hl4, _⟩ := chk_tree h0
      have hl0 : 0 < l.length := by rw [he]; exact Tr.flat_pos t
      have hmk := run_make_row' (P := Tryd.prog) 23 9 (.string ⟨#[]⟩) 16 tyTx infTx rfl .i64 .i64 l.length (by omega) (by omega)
      have hck : ∀ w1, Below w.heap.size w w1 → Calls Tryd.prog 20 #[.slice a l.length c] w1 fun e w' => e = .returned (.tuple #[.int .i64 0, .int .i64 ((chkN l).2 : Int)]) ∧ Below w1.heap.size w1 w' := fun w1 hB => by
        have := treeCheck_any l hf _ w1 (hl.below hB)
        rw [h0] at this
        exact this
      generalize ((chkN l).2 : Int) = q2 at hck
      have HP : Aside (∀ (w1 w2 : World) (sv : Value) (ts : List Ty), Below w.heap.size w w1 → Below w1.heap.size w1 w2 → N.length = ts.length → (∀ t ∈ ts, (enc t).length ≤ 64) → (∀ a b, w1.heap.size ≤ a → w1.heap.size ≤ b → Scope a b w1 sv (envOf N ts)) →
          Calls Tryd.prog 21 #[.pointer (some ⟨w2.heap.size + 1, 0, none⟩), sv] ((w2.alloc (.cells (madeCells #[.string ⟨#[]⟩] l.length) 9)).alloc (.cells #[.slice a l.length c, .slice (some ⟨w2.heap.size, 0, none⟩) l.length l.length, .int .i64 0] 59)) (PEnd (w2.heap.size + 2) ((w2.alloc (.cells (madeCells #[.string ⟨#[]⟩] l.length) 9)).alloc (.cells #[.slice a l.length c, .slice (some ⟨w2.heap.size, 0, none⟩) l.length l.length, .int .i64 0] 59)) (w2.heap.size + 1) w2.heap.size (.slice a l.length c) l 0 (ckT (envOf N ts) t 0))) := by
        intro w1 w2 sv ts hB1 hB2 hts h64 hsc
        have hz1 := hB1.size
        have hz2 := hB2.size
        obtain ⟨X, hX⟩ : ∃ X, X = w2.alloc (.cells (madeCells #[.string ⟨#[]⟩] l.length) 9) := ⟨_, rfl⟩
        have hXn : X.heap[w2.heap.size]? = some (.cells (madeCells #[.string ⟨#[]⟩] l.length) 9) := by rw [hX]; exact heap_alloc_new _ _
        have hXz : X.heap.size = w2.heap.size + 1 := by rw [hX]; simp
        have hBX : Below w2.heap.size w2 X := by rw [hX]; exact (Below.refl _ _).alloc (Nat.le_refl _) _
        rw [← hX]
        clear hX
        obtain ⟨Y, hY⟩ : ∃ Y, Y = X.alloc (.cells #[.slice a l.length c, .slice (some ⟨w2.heap.size, 0, none⟩) l.length l.length, .int .i64 0] 59) := ⟨_, rfl⟩
        have hYn : Y.heap[w2.heap.size + 1]? = some (.cells #[.slice a l.length c, .slice (some ⟨w2.heap.size, 0, none⟩) l.length l.length, .int .i64 0] 59) := by rw [hY, ← hXz]; exact heap_alloc_new _ _
        have hYz : Y.heap.size = w2.heap.size + 2 := by rw [hY]; simp; omega
        have hBY : Below X.heap.size X Y := by rw [hY]; exact (Below.refl _ _).alloc (Nat.le_refl _) _
        rw [← hY]
        clear hY
        have hYt : Y.heap[w2.heap.size]? = some (.cells (madeCells #[.string ⟨#[]⟩] l.length) 9) := (hBY.block _ (by omega)).trans hXn
        have hBw : Below w.heap.size w Y := bt (bt (bt hB1 hB2) hBX) hBY
        refine ckPart_any (w2.heap.size + 2) (w2.heap.size + 1) w2.heap.size (.slice a l.length c) l hmay hf.str hl4 (flat t).length t 0 [] (envOf N ts) Y sv (Nat.le_refl _) hw (by rw [List.drop_zero, List.append_nil]; exact he) (envOk_of h64 hts) ?_ ((hsc _ _ (by omega) (by omega)).next (below_two (bt (bt hB2 hBX) hBY) _ _))
        refine ⟨⟨(block_cells hYn).1 0, hl.below hBw⟩, (block_cells hYn).1 1, (block_cells hYn).1 2, (block_cells hYn).2, (block_cells hYt).2, fun k hk => ⟨⟨#[]⟩, ?_⟩, fun b o n c' e => ?_, by omega, hG.below hBw, by omega, by omega, ⟨_, hYt, by simp [size_madeCells]⟩⟩
        · rw [(block_cells hYt).1 k]
          exact made_str _ k hk
        · have hb2 : b < w.heap.size := by
            rcases hl with ⟨h, _⟩ | ⟨b1, o1, c1, h1, _, h2, _⟩
            · rw [h] at hl0; simp at hl0
            · rw [h1] at e; cases e; exact h2
          omega
      have HX : Aside (∀ ts, N.length = ts.length → Th = ts.map enc → (∀ q, ckT (envOf N ts) t 0 = .error q → q.1 ≠ 0 → Ex l N Th [] q.1 (q.2 : Int)) ∧ (∀ x, ckT (envOf N ts) t 0 = .ok x → (∀ u ∈ x, (enc u).length ≤ 64) → Ex l N Th (x.map enc) 0 0 ∧ x.length = l.length)) := fun ts e1 e2 =>
        ⟨fun q h1 h2 => .bad hb h0 ts t e1 e2 hw he q h1 h2, fun x h1 h2 => by
          have h8 : x.length = l.length := by rw [Ck.len_T t _ 0 x h1, he]
          exact ⟨.good hb h0 ts t e1 e2 hw he x h1 h2 h8, h8⟩⟩
      clear hb h0 he hw hmay hG hl
      go_enter Tryd.func12, Tryd.ntmps12
      go_wp2_with fail
      go_at_call 19
      refine henv'.mono ?_
      rintro e w1 ⟨sv, ts, rfl, e1, e2, e3, hsc, hB1⟩
      go_wp2_with fail
      go_at_call 20
      refine (hck w1 hB1).mono ?_
      rintro e w2 ⟨rfl, hB2⟩
      have HPP := HP.out w1 w2 sv ts hB1 hB2 e1 e3 hsc
      have HXX := HX.out ts e1 e2
      clear HP HX hck henv' hsc
      go_wp2_with fail
      refine HPP.mono ?_
      rintro e w3 ⟨hT3, hpe⟩
      have hz1 := hB1.size
      have hz2 := hB2.size
      have hz3 := hT3.size
      simp only [World.size_alloc] at hz3
      have HB3 : Aside (Below w.heap.size w w3) := (balloc (balloc (bt hB1 hB2) _) _).trans ⟨hT3.os, hT3.tape, hT3.output, hT3.size, fun k hk => hT3.block k (by simp; omega) (by omega) (by omega)⟩
      clear HPP hB1 hB2 hT3 hmk
      cases hr : ckT (envOf N ts) t 0 with
      | error q =>
        rw [hr] at hpe
        obtain ⟨hq0, rfl⟩ := hpe
        obtain ⟨q1, q2'⟩ := q
        have HE : Aside (Ex l N Th [] q1 (q2' : Int)) := HXX.1 _ hr hq0
        have hq1 : (q1 != 0) = true := by simpa using hq0
        clear hr hq0 HXX e2
        unfold rf
        go_wp2_with fail
        go_quiet (fail)
        go_wp2_with fail
        refine bodyPost_ret (v := .tuple #[.slice none 0 0, .int .i64 q1, .int .i64 (q2' : Int)]) (by simp [results, Tryd.results12, go_sem]) rfl ?_
        exact ExEnd.nil (below_drewN (balloc HB3.out _) _) HE.out
      | ok x =>
        rw [hr] at hpe
        obtain ⟨⟨p, rfl⟩, hst, hcell, -⟩ := hpe
        obtain ⟨HE1, HE2⟩ := HXX.2 x hr (fun u hu => by obtain ⟨k, hk⟩ := List.getElem?_of_mem hu; exact (hcell k u hk).2)
        have HE : Aside (Ex l N Th (x.map enc) 0 0 ∧ x.length = l.length) := ⟨HE1, HE2⟩
        have HC : Aside (∀ k u, x[k]? = some u → w3.cell? ⟨w2.heap.size, k, none⟩ = some (.string (S (enc u)))) := fun k u hk => by have := (hcell k u hk).1; rwa [Nat.zero_add] at this
        have HRw : Aside (Rw w3 w2.heap.size l.length) := hst.rwo
        have ct1 : w3.cell? ⟨w2.heap.size + 1, 1, none⟩ = some (.slice (some ⟨w2.heap.size, 0, none⟩) l.length l.length) := hst.typ
        have hlt1 : w2.heap.size + 1 < w3.heap.size := by omega
        have hlt0 : w2.heap.size < w3.heap.size := by omega
        clear hr hcell hst HXX e2 HE1 HE2
        unfold rf
        go_wp2_with fail
        refine bodyPost_ret (v := .tuple #[.slice (some ⟨w2.heap.size, 0, none⟩) l.length l.length, .int .i64 0, .int .i64 0]) (by simp [results, Tryd.results12, go_sem]) rfl ?_
        obtain ⟨HE1, HE2⟩ := HE.out
        refine ⟨balloc HB3.out _, _, _, _, x.map enc, 0, 0, rfl, HE1, by simp [HE2], .inr ⟨w2.heap.size, 0, l.length, by simp [HE2], by simp [HE2], by simp; omega, fun j p hp => ?_⟩, fun b o e => (by cases e; omega), .inr ⟨w2.heap.size, rfl, by omega, rfl, HRw.out.same (Below.heap_alloc _ _ _ (by omega))⟩⟩
        rw [List.getElem?_map] at hp
        cases hu : x[j]? with
        | none => rw [hu] at hp; simp at hp
        | some u =>
          rw [hu] at hp
          simp at hp
          subst hp
          rw [Nat.zero_add, World.cell?_alloc_lt _ _ _ hlt0]
          exact HC.out j u hu
    · have h0' : (((chkN l).1 : Int) != 0) = true := by simpa using h0
      have hck : ∀ w1, Below w.heap.size w w1 → Calls Tryd.prog 20 #[.slice a l.length c] w1 fun e w' => e = .returned (.tuple #[.int .i64 ((chkN l).1 : Int), .int .i64 ((chkN l).2 : Int)]) ∧ Below w1.heap.size w1 w' := fun w1 hB => treeCheck_any l hf _ w1 (hl.below hB)
      have HX : Aside (Ex l N Th [] ((chkN l).1 : Int) ((chkN l).2 : Int)) := .tree hb h0
      generalize ((chkN l).1 : Int) = q1 at *
      generalize ((chkN l).2 : Int) = q2 at *
      clear hb h0 hl
      go_enter Tryd.func12, Tryd.ntmps12
      go_wp2_with fail
      go_at_call 19
      refine henv'.mono ?_
      rintro e w1 ⟨sv, ts, rfl, e1, e2, e3, hsc, hB1⟩
      clear e1 e2 e3 hsc
      go_wp2_with fail
      go_at_call 20
      refine (hck w1 hB1).mono ?_
      rintro e w2 ⟨rfl, hB2⟩
      go_wp2_with fail
      refine bodyPost_ret (v := .tuple #[.slice none 0 0, .int .i64 q1, .int .i64 q2]) (by simp [results, Tryd.results12, go_sem]) rfl ?_
      exact ExEnd.nil (bt hB1 hB2) HX.out
end Go.Proofs.YthdlfeejeboboaaDoor
namespace Go.Proofs.YthdlfeejeboboaaDoor
set_option maxRecDepth 100000
namespace Ck
open T3.Tp (Ty enc)
open Tr (T Nd flat flats wf wfs)

/-- A node without a place. -/
def nod (kind kids : Int) (s t u : List UInt8) : Nd := ⟨kind, kids, 0, ⟨s.toArray⟩, ⟨t.toArray⟩, ⟨u.toArray⟩, 0, 0⟩
def pairsT : Nat → T
  | 0 => .nd (nod 1 0 [] [] []) []
  | n + 1 => .nd (nod 18 2 [] [] []) [.nd (nod 1 0 [] [] []) [], pairsT n]
/-- So many pairs, as the statement's list lays them. -/
def pairsL : Nat → List Nd
  | 0 => [nod 1 0 [] [] []]
  | n + 1 => [nod 18 2 [] [] [], nod 1 0 [] [] []] ++ pairsL n
theorem pairs_flat : ∀ n, flat (pairsT n) = pairsL n
  | 0 => rfl
  | n + 1 => by simp [pairsT, pairsL, flat, flats, pairs_flat n]
theorem pairs_wf : ∀ n, wf (pairsT n)
  | 0 => ⟨rfl, trivial⟩
  | n + 1 => ⟨rfl, ⟨rfl, trivial⟩, pairs_wf n, trivial⟩
def okLen : Rs (List Ty) → Nat
  | .ok a => a.length
  | .error _ => 0
theorem pairs31 : okLen (ckT [] (pairsT 31) 0) = 63 := by kernel_rfl
theorem pairs32 : ckT [] (pairsT 32) 0 = .error (21, 0) := by kernel_rfl
theorem neg32 : ckT [] (.nd (nod 16 1 [] [] []) [pairsT 32]) 0 = .error (21, 1) := by kernel_rfl
/-- ",i" so often, and i. -/
def longL : Nat → List UInt8
  | 0 => [105]
  | n + 1 => [44, 105] ++ longL n
theorem fnLarge : ckT [] (.nd (nod 5 1 [120] (longL 30) [108, 108, 105]) [.nd (nod 4 0 [121] [] []) []]) 0 = .error (21, 0) := by kernel_rfl
theorem fnFits : ckT [] (.nd (nod 5 1 [120] (longL 30) [108, 105]) [.nd (nod 4 0 [121] [] []) []]) 0 = .error (22, 1) := by kernel_rfl
theorem ifLarge : ckT [([121], tyOf ([44, 63] ++ longL 16)), ([120], tyOf ([44] ++ longL 16 ++ [63]))] (.nd (nod 9 3 [] [] []) [.nd (nod 3 0 [] [] []) [], .nd (nod 4 0 [120] [] []) [], .nd (nod 4 0 [121] [] []) []]) 0 = .error (21, 0) := by kernel_rfl
theorem long_drop : (longL 30).drop 28 = longL 16 ∧ (longL 30).length = 61 ∧ (longL 16).length = 33 := by decide
end Ck
end Go.Proofs.YthdlfeejeboboaaDoor
namespace Go.Proofs.YthdlfeejeboboaaDoor
open Go.RowKit Ck
open T3.Tp (Ty enc cns met)
open Tr (flat wf)
set_option maxRecDepth 100000
set_option linter.unusedSimpArgs false

theorem encs_inj : ∀ {a b : List Ty}, a.map enc = b.map enc → a = b
  | [], [], _ => rfl
  | [], _ :: _, h => by simp at h
  | _ :: _, [], h => by simp at h
  | x :: a, y :: b, h => by
    simp only [List.map_cons, List.cons.injEq] at h
    rw [T3.Tp.enc_inj h.1, encs_inj h.2]
theorem tree_one {t t' : Tr.T} (h : wf t) (h' : wf t') (e : flat t = flat t') : t = t' := (Tr.flat_inj t t' [] [] h h' (by simpa using e)).1
theorem Ex.err {l : List Tr.Nd} {N Th : List (List UInt8)} {ts0 : List Ty} {t0 : Tr.T} {q : Int × Nat} (hE : envB N Th = true) (hT : Th = ts0.map enc) (hc : (chkN l).1 = 0) (hw : wf t0) (hl : l = flat t0) (h : ckT (envOf N ts0) t0 0 = .error q)
    {r : List (List UInt8)} {er at' : Int} (hx : Ex l N Th r er at') : r = [] ∧ er = q.1 ∧ at' = (q.2 : Int) := by
  cases hx with
  | arg h' => rw [hE] at h'; cases h'
  | tree _ h1 => exact absurd hc h1
  | bad _ _ ts t h2 h3 h4 h5 q' h6 h7 =>
    obtain rfl : ts = ts0 := encs_inj (h3.symm.trans hT)
    obtain rfl : t = t0 := tree_one h4 hw (h5.symm.trans hl)
    rw [h] at h6; cases h6; exact ⟨rfl, rfl, rfl⟩
  | good _ _ ts t h2 h3 h4 h5 a h6 =>
    obtain rfl : ts = ts0 := encs_inj (h3.symm.trans hT)
    obtain rfl : t = t0 := tree_one h4 hw (h5.symm.trans hl)
    rw [h] at h6; cases h6
theorem Ex.ok {l : List Tr.Nd} {N Th : List (List UInt8)} {ts0 : List Ty} {t0 : Tr.T} {a : List Ty} (hE : envB N Th = true) (hT : Th = ts0.map enc) (hc : (chkN l).1 = 0) (hw : wf t0) (hl : l = flat t0) (h : ckT (envOf N ts0) t0 0 = .ok a)
    {r : List (List UInt8)} {er at' : Int} (hx : Ex l N Th r er at') : r = a.map enc ∧ er = 0 ∧ at' = 0 := by
  cases hx with
  | arg h' => rw [hE] at h'; cases h'
  | tree _ h1 => exact absurd hc h1
  | bad _ _ ts t h2 h3 h4 h5 q' h6 h7 =>
    obtain rfl : ts = ts0 := encs_inj (h3.symm.trans hT)
    obtain rfl : t = t0 := tree_one h4 hw (h5.symm.trans hl)
    rw [h] at h6; cases h6
  | good _ _ ts t h2 h3 h4 h5 a h6 =>
    obtain rfl : ts = ts0 := encs_inj (h3.symm.trans hT)
    obtain rfl : t = t0 := tree_one h4 hw (h5.symm.trans hl)
    rw [h] at h6; cases h6; exact ⟨rfl, rfl, rfl⟩
theorem txs_lit (w : World) (ps : List (List UInt8)) (hm : ps.length ≤ 1000) : T3.IsTexts (w.alloc (.cells (T3.tcells ps).toArray 9)) (.slice (some ⟨w.heap.size, 0, none⟩) ps.length ps.length) ps := by
  have h := T3.own_lit w (T3.tcells ps) 9 (by unfold maxLen; simp [T3.tcells]; omega)
  rw [show (T3.tcells ps).length = ps.length by simp [T3.tcells]] at h
  exact T3.IsTexts.own h
theorem txs_nil (w : World) : T3.IsTexts w (.slice none 0 0) [] := .inl ⟨rfl, none, 0, rfl⟩

/-- The tree of works. -/
def wkT : Tr.T := .nd (nod 10 2 [] [] []) [.nd (nod 4 0 [120] [] []) [], .nd ⟨1, 0, 1, ⟨#[]⟩, ⟨#[]⟩, ⟨#[]⟩, 0, 0⟩ []]
theorem wk_wf : wf wkT := ⟨rfl, ⟨rfl, trivial⟩, ⟨rfl, trivial⟩, trivial⟩
theorem wk_chk : (chkN (flat wkT)).1 = 0 := by kernel_rfl
theorem wk1 : ckT (envOf [[120]] [.tq]) wkT 0 = .ok [.ti, .tq, .ti] := by kernel_rfl
theorem wk2 : ckT (envOf [[120]] [.tt]) wkT 0 = .error (23, 1) := by kernel_rfl
theorem wk3 : ckT (envOf [] []) wkT 0 = .error (22, 1) := by kernel_rfl
theorem wk_fits : Fits (flat wkT) := ⟨by decide, by decide, by decide⟩
theorem wk_is (w : World) : IsNodes (w.alloc (.cells #[.int .i8 10, .int .i64 2, .int .i64 0, .string ⟨#[]⟩, .string ⟨#[]⟩, .string ⟨#[]⟩, .int .i64 0, .int .i64 0, .int .i8 4, .int .i64 0, .int .i64 0, .string ⟨#[120]⟩, .string ⟨#[]⟩, .string ⟨#[]⟩, .int .i64 0, .int .i64 0, .int .i8 1, .int .i64 0, .int .i64 1, .string ⟨#[]⟩, .string ⟨#[]⟩, .string ⟨#[]⟩, .int .i64 0, .int .i64 0] 36)) (.slice (some ⟨w.heap.size, 0, none⟩) 3 3) (flat wkT) :=
  IsNodes.lit w (flat wkT) 36 (0, 0) 3 (Nat.le_refl _)

theorem one_txs (w : World) (c : UInt8) : T3.IsTexts (w.alloc (.cells #[.string ⟨#[c]⟩] 9)) (.slice (some ⟨w.heap.size, 0, none⟩) 1 1) [[c]] := txs_lit w [[c]] (by simp)

theorem small_names {N : List (List UInt8)} (h : N.all (fun p => decide (p.length ≤ 1000)) = true) : ∀ p ∈ N, p.length ≤ maxLen := fun p hp => by
  have := of_decide_eq_true (List.all_eq_true.1 h p hp)
  unfold maxLen; omega
/-- Expr, where the answer is known to be types. -/
theorem expr_ok {l : List Tr.Nd} {N Th : List (List UInt8)} {ts0 : List Ty} {t0 : Tr.T} {a : List Ty} (hf : Fits l) (hN : N.length ≤ 1000) (hs : ∀ p ∈ N, p.length ≤ maxLen) (hE : envB N Th = true) (hT : Th = ts0.map enc) (hc : (chkN l).1 = 0) (hw : wf t0) (hl : l = flat t0) (h : ckT (envOf N ts0) t0 0 = .ok a)
    {v vn vt : Value} {w : World} (hv : IsNodes w v l) (hn : T3.IsTexts w vn N) (ht : T3.IsTexts w vt Th) (hG : HasG w) (hg : 5 ≤ w.heap.size) :
    Calls Tryd.prog 12 #[v, vn, vt] w fun e w' => ∃ b c, e = .returned (.tuple #[.slice b a.length c, .int .i64 0, .int .i64 0]) ∧ T3.IsTexts w' (.slice b a.length c) (a.map enc) ∧ Below w.heap.size w w' :=
  (expr_any l hf N Th hN hs v vn vt w hv hn ht hG hg).mono fun e w' ⟨hB, b, n, c, r, er, at', he, hx, hnr, htx, _⟩ => by
    obtain ⟨rfl, rfl, rfl⟩ := Ex.ok hE hT hc hw hl h hx
    obtain rfl : n = a.length := by simpa using hnr
    exact ⟨b, c, he, htx, hB⟩
/-- Expr, where the answer is known to be an error. -/
theorem expr_err {l : List Tr.Nd} {N Th : List (List UInt8)} {ts0 : List Ty} {t0 : Tr.T} {q : Int × Nat} (hf : Fits l) (hN : N.length ≤ 1000) (hs : ∀ p ∈ N, p.length ≤ maxLen) (hE : envB N Th = true) (hT : Th = ts0.map enc) (hc : (chkN l).1 = 0) (hw : wf t0) (hl : l = flat t0) (h : ckT (envOf N ts0) t0 0 = .error q)
    {v vn vt : Value} {w : World} (hv : IsNodes w v l) (hn : T3.IsTexts w vn N) (ht : T3.IsTexts w vt Th) (hG : HasG w) (hg : 5 ≤ w.heap.size) :
    Calls Tryd.prog 12 #[v, vn, vt] w fun e w' => ∃ b c, e = .returned (.tuple #[.slice b 0 c, .int .i64 q.1, .int .i64 (q.2 : Int)]) ∧ Below w.heap.size w w' :=
  (expr_any l hf N Th hN hs v vn vt w hv hn ht hG hg).mono fun e w' ⟨hB, b, n, c, r, er, at', he, hx, hnr, htx, _⟩ => by
    obtain ⟨rfl, rfl, rfl⟩ := Ex.err hE hT hc hw hl h hx
    obtain rfl : n = 0 := by simpa using hnr
    exact ⟨b, c, he, hB⟩
theorem one_two (w : World) (c d : UInt8) : T3.IsTexts ((w.alloc (.cells #[.string ⟨#[c]⟩] 9)).alloc (.cells #[.string ⟨#[d]⟩] 9)) (.slice (some ⟨w.heap.size, 0, none⟩) 1 1) [[c]] ∧ T3.IsTexts ((w.alloc (.cells #[.string ⟨#[c]⟩] 9)).alloc (.cells #[.string ⟨#[d]⟩] 9)) (.slice (some ⟨w.heap.size + 1, 0, none⟩) 1 1) [[d]] := by
  refine ⟨txs_below (one_txs w c) ((Below.refl _ _).alloc (Nat.le_refl _) _), ?_⟩
  have h := one_txs (w.alloc (.cells #[.string ⟨#[c]⟩] 9)) d
  rw [show (w.alloc (.cells #[.string ⟨#[c]⟩] 9)).heap.size = w.heap.size + 1 by simp] at h
  exact h

end Go.Proofs.YthdlfeejeboboaaDoor
namespace Go.Proofs.YthdlfeejeboboaaDoor
open Go.RowKit Go.Maps Ck
open T3.Tp (Ty enc cns met)
open Tr (T Nd nm flat flats)
set_option maxRecDepth 100000
set_option linter.unusedSimpArgs false
set_option linter.unusedVariables false

theorem results_tmp5 {fn : Func} {t u v x y : Tmp} (h : fn.results = #[.tmp t, .tmp u, .tmp v, .tmp x, .tmp y]) (tmps : Array Value) (P : Program) (w : World) :
    (results fn tmps).run P w = .ok (.tuple #[tmps.getD t undef, tmps.getD u undef, tmps.getD v undef, tmps.getD x undef, tmps.getD y undef]) w := by
  simp [results, h]
/-- What insertion answers of a tree that is taken. -/
structure Ins (md : ByteArray) (l : List Nd) (N Th : List (List UInt8)) (ts : List Ty) (t : T) (a : List Ty) : Prop where
  nm : nameB md.data.toList = true
  env : envB N Th = true
  chk : (chkN l).1 = 0
  len : N.length = ts.length
  th : Th = ts.map enc
  wf : Tr.wf t
  fl : l = flat t
  ok : ckT (envOf N ts) t 0 = .ok a
  a64 : ∀ u ∈ a, (enc u).length ≤ 64
  al : a.length = l.length
theorem ex_zero {md : ByteArray} {l : List Nd} {N Th : List (List UInt8)} {r : List (List UInt8)} {er at' : Int} (hnm : nameB md.data.toList = true) (hx : Ex l N Th r er at') (h0 : er = 0) : ∃ ts t a, Ins md l N Th ts t a ∧ r = a.map enc ∧ at' = 0 := by
  cases hx with
  | arg h => simp at h0
  | tree h h1 => exact absurd (by omega) h1
  | bad h h1 ts t h2 h3 h4 h5 q h6 h7 => exact absurd h0 h7
  | good h h1 ts t h2 h3 h4 h5 a h6 h7 h8 => exact ⟨ts, t, a, ⟨hnm, h, h1, h2, h3, h4, h5, h6, h7, h8⟩, rfl, rfl⟩
/-- How Expr ends. -/
def IxEnd (w : World) (md : ByteArray) (l : List Nd) (N Th : List (List UInt8)) (e : Ending) (w' : World) : Prop := Below w.heap.size w w' ∧
  ((∃ er at' : Int, er ≠ 0 ∧ e = .returned (.tuple #[.slice none 0 0, .string ⟨#[]⟩, .slice none 0 0, .int .i64 er, .int .i64 at']) ∧ ((nameB md.data.toList = false ∧ er = 1 ∧ at' = 0) ∨ (nameB md.data.toList = true ∧ ∃ r, Ex l N Th r er at'))) ∨
   ∃ (ts : List Ty) (t : T) (a : List Ty) (va vs : Value) (τ : Ty), Ins md l N Th ts t a ∧ a[0]? = some τ ∧ e = .returned (.tuple #[va, .string (S (enc τ)), vs, .int .i64 0, .int .i64 0]) ∧ w'.ownsRow w.heap.size 36 8 va (In.term (In.inT N a [] t 0 []).1).length (nrow (In.term (In.inT N a [] t 0 []).1)) ∧ w'.ownsRow w.heap.size 41 5 vs (In.inT N a [] t 0 []).2.length (In.srow md (In.inT N a [] t 0 []).2))

set_option maxHeartbeats 8000000 in
theorem iexpr_any (md : ByteArray) (hmd : md.size ≤ maxLen) (l : List Nd) (hf : Fits l) (hl : l.length ≤ 2000) (N Th : List (List UInt8)) (hN : N.length ≤ 1000) (hs : ∀ p ∈ N, p.length ≤ maxLen) (v vn vt : Value) (w : World) (hv : IsNodes w v l) (hn : T3.IsTexts w vn N) (ht : T3.IsTexts w vt Th) (hG : HasG w) (hg : 5 ≤ w.heap.size) :
    Calls Tryd.prog 7 #[.string md, v, vn, vt] w (IxEnd w md l N Th) := by
  have hnm := isName_any md hmd w
  have HEX : Aside (∀ W, Below w.heap.size w W → Calls Tryd.prog 12 #[v, vn, vt] W (ExEnd W l N Th)) := fun W hW => expr_any l hf N Th hN hs v vn vt W (hv.below hW) (txs_below hn hW) (txs_below ht hW) (hG.below hW) (Nat.le_trans hg hW.size)
  have HDI : Aside (∀ W, Below w.heap.size w W → Calls Tryd.prog 13 #[vn] W fun e w' => e = .returned (.map (some W.heap.size)) ∧ Idx w' W.heap.size N.length (farAt N N.length) ∧ Below W.heap.size W w') := fun W hW => distances_any N hN hs vn W (txs_below hn hW)
  have HV : Aside (IsNodes w v l) := hv
  have HSZ : Aside (∀ x ∈ l, x.s.size ≤ maxLen) := hf.str
  clear hv hn ht hG
  cases hb : nameB md.data.toList with
  | false =>
    rw [hb] at hnm
    have HNB : Aside (nameB md.data.toList = false) := hb
    clear hb
    go_enter Tryd.func7, Tryd.ntmps7
    go_wp2_with fail
    refine hnm.mono ?_
    rintro e w1 ⟨rfl, hB1⟩
    go_wp2_with fail
    try simp only [Exit.inBlock, Exit.then]
    refine bodyPost_ret (results_tmp5 rfl _ _ _) rfl ?_
    exact ⟨hB1, .inl ⟨1, 0, by decide, rfl, .inl ⟨HNB.out, rfl, rfl⟩⟩⟩
  | true =>
    rw [hb] at hnm
    have HNB : Aside (nameB md.data.toList = true) := hb
    clear hb
    go_enter Tryd.func7, Tryd.ntmps7
    go_wp2_with fail
    refine hnm.mono ?_
    rintro e w1 ⟨rfl, hB1⟩
    clear hnm
    go_wp2_with fail
    refine (HEX.out w1 hB1).mono ?_
    rintro e w2 ⟨hB2, ta, tn, tc, r, er, at', rfl, hx, hnr, htx, hlo, hrw⟩
    have HB2 : Aside (Below w.heap.size w w2) := hB1.trans (hB2.mono hB1.size)
    clear HEX
    by_cases her : er = 0
    · subst her
      obtain ⟨ts, t, a, hIns, rfl, rfl⟩ := ex_zero HNB.out hx rfl
      have hpos := Tr.flat_pos t
      have hlp : 0 < l.length := by rw [hIns.fl]; exact hpos
      have hap : 0 < a.length := by rw [hIns.al]; exact hlp
      obtain ⟨τ, hτ⟩ : ∃ τ, a[0]? = some τ := ⟨_, List.getElem?_eq_getElem hap⟩
      obtain ⟨nb, no, nc, rfl, hnb, hnbl⟩ : ∃ nb no nc, v = .slice (some ⟨nb, no, none⟩) l.length nc ∧ l.length ≤ nc ∧ nb < w.heap.size := by
        rcases HV.out with ⟨h0, _⟩ | ⟨b, o, c, h1, h2, h3, _⟩
        · rw [h0] at hlp; simp at hlp
        · exact ⟨b, o, c, h1, h2, h3⟩
      obtain ⟨tb, to', rfl, htc, htb, hty⟩ := txs_at htx (k := 0) (p := enc τ) (by rw [List.getElem?_map, hτ]; rfl)
      have htlo := hlo tb to' rfl
      obtain rfl : tn = a.length := by simpa using hnr
      obtain ⟨_, hwt, hft, hmay, _, _⟩ := chk_tree hIns.chk
      have hgd : In.Gd a t 0 := In.gd_T a t (envOf N ts) 0 a hIns.wf (fun x hx => hmay x (by rw [hIns.fl]; exact hx)) hIns.ok (fun j u hu => by rw [Nat.zero_add]; exact hu)
      have hb1 := hB1.size
      have hb2 := hB2.size
      obtain ⟨q, hq⟩ : ∃ q, q = In.inT N a [] t 0 [] := ⟨_, rfl⟩
      have HFIN : Aside (∀ (w3 W4 : World) (ib : Nat), Idx w3 w2.heap.size N.length (farAt N N.length) → Below w2.heap.size w2 w3 → ib = w3.heap.size → W4 = w3.alloc (.cells #[.string md, .slice (some ⟨nb, no, none⟩) l.length nc, .slice (some ⟨tb, to', none⟩) a.length tc, .map (some w2.heap.size), .int .i64 0, .slice none 0 0] 47) →
          Calls Tryd.prog 14 #[.pointer (some ⟨ib, 0, none⟩), .slice none 0 0] W4 fun e w5 => ∃ b sv, e = .returned (.pointer (some ⟨b, 0, none⟩)) ∧ w5.cell? ⟨ib, 5, none⟩ = some sv ∧ (∃ sa sc, sv = .slice sa q.2.length sc) ∧ w5.cell? ⟨tb, to', none⟩ = some (.string (S (enc τ))) ∧ ib < w5.heap.size ∧ tb < w5.heap.size ∧
            Calls Tryd.prog 15 #[.pointer (some ⟨b, 0, none⟩), .slice none 0 0] w5.drew (fun e w6 => ∃ va, e = .returned va ∧ w6.cell? ⟨ib, 5, none⟩ = some sv ∧ w6.cell? ⟨tb, to', none⟩ = some (.string (S (enc τ))) ∧ (∃ ca cc, va = .slice ca (In.term q.1).length cc) ∧ IxEnd w md l N Th (.returned (.tuple #[va, .string (S (enc τ)), sv, .int .i64 0, .int .i64 0])) w6)) := fun w3 W4 ib hI3 hB3 hib hW4 => by
        have hb3 := hB3.size
        have B4 : Below w3.heap.size w3 W4 := by rw [hW4]; exact (Below.refl _ _).alloc (Nat.le_refl _) _
        have z4 : W4.heap.size = ib + 1 := by rw [hW4, hib]; simp
        have k4 : W4.heap[ib]? = some (.cells #[.string md, .slice (some ⟨nb, no, none⟩) l.length nc, .slice (some ⟨tb, to', none⟩) a.length tc, .map (some w2.heap.size), .int .i64 0, .slice none 0 0] 47 (0, 0)) := by rw [hW4, hib]; exact heap_alloc_new _ _
        have B24 : Below w2.heap.size w2 W4 := hB3.trans (B4.mono hb3)
        have Bw4 : Below w.heap.size w W4 := HB2.out.trans (B24.mono HB2.out.size)
        have hIs : In.Is (ib + 1) W4 ib (.slice none 0 0) md (.slice (some ⟨nb, no, none⟩) l.length nc) (.slice (some ⟨tb, to', none⟩) a.length tc) l a N w2.heap.size 0 [] := by
          have hfb : w2.heap.size < w3.heap.size := hI3.lt
          refine ⟨k4, HV.out.below Bw4, fun b o n c e => by cases e; omega, txs_below htx B24, fun b o n c e => by cases e; omega, hI3.kept ⟨B4.os, B4.tape, B4.output, B4.size, fun k hk _ => B4.block k hk⟩ (by simp : some w2.heap.size ≠ none), ⟨by simp [In.srow], .inl ⟨rfl, rfl⟩⟩, ⟨by omega, by omega, by omega⟩, fun b o n c e => by cases e; omega, fun b o n c e => by cases e; omega, by omega⟩
        have hcall := ipart_any (ib + 1) ib w2.heap.size md _ _ l a N hmay HSZ.out hl hIns.a64 hN (flat t).length t 0 [] [] W4 (.slice none 0 0) (.slice none 0 0) [] (Nat.le_refl _) hIns.wf (by rw [List.drop_zero, List.append_nil]; exact hIns.fl) hgd (by simp) (by simp) hIs (.inl ⟨rfl, rfl⟩)
        rw [← hq] at hcall
        refine hcall.mono ?_
        rintro e w5 ⟨b, sv, rfl, hPT, hIs5, hF5⟩
        have hb5 := hF5.size
        have low : ∀ k, k < ib → w5.heap[k]? = W4.heap[k]? := fun k hk => hF5.block k (by omega) (by omega) (.inl (by omega))
        have Bw5 : Below w.heap.size w w5 := ⟨hF5.os.trans Bw4.os, hF5.tape.trans Bw4.tape, hF5.output.trans Bw4.output, Nat.le_trans Bw4.size hb5, fun k hk => (low k (by omega)).trans (Bw4.block k hk)⟩
        have ht5 : w5.cell? ⟨tb, to', none⟩ = some (.string (S (enc τ))) := (World.cell?_of_block (a := ⟨tb, to', none⟩) (low tb (by omega))).trans ((B24.cell (p := ⟨tb, to', none⟩) htb).trans hty)
        obtain ⟨_, _, _, _, _, c5, _⟩ := hIs5.cells
        obtain ⟨sa, sc, rfl⟩ := own_len hIs5.own
        obtain ⟨z1, z2, z3⟩ := In.size_T N a t [] 0 []
        have z5 := In.sites_T N a t [] 0 []
        rw [← hq] at z1 z2 z3 z5
        have hft2 : (flat t).length ≤ 2000 := by rw [← hIns.fl]; exact hl
        have Bd : Below w5.heap.size w5 w5.drew := ⟨rfl, rfl, rfl, Nat.le_refl _, fun _ _ => rfl⟩
        have hterm := term_any w5.drew (flat t).length q.1 W4.heap.size w5.heap.size b (.slice none 0 0) [] w5.drew (by omega) (z2 (by omega)) (In.isPT_keep _ hPT (In.Kp.below Bd)) (Below.refl _ _) ⟨by simp [nrow], .inl ⟨rfl, rfl⟩⟩ (by simp at z3 z5 ⊢; omega) (by omega)
        refine ⟨b, _, rfl, c5, ⟨sa, sc, rfl⟩, ht5, by omega, by omega, hterm.mono ?_⟩
        rintro e w6 ⟨va, rfl, ho6, hB6⟩
        rw [List.nil_append] at ho6
        have hB6' : Below w5.heap.size w5 w6 := ⟨hB6.os, hB6.tape, hB6.output, hB6.size, hB6.block⟩
        have hB6s : w5.heap.size ≤ w6.heap.size := hB6'.size
        obtain ⟨ca, cc, rfl⟩ := own_len ho6
        refine ⟨_, rfl, (hB6'.cell (p := ⟨ib, 5, none⟩) (by show ib < _; omega)).trans c5, (hB6'.cell (p := ⟨tb, to', none⟩) (by show tb < _; omega)).trans ht5, ⟨ca, cc, rfl⟩, Bw5.trans (hB6'.mono Bw5.size), .inr ⟨ts, t, a, _, _, τ, hIns, hτ, rfl, ?_, ?_⟩⟩
        · rw [← hq]
          exact own_low ho6 Bw5.size
        · rw [← hq]
          exact own_low (own_keepG hIs5.own fun g cur _ hc => hB6'.block g (Array.getElem?_eq_some_iff.1 hc).1) (by omega)
      have h0t : (0 : Int) < (a.length : Int) := by omega
      clear hx htx hlo hrw hty hIns hgd hmay hft hwt hτ hnr HV hq
      generalize S (enc τ) = sτ at *
      go_wp2_with fail
      refine (HDI.out w2 HB2.out).mono ?_
      rintro e w3 ⟨rfl, hI3, hB3⟩
      have hcall := HFIN.out w3 _ _ hI3 hB3 rfl rfl
      clear HDI HFIN hI3 hB3
      go_wp2_with fail
      refine hcall.mono ?_
      rintro e w5 ⟨b, sv, rfl, c5, ⟨sa, sc, rfl⟩, t5, l5, l6, hterm⟩
      clear hcall
      go_wp2_with fail
      go_region_held3 (fun W => W.cell? ⟨w3.heap.size, 5, none⟩ = some (.slice sa q.2.length sc) ∧ W.cell? ⟨tb, to', none⟩ = some (.string sτ)) (first | exact ⟨s5, s6⟩ | exact ⟨c5, t5⟩ | go_keep) (first | (go_at_call 15; refine hterm.mono ?_; rintro e w6 ⟨va, rfl, s5, s6, ⟨ca, cc, rfl⟩, hEnd⟩))
      all_goals
        go_wp2_with fail
        try simp only [Exit.inBlock, Exit.then]
        refine bodyPost_ret (results_tmp5 rfl _ _ _) rfl ?_
        exact hEnd
    · have her' : (er != 0) = true := by simpa using her
      have HX : Aside (∃ r, Ex l N Th r er at') := ⟨r, hx⟩
      clear hx htx hlo hrw hB1 hB2
      go_wp2_with fail
      try simp only [Exit.inBlock, Exit.then]
      refine bodyPost_ret (results_tmp5 rfl _ _ _) rfl ?_
      exact ⟨HB2.out, .inl ⟨er, at', her, rfl, .inr ⟨HNB.out, HX.out⟩⟩⟩
end Go.Proofs.YthdlfeejeboboaaDoor
