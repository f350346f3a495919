/- The document's typed: what it may change; kid, typed. The document's function: Fn, Rec. The document's one: where it stands behind ahead; what is refused there; leaves. -/
import Derived.Test.YtnhihajhhlilfaaMgbh
import Derived.Test.YtnhihajhhlilfaaMgas
namespace Go.Proofs.Ytnhihajhhlilfaa
open Go.RowKit Co
open T3.Tp (Ty enc cns)
open Tr (T flat flats)
set_option maxRecDepth 100000
set_option linter.unusedSimpArgs false
set_option linter.unusedVariables false

/-- Two blocks aside, all that was there is there as it was. -/
structure Tw (a b : Nat) (w w' : World) : Prop where
  os : w'.os = w.os
  tape : w'.tape = w.tape
  output : w'.output = w.output
  size : w.heap.size ≤ w'.heap.size
  block : ∀ k, k < w.heap.size → k ≠ a → k ≠ b → w'.heap[k]? = w.heap[k]?
theorem Tw.refl (a b : Nat) (w : World) : Tw a b w w := ⟨rfl, rfl, rfl, Nat.le_refl _, fun _ _ _ _ => rfl⟩
theorem Tw.trans {a b : Nat} {w w1 w2 : World} (h : Tw a b w w1) (k : Tw a b w1 w2) : Tw a b w w2 :=
  ⟨k.os.trans h.os, k.tape.trans h.tape, k.output.trans h.output, Nat.le_trans h.size k.size, fun j hj ha hb => (k.block j (Nat.lt_of_lt_of_le hj h.size) ha hb).trans (h.block j hj ha hb)⟩
theorem Tw.grown {a : Nat} {w w' : World} (h : w.grownBy w' (some a)) (b : Nat) : Tw a b w w' := ⟨h.os, h.tape, h.output, h.size, fun j hj ha _ => h.block j hj (fun e => ha (by cases e; rfl))⟩
theorem Tw.below {w w' : World} (h : Below w.heap.size w w') (a b : Nat) : Tw a b w w' := ⟨h.os, h.tape, h.output, h.size, fun j hj _ _ => h.block j hj⟩
theorem Tw.cell {a b : Nat} {w w' : World} (h : Tw a b w w') {p o : Nat} (hp : p < w.heap.size) (ha : p ≠ a) (hb : p ≠ b) : w'.cell? ⟨p, o, none⟩ = w.cell? ⟨p, o, none⟩ := World.cell?_of_block (h.block _ hp ha hb)
theorem Tw.setB {a b : Nat} {w w' : World} (h : Tw a b w w') (o : Nat) (u : Value) : Tw a b w (w'.setCell ⟨b, o, none⟩ u) :=
  ⟨h.os, h.tape, h.output, by simpa [World.setCell] using h.size, fun k hk ha hb => by rw [Below.heap_setCell _ _ _ _ hb]; exact h.block k hk ha hb⟩

abbrev avA (ab : Nat) (l : List Tr.Nd) : Value := .slice (some ⟨ab, 0, none⟩) l.length l.length
/-- The term and the row of the types. -/
structure Ws (w : World) (wb ab : Nat) (tv : Value) (l : List Tr.Nd) : Prop where
  no : IsNodes w tv l
  all : ∃ xs, w.ownsRow 0 9 1 (avA ab l) l.length xs
  of : ∀ b o n c, tv = .slice (some ⟨b, o, none⟩) n c → b ≠ wb ∧ b ≠ ab
  ne : wb ≠ ab
theorem Ws.ab {w : World} {wb ab : Nat} {tv : Value} {l : List Tr.Nd} (h : Ws w wb ab tv l) : ab < w.heap.size := by
  obtain ⟨xs, ho⟩ := h.all
  exact own_lt ho ab rfl
theorem IsNodes.tw {w w' : World} {a b : Nat} {v : Value} {l : List Tr.Nd} (h : IsNodes w v l) (k : Tw a b w w') (hof : ∀ g o n c, v = .slice (some ⟨g, o, none⟩) n c → g ≠ a ∧ g ≠ b) : IsNodes w' v l := by
  rcases h with h | ⟨g, o, c, rfl, h1, h2, h3⟩
  · exact .inl h
  · obtain ⟨ha, hb⟩ := hof g o _ c rfl
    exact .inr ⟨g, o, c, rfl, h1, Nat.lt_of_lt_of_le h2 k.size, fun j x hj i u hu => (k.cell h2 ha hb).trans (h3 j x hj i u hu)⟩
theorem Ws.tw {w w' : World} {wb ab : Nat} {tv : Value} {l : List Tr.Nd} (h : Ws w wb ab tv l) (k : Tw wb ab w w') (ha : ∃ xs, w'.ownsRow 0 9 1 (avA ab l) l.length xs) : Ws w' wb ab tv l := ⟨h.no.tw k h.of, ha, h.of, h.ne⟩
theorem Ws.grown {w w' : World} {wb ab : Nat} {tv : Value} {l : List Tr.Nd} (h : Ws w wb ab tv l) (k : w.grownBy w' (some wb)) : Ws w' wb ab tv l := by
  refine h.tw (Tw.grown k ab) ?_
  obtain ⟨xs, ho⟩ := h.all
  exact ⟨xs, own_keep ho (fun g e => by cases e; exact k.block ab h.ab (fun e => h.ne (by cases e; rfl)))⟩
theorem Ws.below {w w' : World} {wb ab : Nat} {tv : Value} {l : List Tr.Nd} (h : Ws w wb ab tv l) (k : Below w.heap.size w w') : Ws w' wb ab tv l :=
  h.grown ⟨k.os, k.tape, k.output, k.size, fun j hj _ => k.block j hj⟩
theorem Ws.put {w : World} {wb ab : Nat} {tv : Value} {l : List Tr.Nd} (h : Ws w wb ab tv l) (i : Nat) (u : Value) : Ws (w.setCell ⟨ab, i, none⟩ u) wb ab tv l := by
  refine h.tw ((Tw.refl wb ab w).setB i u) ?_
  obtain ⟨xs, ho⟩ := h.all
  obtain ⟨h0, ⟨h1, h2⟩ | ⟨g, cap, cur, h1, h2, h3, h4, h5, h6, h7⟩⟩ := ho
  · cases h1
  · obtain ⟨rfl, hc⟩ : ab = g ∧ l.length = cap := by simpa [avA] using h1
    subst hc
    refine ⟨((cur.setIfInBounds i u).toList.take (l.length * 1)), ?_, .inr ⟨ab, l.length, cur.setIfInBounds i u, rfl, h2, ?_, h4, h5, by simpa using h6, rfl⟩⟩
    · simp [h6]
    · simp [World.setCell, Array.getElem?_modify, h3]
/-- Binders that are not among what changes. -/
structure Eo (w : World) (wb ab : Nat) (ev : Value) (env : List Ty) : Prop where
  e : IsEnv w ev env
  of : ∀ g, ev.ownBlock = some g → g ≠ wb ∧ g ≠ ab
theorem Eo.tw {w w' : World} {wb ab : Nat} {ev : Value} {env : List Ty} (h : Eo w wb ab ev env) (k : Tw wb ab w w') : Eo w' wb ab ev env := by
  refine ⟨⟨?_, h.e.2⟩, h.of⟩
  rcases h.e.1 with h1 | ⟨g, o, c, rfl, h1, h2, h3⟩
  · exact .inl h1
  · obtain ⟨ha, hb⟩ := h.of g rfl
    exact .inr ⟨g, o, c, rfl, h1, Nat.lt_of_lt_of_le h2 k.size, fun j p hp => (k.cell h2 ha hb).trans (h3 j p hp)⟩

/-- How typed and one end. -/
def DtEnd (w : World) (wb ab : Nat) (tv : Value) (l : List Tr.Nd) (j : Nat) (r : Rs Ty) (e : Ending) (w' : World) : Prop := Tw wb ab w w' ∧ Ws w' wb ab tv l ∧ match r with
  | .error q => (∃ s, e = .returned (.string s)) ∧ ∃ a, IsWk w' wb tv (avA ab l) a q.1 (q.2 : Int)
  | .ok t => e = .returned (.string (S (enc t))) ∧ IsWk w' wb tv (avA ab l) (j : Int) 0 0
theorem DtEnd.ret {w w' : World} {wb ab j : Nat} {tv : Value} {l : List Tr.Nd} {r : Rs Ty} {e : Ending} (h : DtEnd w wb ab tv l j r e w') : ∃ s, e = .returned (.string s) := by
  obtain ⟨_, _, h⟩ := h
  cases r with
  | error q => exact h.1
  | ok t => exact ⟨_, h.1⟩
theorem DtEnd.rule {w w1 w' : World} {wb ab j : Nat} {tv : Value} {l : List Tr.Nd} {r : Rs Ty} {e : Ending} (ht : Tw wb ab w w1) (hs : Ws w1 wb ab tv l) (h : DrEnd w1 wb tv (avA ab l) (j : Int) r e w') : DtEnd w wb ab tv l j r e w' := by
  obtain ⟨hg, h⟩ := h
  refine ⟨ht.trans (Tw.grown hg ab), hs.grown hg, ?_⟩
  cases r with
  | error q => exact ⟨h.1, _, h.2⟩
  | ok t => exact h
theorem DtEnd.trans {w w1 w' : World} {wb ab j : Nat} {tv : Value} {l : List Tr.Nd} {r : Rs Ty} {e : Ending} (ht : Tw wb ab w w1) (h : DtEnd w1 wb ab tv l j r e w') : DtEnd w wb ab tv l j r e w' := ⟨ht.trans h.1, h.2⟩

set_option maxHeartbeats 1000000 in
theorem dkid_bad {w : World} {wb : Nat} {tv av : Value} {a e0 n : Int} (h : IsWk w wb tv av a e0 n) (h0 : (e0 == 0) = false) (ev : Value) :
    Calls Try.prog 79 #[.pointer (some ⟨wb, 0, none⟩), ev] w fun e w' => e = .returned (.string ⟨#[]⟩) ∧ w' = w := by
  have c2 := (block_cells h).1 2
  have h0' : (e0 != 0) = true := by simpa [bne] using h0
  clear h
  go_enter Try.func79, Try.ntmps79
  go_wp2_with fail
  go_ret
  exact ⟨rfl, rfl⟩
set_option maxHeartbeats 1000000 in
theorem dkid_good {w : World} {wb : Nat} {tv av : Value} {a n : Int} (h : IsWk w wb tv av a 0 n) (ev : Value) {Q : Ending → World → Prop} (hq : ∀ e w', Q e w' → ∃ s, e = .returned (.string s))
    (hC : Calls Try.prog 58 #[.pointer (some ⟨wb, 0, none⟩), ev] w Q) :
    Calls Try.prog 79 #[.pointer (some ⟨wb, 0, none⟩), ev] w Q := by
  have c2 := (block_cells h).1 2
  clear h
  go_enter Try.func79, Try.ntmps79
  go_wp2_with fail
  refine hC.mono ?_
  intro e w' hE
  obtain ⟨s, rfl⟩ := hq e w' hE
  clear hC
  go_wp2_with fail
  exact hE
set_option maxHeartbeats 2000000 in
/-- typed by one. -/
theorem dtyped_one {w : World} {wb ab : Nat} {tv ev : Value} {l : List Tr.Nd} {p j : Nat} (hp : p < l.length) (h : IsWk w wb tv (avA ab l) (p : Int) 0 0) {r : Rs Ty} (hr : ∀ q, r = .error q → q.1 ≠ 0)
    (hC : Calls Try.prog 69 #[.pointer (some ⟨wb, 0, none⟩), ev] w (DtEnd w wb ab tv l j r)) :
    Calls Try.prog 58 #[.pointer (some ⟨wb, 0, none⟩), ev] w fun e w' => DtEnd w wb ab tv l j r e w' ∧ ∀ t, r = .ok t → w'.cell? ⟨ab, p, none⟩ = some (.string (S (enc t))) := by
  have c1 := (block_cells h).1 1
  have hp0 : (0 : Int) ≤ (p : Int) := by omega
  have hp1 : (p : Int) < (l.length : Int) := by omega
  clear h
  cases r with
  | error q =>
    have h0 : (q.1 == 0) = false := by simpa using hr q rfl
    go_enter Try.func58, Try.ntmps58
    go_wp2_with fail
    refine hC.mono ?_
    rintro e w1 ⟨ht, hs, ⟨s, rfl⟩, a, hk⟩
    have c2 := (block_cells hk).1 2
    have hE : DtEnd w wb ab tv l j (.error q) (.returned (.string s)) w1 := ⟨ht, hs, ⟨s, rfl⟩, a, hk⟩
    clear hC c1 ht hs hk
    go_wp2_with fail
    go_ret
    exact ⟨hE, fun t h => by cases h⟩
  | ok t =>
    go_enter Try.func58, Try.ntmps58
    go_wp2_with fail
    refine hC.mono ?_
    rintro e w1 ⟨ht, hs, rfl, hk⟩
    have c2 := (block_cells hk).1 2
    have c4 := (block_cells hk).1 4
    obtain ⟨xs, ho⟩ := hs.all
    obtain ⟨hxl, ⟨h1, h2⟩ | ⟨g, cap, cur, h1, h2, h3, h4, h5, h6, h7⟩⟩ := ho
    · cases h1
    obtain ⟨rfl, hc⟩ : ab = g ∧ l.length = cap := by simpa [avA] using h1
    subst hc
    have ca := (block_cells h3).1 p
    have fa := (block_cells h3).2 p
    rw [Array.getElem?_eq_getElem (show p < cur.size by omega)] at ca
    generalize cur[p]'(show p < cur.size by omega) = cu at ca
    have hE : DtEnd w wb ab tv l j (.ok t) (.returned (.string (S (enc t)))) (w1.setCell ⟨ab, p, none⟩ (.string (S (enc t)))) := ⟨ht.setB p _, hs.put p _, rfl, (Below.heap_setCell _ _ _ _ hs.ne).trans hk⟩
    have hL : (w1.setCell ⟨ab, p, none⟩ (.string (S (enc t)))).cell? ⟨ab, p, none⟩ = some (.string (S (enc t))) := World.cell?_setCell_same w1 _ _ ca
    clear hC c1 ht hs hk h3 h6 h7 hxl h1
    go_wp2_with fail
    go_ret
    exact ⟨hE, fun t' h => by cases h; exact hL⟩
end Go.Proofs.Ytnhihajhhlilfaa
namespace Go.Proofs.Ytnhihajhhlilfaa
open Go.RowKit Co
open T3.Tp (Ty enc cns)
open Tr (T flat flats)
set_option maxRecDepth 100000
set_option linter.unusedSimpArgs false
set_option linter.unusedVariables false

/-- typed, of parts of at most so many nodes. -/
def TypC (wb ab : Nat) (tv : Value) (l : List Tr.Nd) (N : Nat) : Prop := ∀ (t : T) (p : Nat) (rest : List Tr.Nd) (env : List Ty) (ev : Value) (w : World), (flat t).length ≤ N → wfC t → l.drop p = flat t ++ rest → EnvOk env → env.length ≤ 2 * p → Ws w wb ab tv l → IsWk w wb tv (avA ab l) (p : Int) 0 0 → Eo w wb ab ev env →
  Calls Try.prog 58 #[.pointer (some ⟨wb, 0, none⟩), ev] w (DtEnd w wb ab tv l (p + (flat t).length) (tyT env t p))
theorem dkid_any {wb ab : Nat} {tv : Value} {l : List Tr.Nd} {N : Nat} (hT : TypC wb ab tv l N) (t : T) (p : Nat) (rest : List Tr.Nd) (env : List Ty) (ev : Value) (w : World) (h1 : (flat t).length ≤ N) (h2 : wfC t) (h3 : l.drop p = flat t ++ rest) (h4 : EnvOk env) (h5 : env.length ≤ 2 * p) (h6 : Ws w wb ab tv l) (h7 : IsWk w wb tv (avA ab l) (p : Int) 0 0) (h8 : Eo w wb ab ev env) :
    Calls Try.prog 79 #[.pointer (some ⟨wb, 0, none⟩), ev] w (DtEnd w wb ab tv l (p + (flat t).length) (tyT env t p)) :=
  dkid_good h7 ev (fun e w' h => h.ret) (hT t p rest env ev w h1 h2 h3 h4 h5 h6 h7 h8)
theorem want_err {w : World} {wb : Nat} {tv av : Value} {a e0 n : Int} (h : IsWk w wb tv av a e0 n) (h0 : e0 ≠ 0) (b : Bool) (k : Int) : Calls Try.prog 80 #[.pointer (some ⟨wb, 0, none⟩), .bool b, .int .i64 k] w fun e w' => e = .returned (.tuple #[]) ∧ w' = w := by
  cases b
  · exact want2_any h h0 k
  · exact want0_any wb k
/-- What function answers. -/
def funR (env : List Ty) (x : Tr.Nd) (i : Nat) (k : T) : Rs Ty := if sz (.tf (tyS x.t) (tyS x.u)) ≤ 64 then (match tyT (inn x env) k (i + 1) with | .error e => .error e | .ok a => rul env x i [a]) else .error (21, i)
/-- under, of a row that is built there. -/
theorem dunder_lit (bs env : List Ty) (hb : bs ≠ []) (hlen : bs.length + env.length ≤ 1000000) {wb ab : Nat} {ev : Value} {w : World} (hwb : wb < w.heap.size) (hab : ab < w.heap.size) (hev : Eo w wb ab ev env) : ∀ (W : World) (n : Nat), W = w.alloc (.cells (bs.map fun t => Value.string (S (enc t))).toArray 9) → n = w.heap.size →
    Calls Try.prog 81 #[ev, .slice (some ⟨n, 0, none⟩) bs.length bs.length] W fun e w' => ∃ v, e = .returned v ∧ Eo w' wb ab v (bs ++ env) ∧ Below w.heap.size w w' := fun W n hW hn => by
  have hB : Below w.heap.size w W := by rw [hW]; exact (Below.refl _ _).alloc (Nat.le_refl _) _
  have hx : T3.IsTexts W (.slice (some ⟨n, 0, none⟩) bs.length bs.length) (bs.map enc) := by
    refine .inr ⟨n, 0, bs.length, by rw [List.length_map], by rw [List.length_map]; omega, by rw [hW, hn]; simp, fun j p hp => ?_⟩
    rw [List.getElem?_map] at hp
    cases ht : bs[j]? with
    | none => rw [ht] at hp; cases hp
    | some t =>
      rw [ht] at hp
      cases hp
      have := cells_list_new w (bs.map fun t => Value.string (S (enc t))) 9 j (Value.string (S (enc t))) (by rw [List.getElem?_map, ht]; rfl)
      rw [hW, hn]
      rw [show (⟨w.heap.size, 0 + j, none⟩ : Addr) = (⟨w.heap.size, 0, none⟩ : Addr).add j by simp [Addr.add]]
      exact this
  refine (dunder_any bs env hb hlen (.slice (some ⟨n, 0, none⟩) bs.length bs.length) ev W hx (hev.e.below hB)).mono ?_
  rintro e w' ⟨v, rfl, hE, hB2, hN⟩
  have hz : w.heap.size ≤ W.heap.size := hB.size
  refine ⟨v, rfl, ⟨hE, fun g hg => ?_⟩, hB.trans (hB2.mono hz)⟩
  have := hN g hg
  omega

end Go.Proofs.Ytnhihajhhlilfaa
namespace Go.Proofs.Ytnhihajhhlilfaa
open Go.RowKit Co
open T3.Tp (Ty enc cns)
open Tr (T flat flats)
set_option maxRecDepth 100000
set_option linter.unusedSimpArgs false
set_option linter.unusedVariables false

theorem ahdD_some {nb i : Nat} {x : Tr.Nd} {q : Int × Nat} (h : ahdD nb x i = some q) : ahd nb x i = some q := by
  unfold ahdD at h
  split at h
  · rename_i hk
    unfold ahd
    rw [if_neg (by omega), if_neg (by omega), if_neg (by omega), if_pos hk]
    split at h
    · cases h
    · rename_i hg
      rw [if_neg hg]
      exact h
  · exact h
theorem ahdD_none {nb i : Nat} {x : Tr.Nd} (h : ahdD nb x i = none) (hk : ¬ (x.kind = 5 ∨ x.kind = 6)) : ahd nb x i = none := by
  unfold ahdD at h
  rw [if_neg hk] at h
  exact h
theorem tyT_bad10 {env : List Ty} {x : Tr.Nd} {ks : List T} {i : Nat} {q : Int × Nat} (h : ahd env.length x i = some q) : tyT env (.nd x ks) i = .error q := by rw [tyT, h]
theorem tyT_plain10 {env : List Ty} {x : Tr.Nd} {ks : List T} {i : Nat} (h : ahd env.length x i = none) (h8 : x.kind ≠ 8) : tyT env (.nd x ks) i = match tyL (inn x env) ks (i + 1) with | .error e => .error e | .ok ts => rul env x i ts := by
  rw [tyT, h]
  simp only [h8, if_false]
  cases tyL (inn x env) ks (i + 1) <;> rfl
theorem env_form {w : World} {ev : Value} {env : List Ty} (h : IsEnv w ev env) : ∃ a c, ev = .slice a env.length c := by
  rcases h.1 with ⟨h1, a, c, rfl⟩ | ⟨b, o, c, rfl, _⟩
  · rw [List.map_eq_nil_iff] at h1
    exact ⟨a, c, by rw [h1]; rfl⟩
  · exact ⟨_, c, by rw [List.length_map]⟩
/-- Where one stands: the node lies in a block of its own. -/
structure On (w w3 : World) (wb ab : Nat) (tv : Value) (l : List Tr.Nd) (i : Nat) (x : Tr.Nd) (ev : Value) (env : List Ty) : Prop where
  tw : Tw wb ab w w3
  s : Ws w3 wb ab tv l
  e : Eo w3 wb ab ev env
  n : w3.heap[w.heap.size]? = some (.cells (ndA x) 44)
  b : wb < w.heap.size ∧ ab < w.heap.size
theorem On.lt {w w3 : World} {wb ab i : Nat} {tv ev : Value} {l : List Tr.Nd} {x : Tr.Nd} {env : List Ty} (h : On w w3 wb ab tv l i x ev env) : w.heap.size < w3.heap.size := (Array.getElem?_eq_some_iff.1 h.n).1
theorem On.next {w w3 w4 : World} {wb ab i : Nat} {tv ev : Value} {l : List Tr.Nd} {x : Tr.Nd} {env : List Ty} (h : On w w3 wb ab tv l i x ev env) (k : Tw wb ab w3 w4) (s : Ws w4 wb ab tv l) : On w w4 wb ab tv l i x ev env :=
  ⟨h.tw.trans k, s, h.e.tw k, (k.block _ h.lt (by have := h.b; omega) (by have := h.b; omega)).trans h.n, h.b⟩
theorem On.grown {w w3 w4 : World} {wb ab i : Nat} {tv ev : Value} {l : List Tr.Nd} {x : Tr.Nd} {env : List Ty} (h : On w w3 wb ab tv l i x ev env) (k : w3.grownBy w4 (some wb)) : On w w4 wb ab tv l i x ev env := h.next (Tw.grown k ab) (h.s.grown k)
theorem On.mk' {w W1 W2 : World} {wb ab i : Nat} {tv ev : Value} {l : List Tr.Nd} {x : Tr.Nd} {env : List Ty} (hW1 : W1 = w.alloc (.cells (ndA x) 44)) (hW2 : W2 = W1.setCell ⟨wb, 1, none⟩ (.int .i64 ((i : Int) + 1))) (hS : Ws w wb ab tv l) (hk : IsWk w wb tv (avA ab l) (i : Int) 0 0) (hev : Eo w wb ab ev env) :
    On w W2 wb ab tv l i x ev env ∧ IsWk W1 wb tv (avA ab l) (i : Int) 0 0 ∧ IsWk W2 wb tv (avA ab l) ((i + 1 : Nat) : Int) 0 0 := by
  have hB1 : Below w.heap.size w W1 := by rw [hW1]; exact (Below.refl _ _).alloc (Nat.le_refl _) _
  have hn1 : W1.heap[w.heap.size]? = some (.cells (ndA x) 44) := by rw [hW1]; exact heap_alloc_new _ _
  have hk1 : IsWk W1 wb tv (avA ab l) (i : Int) 0 0 := hk.below hB1
  have hO : On w W1 wb ab tv l i x ev env := ⟨Tw.below hB1 wb ab, hS.below hB1, hev.tw (Tw.below hB1 wb ab), hn1, hk.lt, hS.ab⟩
  have hG : W1.grownBy W2 (some wb) := by rw [hW2]; exact grownBy_set (grownBy_refl _ _) _
  exact ⟨hO.grown hG, hk1, by rw [hW2]; exact hk1.set1 _⟩

theorem kids_of10 {x : Tr.Nd} (h : takes x = true) {k n : Int} (hκ : x.kind = k) (h1 : ary k = n) (h2 : 0 ≤ n) : x.kids = n := by
  unfold takes at h
  rw [hκ, h1, if_neg (by omega), if_neg (by omega)] at h
  simpa using h
theorem texts_form11 {w : World} {v : Value} {ts : List Ty} (h0 : ts ≠ []) (h : T3.IsTexts w v (ts.map enc)) : ∃ b o c, v = .slice (some ⟨b, o, none⟩) ts.length c ∧ ts.length ≤ c ∧ b < w.heap.size ∧ ∀ j t, ts[j]? = some t → w.cell? ⟨b, o + j, none⟩ = some (.string (S (enc t))) := by
  rcases h with ⟨h, _⟩ | ⟨b, o, c, rfl, h1, h2, h3⟩
  · exact absurd (List.map_eq_nil_iff.1 h) h0
  · rw [List.length_map] at h1 ⊢
    exact ⟨b, o, c, rfl, h1, h2, fun j t hj => h3 j (enc t) (by rw [List.getElem?_map, hj]; rfl)⟩
theorem kid_one {x : Tr.Nd} {ks : List T} (htk : takes x = true) (hkk : x.kids = (ks.length : Int)) {k : Int} (hκ : x.kind = k) (h1 : ary k = 1) : ∃ a, ks = [a] := by
  have := kids_of10 htk hκ h1 (by decide)
  match ks, hkk with
  | [a], _ => exact ⟨a, rfl⟩
  | [], h => simp at h; omega
  | a :: b :: r, h => simp at h; omega
theorem kid_two {x : Tr.Nd} {ks : List T} (htk : takes x = true) (hkk : x.kids = (ks.length : Int)) {k : Int} (hκ : x.kind = k) (h1 : ary k = 2) : ∃ a b, ks = [a, b] := by
  have := kids_of10 htk hκ h1 (by decide)
  match ks, hkk with
  | [a, b], _ => exact ⟨a, b, rfl⟩
  | [], h => simp at h; omega
  | [a], h => simp at h; omega
  | a :: b :: c :: r, h => simp at h; omega
set_option maxHeartbeats 8000000 in
theorem done_bad {wb ab : Nat} {tv : Value} {l : List Tr.Nd} {N : Nat} (hT : TypC wb ab tv l N) (x : Tr.Nd) (ks : List T) (i : Nat) (rest : List Tr.Nd) (env : List Ty) (ev : Value) (w : World) (hx : l[i]? = some x) (htk : takes x = true) (hkk : x.kids = (ks.length : Int)) (hwk : wfsC ks) (hN : (flats ks).length ≤ N) (hd : l.drop (i + 1) = flats ks ++ rest) (hE : EnvOk env) (hen : env.length ≤ 2 * i) (hl : l.length ≤ 100000) (hS : Ws w wb ab tv l) (hk : IsWk w wb tv (avA ab l) (i : Int) 0 0) (hev : Eo w wb ab ev env) {q : Int × Nat} (hah : ahdD env.length x i = some q) :
    Calls Try.prog 69 #[.pointer (some ⟨wb, 0, none⟩), ev] w (DtEnd w wb ab tv l (i + 1 + (flats ks).length) (tyT env (.nd x ks) i)) := by
  obtain ⟨va, vc, rfl⟩ := hS.no.form
  have hil : i < l.length := (List.getElem?_eq_some_iff.1 hx).1
  have hi0 : (0 : Int) ≤ (i : Int) := by omega
  have hil' : (i : Int) < (l.length : Int) := by omega
  obtain ⟨b1, o1, rfl, hlc, hb1, hcx⟩ := hS.no.at hx
  obtain ⟨p0, p1, p2, p3, p4, p5, p6, p7⟩ := agg_cells (o := o1 + i * 8) hcx
  obtain ⟨ea, ec, rfl⟩ := env_form hev.e
  have c0 := (block_cells hk).1 0
  have c1 := (block_cells hk).1 1
  obtain ⟨W1, hW1⟩ : ∃ W1, W1 = w.alloc (.cells (ndA x) 44) := ⟨_, rfl⟩
  obtain ⟨W2, hW2⟩ : ∃ W2, W2 = W1.setCell ⟨wb, 1, none⟩ (.int .i64 ((i : Int) + 1)) := ⟨_, rfl⟩
  obtain ⟨hO, hk1, hk2⟩ := On.mk' (env := env) hW1 hW2 hS hk hev
  have e1 := (block_cells hk1).1 1
  have g1 := (block_cells hk1).2 1
  have q0 : W2.cell? ⟨w.heap.size, 0, none⟩ = some (.int .i8 x.kind) := (block_cells hO.n).1 0
  have q1 : W2.cell? ⟨w.heap.size, 1, none⟩ = some (.int .i64 x.kids) := (block_cells hO.n).1 1
  have q2 : W2.cell? ⟨w.heap.size, 2, none⟩ = some (.int .i64 x.n) := (block_cells hO.n).1 2
  have q3 : W2.cell? ⟨w.heap.size, 3, none⟩ = some (.string x.s) := (block_cells hO.n).1 3
  have q4 : W2.cell? ⟨w.heap.size, 4, none⟩ = some (.string x.t) := (block_cells hO.n).1 4
  have q5 : W2.cell? ⟨w.heap.size, 5, none⟩ = some (.string x.u) := (block_cells hO.n).1 5
  have q6 : W2.cell? ⟨w.heap.size, 6, none⟩ = some (.int .i64 x.ln) := (block_cells hO.n).1 6
  have q7 : W2.cell? ⟨w.heap.size, 7, none⟩ = some (.int .i64 x.co) := (block_cells hO.n).1 7
  have hA := dahead_any x i env.length hk2
  have hlen : env.length ≤ 200000 := by omega
  rw [hah] at hA
  have hq := ahd_pos (ahdD_some hah)
  have hq' : (q.1 != 0) = true := by simpa using hq
  rw [tyT_bad10 (ahdD_some hah)]
  clear hah hq hT hwk hd hE htk hkk hN
  clear hcx hk1 hk2 hS hk hev hx
  go_enter Try.func69, Try.ntmps69
  go_upto_region 3 with fail
  rw [← hW1]
  clear hW1 p0 p1 p2 p3 p4 p5 p6 p7 c0 c1
  go_upto_region 4 with fail
  rw [← hW2]
  clear hW2 e1 g1
  go_wp2_with fail
  refine hA.mono ?_
  clear hA q0 q1 q2 q3 q4 q5 q6 q7
  rintro e w3 ⟨rfl, hg3, hk3⟩
  replace hO := hO.grown hg3
  clear hg3
  have m2 := (block_cells hk3).1 2
  have hE : ∀ s, DtEnd w wb ab (.slice (some ⟨b1, o1, none⟩) l.length vc) l (i + 1 + (flats ks).length) (.error q) (.returned (.string s)) w3 := fun s => ⟨hO.tw, hO.s, ⟨s, rfl⟩, _, hk3⟩
  change w3.cell? ⟨wb, 2, none⟩ = some (.int .i64 q.1) at m2
  clear hO hk3
  go_wp2_with fail
  go_ret
  exact hE _
end Go.Proofs.Ytnhihajhhlilfaa
