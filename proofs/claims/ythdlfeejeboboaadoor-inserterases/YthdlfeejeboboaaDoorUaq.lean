/- Package check: kidOf, of any node that may be. The static guarantee, plain: with annotations that are less precise a tree that is taken is taken still, with types that are less precise. Parts of a tree that is taken, plain: each has its types by itself; a part in which no name is free has them in any environment. -/
import Derived.Test.YthdlfeejeboboaaDoorUap
import Derived.Test.YthdlfeejeboboaaDoorUaf
namespace Go.Proofs.YthdlfeejeboboaaDoor
open Go.RowKit Ck
open T3.Tp (Ty enc cns met)
set_option maxRecDepth 100000
set_option linter.unusedSimpArgs false

/-- What kidOf leaves: the checker as it was, but for the type of a Fn or a Rec. -/
structure Kt (w w' : World) (cb tb i κ : Nat) (t : Ty) : Prop where
  two : Two cb tb w w'
  cb : w'.heap[cb]? = w.heap[cb]?
  ty : (κ = 5 ∨ κ = 6) → w'.cell? ⟨tb, i, none⟩ = some (.string (S (enc t)))
  no : ¬ (κ = 5 ∨ κ = 6) → w'.cell? ⟨tb, i, none⟩ = w.cell? ⟨tb, i, none⟩
  else' : ∀ k, k ≠ i → w'.cell? ⟨tb, k, none⟩ = w.cell? ⟨tb, k, none⟩
  tz : ∀ q, w'.frozen? ⟨tb, q, none⟩ = w.frozen? ⟨tb, q, none⟩
  rwo : ∀ n, Rw w tb n → Rw w' tb n
theorem Kt.plain {w w' : World} {cb tb i κ : Nat} {t : Ty} (hB : Below w.heap.size w w') (hc : cb < w.heap.size) (ht : tb < w.heap.size) (hκ : ¬ (κ = 5 ∨ κ = 6)) : Kt w w' cb tb i κ t :=
  ⟨below_two hB cb tb, hB.block _ hc, fun h => absurd h hκ, fun _ => hB.cell (p := ⟨tb, i, none⟩) ht, fun k _ => hB.cell (p := ⟨tb, k, none⟩) ht, fun q => by unfold World.frozen?; rw [hB.block _ ht], fun n hn => hn.same (hB.block _ ht)⟩
theorem Kt.of {w w' : World} {cb tb i κ : Nat} {t : Ty} (h : Kf w w' cb tb i t) (hκ : κ = 5 ∨ κ = 6) : Kt w w' cb tb i κ t := ⟨h.two, h.cb, fun _ => h.ty, fun h' => absurd hκ h', h.else', h.tz, h.rwo⟩
theorem St.kt {B : Nat} {w w' : World} {cb tb i κ i' : Nat} {t : Ty} {nv : Value} {l : List Tr.Nd} (h : St B w cb tb nv l i') (k : Kt w w' cb tb i κ t) : St B w' cb tb nv l i' := by
  have hl := h.lt
  have hcb : ∀ o, w'.cell? ⟨cb, o, none⟩ = w.cell? ⟨cb, o, none⟩ := fun o => World.cell?_of_block k.cb
  refine ⟨⟨(hcb 0).trans h.nod.1, ?_⟩, (hcb 1).trans h.typ, (hcb 2).trans h.nxt, fun q => ?_, fun q => (k.tz q).trans (h.tz q), fun j hj => ?_, h.off, h.ne, h.g.two k.two h.gl.1 h.gl.2, h.gl, by have := k.two.size; omega, k.rwo _ h.rwo⟩
  · rcases h.nod.2 with ⟨h1, h2⟩ | ⟨b, o, c, h1, h2, h3, h4⟩
    · exact .inl ⟨h1, h2⟩
    · obtain ⟨hb1, hb2, _⟩ := h.off b o _ c h1
      exact .inr ⟨b, o, c, h1, h2, Nat.lt_of_lt_of_le h3 k.two.size, fun j x hx m u hu => (k.two.cell (p := ⟨b, o + j * 8 + m, none⟩) h3 hb1 hb2).trans (h4 j x hx m u hu)⟩
  · rw [← h.cz q]; unfold World.frozen?; rw [k.cb]
  · by_cases hji : j = i
    · subst hji
      by_cases hκ : κ = 5 ∨ κ = 6
      · exact ⟨_, k.ty hκ⟩
      · obtain ⟨s, hs⟩ := h.str j hj
        exact ⟨s, (k.no hκ).trans hs⟩
    · obtain ⟨s, hs⟩ := h.str j hj
      exact ⟨s, (k.else' j hji).trans hs⟩

theorem kidOf_any (B : Nat) (w : World) (cb tb i i' κ : Nat) (nv sv : Value) (l : List Tr.Nd) (x : Tr.Nd) (env : Env) (hN0 : Nod x κ) (hx : l[i]? = some x) (hSt : St B w cb tb nv l i') (hS : Scope cb tb w sv env) (hs : x.s.size ≤ maxLen) :
    Calls Tryd.prog 33 #[.pointer (some ⟨cb, 0, none⟩), .int .i64 (i : Int), sv] w fun e w' =>
      (Ck.ahead x = true ∧ e = .returned (.tuple #[.nilFunc, .int .i64 21]) ∧ Below w.heap.size w w') ∨
      (Ck.ahead x = false ∧ ∃ iv, e = .returned (.tuple #[.func (.func 50) #[] #[.pointer (some ⟨w.heap.size + 2, 0, none⟩), .pointer (some ⟨w.heap.size, 0, none⟩), .pointer (some ⟨w.heap.size + 1, 0, none⟩), .pointer (some ⟨w.heap.size + 3, 0, none⟩)], .int .i64 0]) ∧ Kb w w' cb sv iv x ∧ Scope cb tb w' iv (Ck.inner x 1 env) ∧ Kt w w' cb tb i κ (.tf (wr x.t) (wr x.u))) := by
  have hl := hSt.lt
  have hk := hN0.kind
  by_cases h5 : κ = 5
  · subst h5
    have hk : x.kind = 5 := hk
    have ht := wr_note (hN0.t (.inl rfl))
    have hu := wr_note (hN0.u (.inl rfl))
    refine (kidOf_fn B w cb tb i i' nv sv l x hx hSt env hS hk ht.1 hu.1 ht.2 hu.2).mono ?_
    rintro e w' (⟨h1, h2, h3⟩ | ⟨h1, iv, h2, h3, h4, h5⟩)
    · exact .inl ⟨by unfold Ck.ahead; rw [hk]; simpa using h1, h2, h3⟩
    · exact .inr ⟨by unfold Ck.ahead; rw [hk]; simpa using h1, iv, h2, h3, by unfold Ck.inner; rw [if_pos hk]; exact h4, Kt.of h5 (.inl rfl)⟩
  by_cases h6 : κ = 6
  · subst h6
    have hk : x.kind = 6 := hk
    have ht := wr_note (hN0.t (.inr (.inl rfl)))
    have hu := wr_note (hN0.u (.inr rfl))
    refine (kidOf_rec B w cb tb i i' nv sv l x hx hSt env hS hk ht.1 hu.1 ht.2 hu.2 hs).mono ?_
    rintro e w' (⟨h1, h2, h3⟩ | ⟨h1, iv, h2, h3, h4, h5⟩)
    · exact .inl ⟨by unfold Ck.ahead; rw [hk]; simpa using h1, h2, h3⟩
    · exact .inr ⟨by unfold Ck.ahead; rw [hk]; simpa using h1, iv, h2, h3, by unfold Ck.inner; rw [if_neg (by rw [hk]; decide), if_pos hk]; exact h4, Kt.of h5 (.inr rfl)⟩
  have hah : Ck.ahead x = false := by
    unfold Ck.ahead
    have e1 : (x.kind == 5) = false := by rw [hk]; simp; omega
    have e2 : (x.kind == 6) = false := by rw [hk]; simp; omega
    rw [e1, e2]; rfl
  have hn5 : ¬ x.kind = 5 := by rw [hk]; omega
  have hn6 : ¬ x.kind = 6 := by rw [hk]; omega
  by_cases h8 : κ = 8
  · subst h8
    have hk : x.kind = 8 := hk
    have ht := wr_note (hN0.t (.inr (.inr rfl)))
    refine (kidOf_let B w cb tb i i' nv sv l x hx hSt env hS hk ht.1).mono ?_
    rintro e w' ⟨iv, h2, h3, h4, h5⟩
    exact .inr ⟨hah, iv, h2, h3, by unfold Ck.inner; rw [if_neg hn5, if_neg hn6, if_pos ⟨hk, rfl⟩]; exact h4, Kt.plain h5 (by omega) (by omega) (by omega)⟩
  · refine (kidOf_plain B w cb tb i i' nv sv l x hx hSt env hS ⟨hn5, hn6, by rw [hk]; omega⟩).mono ?_
    rintro e w' ⟨h2, h3, h5⟩
    exact .inr ⟨hah, sv, h2, h3, by unfold Ck.inner; rw [if_neg hn5, if_neg hn6, if_neg (fun h => h8 (by have := h.1; omega))]; exact hS.next (below_two h5 cb tb), Kt.plain h5 (by omega) (by omega) (by omega)⟩
end Go.Proofs.YthdlfeejeboboaaDoor
namespace Go.Proofs.YthdlfeejeboboaaDoor
set_option maxRecDepth 100000
namespace Ck
open T3.Tp (Ty enc cns prc met sta met_l met_r met_best prc_trans prc_refl prc_len prc_q)
open Tr (T Nd nm cut32 flat flats)

theorem cns_mono {s t s' t' : Ty} (h : cns s t = true) (hs : prc s s' = true) (ht : prc t t' = true) : cns s' t' = true ∧ prc (met s t) (met s' t') = true :=
  met_best (prc_trans (met_l h) hs) (prc_trans (met_r h) ht)
theorem mt_mono {t t' A B : Ty} {h : UInt8} (e : mt t h = some (A, B)) (p : prc t t' = true) : ∃ A' B', mt t' h = some (A', B') ∧ prc A A' = true ∧ prc B B' = true := by
  cases t' with
  | tq => exact ⟨_, _, rfl, prc_q _, prc_q _⟩
  | ti | tb | tt => cases t <;> simp [T3.Tp.prc] at p <;> simp [mt] at e
  | tl a' | tx a' =>
    cases t <;> simp [T3.Tp.prc] at p
    simp only [mt] at e ⊢
    split at e
    · cases e; rename_i hh; rw [if_pos hh]; exact ⟨_, _, rfl, p, p⟩
    · cases e
  | tf a' b' | tp a' b' =>
    cases t <;> simp [T3.Tp.prc] at p
    simp only [mt] at e ⊢
    split at e
    · cases e; rename_i hh; rw [if_pos hh]; exact ⟨_, _, rfl, p.1, p.2⟩
    · cases e

/-- Kids with types that are less precise. -/
def LoK : List (Nat × Ty) → List (Nat × Ty) → Prop
  | [], [] => True
  | a :: r, b :: s => prc a.2 b.2 = true ∧ LoK r s
  | _, _ => False
theorem LoK.get : ∀ {ks ls : List (Nat × Ty)}, LoK ks ls → ∀ {j : Nat} {k : Nat × Ty}, ks[j]? = some k → ∃ l, ls[j]? = some l ∧ prc k.2 l.2 = true
  | [], [], _, j, k, e => by simp at e
  | a :: r, b :: s, h, 0, k, e => by simp at e; subst e; exact ⟨b, rfl, h.1⟩
  | a :: r, b :: s, h, j + 1, k, e => by simp at e; have := LoK.get h.2 e; simpa using this
theorem asks_mono {u u' : Ty} (hu : prc u u' = true) : ∀ {ks ls : List (Nat × Ty)}, LoK ks ls → asks u ks = .ok () → asks u' ls = .ok ()
  | [], [], _, _ => rfl
  | a :: r, b :: s, h, e => by
    obtain ⟨p, t⟩ := a; obtain ⟨q, t'⟩ := b
    simp only [asks] at e ⊢
    split at e
    · rename_i hc; rw [if_pos (cns_mono hc h.1 hu).1]; exact asks_mono hu h.2 e
    · cases e
theorem others_mono {A A' : Ty} (hA : prc A A' = true) (kid : Nat) : ∀ {ks ls : List (Nat × Ty)} (j : Nat), LoK ks ls → others A kid j ks = .ok () → others A' kid j ls = .ok ()
  | [], [], _, _, _ => rfl
  | a :: r, b :: s, j, h, e => by
    obtain ⟨p, t⟩ := a; obtain ⟨q, t'⟩ := b
    simp only [others] at e ⊢
    by_cases hj : j = kid
    · rw [if_pos hj] at e ⊢; exact others_mono hA kid _ h.2 e
    · rw [if_neg hj] at e ⊢
      split at e
      · rename_i hc; rw [if_pos (cns_mono hc h.1 hA).1]; exact others_mono hA kid _ h.2 e
      · cases e
theorem giv_mono (g : Nat) {a b a' b' : Ty} (ha : prc a a' = true) (hb : prc b b' = true) : prc (giv g a b) (giv g a' b') = true := by
  unfold giv
  split
  · exact ha
  · split
    · exact hb
    · split
      · simpa [T3.Tp.prc] using ha
      · rfl
theorem use_mono {u : Nat × UInt8 × Nat} {ks ls : List (Nat × Ty)} {t : Ty} (h : LoK ks ls) (e : use u ks = .ok t) : ∃ t', use u ls = .ok t' ∧ prc t t' = true := by
  unfold use at e ⊢
  cases hk : ks[u.1]? with
  | none => rw [hk] at e; cases e
  | some k =>
    obtain ⟨p, s⟩ := k
    obtain ⟨⟨q, s'⟩, hl, hp⟩ := h.get hk
    rw [hk] at e; rw [hl]
    simp only at e ⊢
    cases hm : mt s u.2.1 with
    | none => rw [hm] at e; cases e
    | some m =>
      obtain ⟨A, B⟩ := m
      obtain ⟨A', B', hm', hA, hB⟩ := mt_mono hm hp
      rw [hm] at e; rw [hm']
      simp only at e ⊢
      cases ho : others A u.1 0 ks with
      | error x => rw [ho] at e; cases e
      | ok v =>
        rw [ho] at e; rw [others_mono hA u.1 0 h ho]
        cases e
        exact ⟨_, rfl, giv_mono _ hA hB⟩
theorem opr_mono {o : Ty × Ty} {ks ls : List (Nat × Ty)} {t : Ty} (h : LoK ks ls) (e : opr o ks = .ok t) : opr o ls = .ok t := by
  unfold opr at e ⊢
  cases ha : asks o.1 ks with
  | error x => rw [ha] at e; cases e
  | ok v => rw [ha] at e; rw [asks_mono (prc_refl _) h ha]; exact e
theorem meetK_mono {i i' : Nat} {a a' t : Ty} {k l : Nat × Ty} (ha : prc a a' = true) (h : prc k.2 l.2 = true) (e : meetK i a k = .ok t) : ∃ t', meetK i' a' l = .ok t' ∧ prc t t' = true := by
  unfold meetK at e ⊢
  split at e
  · rename_i hc
    obtain ⟨h1, h2⟩ := cns_mono hc ha h
    rw [if_pos h1]
    split at e
    · rename_i hz
      rw [if_pos (Nat.le_trans (prc_len h2) hz)]
      cases e
      exact ⟨_, rfl, h2⟩
    · cases e
  · cases e
theorem meets_mono {i i' : Nat} : ∀ {ks ls : List (Nat × Ty)} {a a' t : Ty}, prc a a' = true → LoK ks ls → meets i a ks = .ok t → ∃ t', meets i' a' ls = .ok t' ∧ prc t t' = true
  | [], [], a, a', t, ha, _, e => by cases e; exact ⟨_, rfl, ha⟩
  | k :: r, l :: s, a, a', t, ha, h, e => by
    simp only [meets] at e ⊢
    cases hm : meetK i a k with
    | error x => rw [hm] at e; cases e
    | ok b =>
      obtain ⟨b', hb, hp⟩ := meetK_mono (i' := i') ha h.1 hm
      rw [hm] at e; rw [hb]
      exact meets_mono hp h.2 e
theorem made_mono {i i' : Nat} {t t' u : Ty} (h : prc t t' = true) (e : made i t = .ok u) : ∃ u', made i' t' = .ok u' ∧ prc u u' = true := by
  unfold made at e ⊢
  split at e
  · rename_i hz
    rw [if_pos (Nat.le_trans (prc_len h) hz)]
    cases e
    exact ⟨_, rfl, h⟩
  · cases e

/-- The same node, but for annotations that are less precise. -/
structure LoN (x y : Nd) : Prop where
  kind : y.kind = x.kind
  kids : y.kids = x.kids
  s : y.s = x.s
  t : prc (wr x.t) (wr y.t) = true
  u : prc (wr x.u) (wr y.u) = true
/-- An environment that is less precise, as far as some names go. -/
def RelOn (P : List UInt8 → Prop) (e f : Env) : Prop := ∀ n, P n → ∀ t, look e n = some t → ∃ t', look f n = some t' ∧ prc t t' = true
theorem RelOn.cons {P Q : List UInt8 → Prop} {e f : Env} (h : RelOn P e f) {n : List UInt8} {t t' : Ty} (ht : prc t t' = true) (hQ : ∀ m, Q m → m = n ∨ P m) : RelOn Q ((n, t) :: e) ((n, t') :: f) := by
  intro m hm u hu
  simp only [Ck.look] at hu ⊢
  by_cases hn : m = n
  · rw [if_pos hn] at hu ⊢; cases hu; exact ⟨_, rfl, ht⟩
  · rw [if_neg hn] at hu ⊢; exact h m ((hQ m hm).resolve_left hn) u hu
theorem LoN.nm {x y : Nd} (h : LoN x y) : nm y = nm x := by unfold Tr.nm; rw [h.s]
theorem LoN.fn {x y : Nd} (h : LoN x y) : prc (.tf (wr x.t) (wr x.u)) (.tf (wr y.t) (wr y.u)) = true := by simp [T3.Tp.prc, h.t, h.u]
theorem inner_mono {x y : Nd} (h : LoN x y) (j : Nat) {P : List UInt8 → Prop} {e f : Env} (he : RelOn P e f) : RelOn (fun n => n ∈ Tr.binds x j ∨ P n) (inner x j e) (inner y j f) := by
  unfold inner Tr.binds
  rw [h.kind, h.nm]
  by_cases c5 : x.kind = 5
  · simp only [if_pos c5]
    exact he.cons h.t (fun m hm => by simpa using hm)
  · simp only [if_neg c5]
    by_cases c6 : x.kind = 6
    · simp only [if_pos c6]
      refine RelOn.cons (P := fun m => m = (cut32 (Tr.nm x)).1 ∨ P m) (he.cons h.fn (fun m hm => hm)) h.t (fun m hm => ?_)
      simp at hm
      rcases hm with (h1 | h1) | h1
      · exact .inr (.inl h1)
      · exact .inl h1
      · exact .inr (.inr h1)
    · simp only [if_neg c6]
      by_cases c8 : x.kind = 8 ∧ j = 1
      · simp only [if_pos c8]
        exact he.cons h.t (fun m hm => by simpa using hm)
      · simp only [if_neg c8]
        intro m hm
        exact he m (by simpa using hm)
theorem rule_mono {P : List UInt8 → Prop} {e f : Env} {x y : Nd} {i i' : Nat} {ks ls : List (Nat × Ty)} {t : Ty} (he : RelOn P e f) (hv : x.kind = 4 → P (Tr.nm x)) (h : LoN x y) (hk : LoK ks ls) (hr : rule e x i ks = .ok t) : ∃ t', rule f y i' ls = .ok t' ∧ prc t t' = true := by
  unfold rule at hr ⊢
  rw [h.kind, h.nm]
  by_cases c4 : x.kind = 4
  · rw [if_pos c4] at hr ⊢
    cases hl : look e (Tr.nm x) with
    | none => rw [hl] at hr; cases hr
    | some u =>
      obtain ⟨t', h1, h2⟩ := he _ (hv c4) _ hl
      rw [hl] at hr; rw [h1]; cases hr
      exact ⟨_, rfl, h2⟩
  rw [if_neg c4] at hr ⊢
  by_cases c5 : x.kind = 5 ∨ x.kind = 6
  · rw [if_pos c5] at hr ⊢
    match ks, ls, hk with
    | [], _, _ => cases hr
    | k :: r, l :: s, hk =>
      simp only at hr ⊢
      split at hr
      · rename_i hc; rw [if_pos (cns_mono hc hk.1 h.u).1]; cases hr; exact ⟨_, rfl, h.fn⟩
      · cases hr
  rw [if_neg c5] at hr ⊢
  by_cases c8 : x.kind = 8
  · rw [if_pos c8] at hr ⊢
    match ks, ls, hk with
    | [], _, _ => cases hr
    | [_], _, _ => cases hr
    | k :: b :: r, l :: b' :: s, hk =>
      simp only at hr ⊢
      split at hr
      · rename_i hc; rw [if_pos (cns_mono hc hk.1 h.t).1]; cases hr; exact ⟨_, rfl, hk.2.1⟩
      · cases hr
  rw [if_neg c8] at hr ⊢
  by_cases c29 : x.kind = 29
  · rw [if_pos c29] at hr ⊢
    match ks, ls, hk with
    | [], _, _ => cases hr
    | k :: r, l :: s, hk =>
      simp only at hr ⊢
      split at hr
      · rename_i hc; rw [if_pos (cns_mono hc hk.1 h.t).1]; cases hr; exact ⟨_, rfl, h.t⟩
      · cases hr
  rw [if_neg c29] at hr ⊢
  by_cases c9 : x.kind = 9
  · rw [if_pos c9] at hr ⊢
    match ks, ls, hk with
    | [], _, _ => cases hr
    | [_], _, _ => cases hr
    | [_, _], _, _ => cases hr
    | k :: a :: b :: r, l :: a' :: b' :: s, hk =>
      simp only at hr ⊢
      split at hr
      · rename_i hc; rw [if_pos (cns_mono hc hk.1 (prc_refl _)).1]; exact meetK_mono hk.2.1 hk.2.2.1 hr
      · cases hr
  rw [if_neg c9] at hr ⊢
  by_cases c18 : x.kind = 18
  · rw [if_pos c18] at hr ⊢
    match ks, ls, hk with
    | [], _, _ => cases hr
    | [_], _, _ => cases hr
    | a :: b :: r, a' :: b' :: s, hk => exact made_mono (by simp [T3.Tp.prc, hk.1, hk.2.1]) hr
  rw [if_neg c18] at hr ⊢
  by_cases c26 : x.kind = 26
  · rw [if_pos c26] at hr ⊢
    match ks, ls, hk with
    | [], _, _ => cases hr
    | a :: r, a' :: s, hk => exact made_mono (by simp [T3.Tp.prc, hk.1]) hr
  rw [if_neg c26] at hr ⊢
  by_cases c21 : x.kind = 21
  · rw [if_pos c21] at hr ⊢
    cases hm : meets i .tq ks with
    | error e => rw [hm] at hr; cases hr
    | ok u =>
      obtain ⟨u', h1, h2⟩ := meets_mono (i' := i') (prc_refl _) hk hm
      rw [hm] at hr; rw [h1]
      exact made_mono (by simpa [T3.Tp.prc] using h2) hr
  rw [if_neg c21] at hr ⊢
  cases hu : useT x.kind with
  | some u => rw [hu] at hr; exact use_mono hk hr
  | none => rw [hu] at hr; exact ⟨t, opr_mono hk hr, prc_refl _⟩

mutual
def LoT : T → T → Prop
  | .nd x ks, .nd y ls => LoN x y ∧ LoL ks ls
def LoL : List T → List T → Prop
  | [], [] => True
  | t :: r, u :: s => LoT t u ∧ LoL r s
  | _, _ => False
end
mutual
theorem LoT.len : ∀ {t u : T}, LoT t u → (flat u).length = (flat t).length
  | .nd x ks, .nd y ls, h => by simp only [flat, List.length_cons]; rw [LoL.len h.2]
theorem LoL.len : ∀ {t u : List T}, LoL t u → (flats u).length = (flats t).length
  | [], [], _ => rfl
  | a :: r, b :: s, h => by simp only [flats, List.length_append]; rw [LoT.len h.1, LoL.len h.2]
end
/-- Types that are less precise, one by one. -/
def LoY : List Ty → List Ty → Prop
  | [], [] => True
  | a :: r, b :: s => prc a b = true ∧ LoY r s
  | _, _ => False
theorem LoY.app : ∀ {a b c d : List Ty}, LoY a b → LoY c d → LoY (a ++ c) (b ++ d)
  | [], [], _, _, _, h => h
  | _ :: _, _ :: _, _, _, h, k => ⟨h.1, LoY.app h.2 k⟩
theorem LoY.hd {a b : List Ty} (h : LoY a b) : prc (a.headD .tq) (b.headD .tq) = true := by
  match a, b, h with
  | [], [], _ => rfl
  | x :: a, y :: b, h => exact h.1
/-- Kids, their parts' types less precise. -/
def LoR : List (Nat × List Ty) → List (Nat × List Ty) → Prop
  | [], [] => True
  | a :: r, b :: s => LoY a.2 b.2 ∧ LoR r s
  | _, _ => False
theorem LoR.kids : ∀ {a b : List (Nat × List Ty)}, LoR a b → LoK (a.map fun r => (r.1, r.2.headD .tq)) (b.map fun r => (r.1, r.2.headD .tq))
  | [], [], _ => trivial
  | _ :: _, _ :: _, h => ⟨h.1.hd, LoR.kids h.2⟩
theorem LoR.flat : ∀ {a b : List (Nat × List Ty)}, LoR a b → LoY (a.map Prod.snd).flatten (b.map Prod.snd).flatten
  | [], [], _ => trivial
  | a :: r, b :: s, h => by simp only [List.map_cons, List.flatten_cons]; exact h.1.app (LoR.flat h.2)
theorem ahead_mono {x y : Nd} (h : LoN x y) (e : ahead x = false) : ahead y = false := by
  unfold ahead at e ⊢
  rw [h.kind]
  cases hk : (x.kind == 5 || x.kind == 6) with
  | false => rfl
  | true =>
    rw [hk] at e
    simp only [Bool.true_and, decide_eq_false_iff_not] at e ⊢
    exact fun h' => e (Nat.lt_of_lt_of_le h' (prc_len h.fn))
mutual
/-- Each name that stands free in a tree is one of these. -/
def NVT (P : List UInt8 → Prop) : T → Prop
  | .nd x ks => (x.kind = 4 → P (Tr.nm x)) ∧ NVL P x 0 ks
def NVL (P : List UInt8 → Prop) (x : Nd) (j : Nat) : List T → Prop
  | [] => True
  | t :: r => NVT (fun n => n ∈ Tr.binds x j ∨ P n) t ∧ NVL P x (j + 1) r
end
mutual
theorem nv_all : ∀ (t : T) (P : List UInt8 → Prop), (∀ n, P n) → NVT P t
  | .nd x ks, P, h => ⟨fun _ => h _, nv_alls ks P x 0 h⟩
theorem nv_alls : ∀ (ts : List T) (P : List UInt8 → Prop) (x : Nd) (j : Nat), (∀ n, P n) → NVL P x j ts
  | [], _, _, _, _ => trivial
  | t :: r, P, x, j, h => ⟨nv_all t _ (fun n => .inr (h n)), nv_alls r P x (j + 1) h⟩
end
set_option maxHeartbeats 4000000
mutual
theorem mono_T : ∀ (t u : T) (P : List UInt8 → Prop) (e f : Env) (i i' : Nat) (a : List Ty), LoT t u → NVT P t → RelOn P e f → ckT e t i = .ok a → ∃ b, ckT f u i' = .ok b ∧ LoY a b
  | .nd x ks, .nd y ls, P, e, f, i, i', a, h, hv, he, hc => by
    simp only [ckT] at hc ⊢
    split at hc
    · cases hc
    rename_i ha
    rw [if_neg (by rw [ahead_mono h.1 (by simpa using ha)]; simp)]
    cases hl : ckL e x 0 ks (i + 1) with
    | error v => rw [hl] at hc; cases hc
    | ok rs =>
      obtain ⟨rs', h1, h2⟩ := mono_L ks ls x y 0 P e f (i + 1) (i' + 1) rs h.1 h.2 hv.2 he hl
      rw [hl] at hc; rw [h1]
      simp only at hc ⊢
      cases hr : rule e x i (rs.map fun r => (r.1, r.2.headD .tq)) with
      | error v => rw [hr] at hc; cases hc
      | ok t =>
        obtain ⟨t', h3, h4⟩ := rule_mono (i' := i') he hv.1 h.1 h2.kids hr
        rw [hr] at hc; rw [h3]
        cases hc
        exact ⟨_, rfl, h4, h2.flat⟩
theorem mono_L : ∀ (ts us : List T) (x y : Nd) (j : Nat) (P : List UInt8 → Prop) (e f : Env) (i i' : Nat) (a : List (Nat × List Ty)), LoN x y → LoL ts us → NVL P x j ts → RelOn P e f → ckL e x j ts i = .ok a → ∃ b, ckL f y j us i' = .ok b ∧ LoR a b
  | [], [], x, y, j, P, e, f, i, i', a, _, _, _, _, hc => by simp only [ckL] at hc ⊢; cases hc; exact ⟨_, rfl, trivial⟩
  | t :: r, u :: s, x, y, j, P, e, f, i, i', a, hx, h, hv, he, hc => by
    simp only [ckL] at hc ⊢
    cases h1 : ckT (inner x j e) t i with
    | error v => rw [h1] at hc; cases hc
    | ok p =>
      obtain ⟨p', e1, e2⟩ := mono_T t u _ _ _ i i' p h.1 hv.1 (inner_mono hx j he) h1
      rw [h1] at hc; rw [e1]
      simp only at hc ⊢
      cases h2 : ckL e x (j + 1) r (i + (flat t).length) with
      | error v => rw [h2] at hc; cases hc
      | ok q =>
        obtain ⟨q', e3, e4⟩ := mono_L r s x y (j + 1) P e f _ (i' + (flat u).length) q hx h.2 hv.2 he h2
        rw [h2] at hc
        rw [e3]
        cases hc
        exact ⟨_, rfl, e2, e4⟩
end
/-- Lists of nodes that are less precise one by one are trees that are. -/
def LoF : List Nd → List Nd → Prop
  | [], [] => True
  | a :: r, b :: s => LoN a b ∧ LoF r s
  | _, _ => False
theorem LoF.cut : ∀ {a b c d : List Nd}, LoF (a ++ c) (b ++ d) → a.length = b.length → LoF a b ∧ LoF c d
  | [], [], _, _, h, _ => ⟨trivial, h⟩
  | x :: a, y :: b, _, _, h, e => by
    have := LoF.cut h.2 (by simpa using e)
    exact ⟨⟨h.1, this.1⟩, this.2⟩
theorem LoL.cut : ∀ {a b c d : List T}, LoL (a ++ c) (b ++ d) → a.length = b.length → LoL a b ∧ LoL c d
  | [], [], _, _, h, _ => ⟨trivial, h⟩
  | x :: a, y :: b, _, _, h, e => by
    have := LoL.cut h.2 (by simpa using e)
    exact ⟨⟨h.1, this.1⟩, this.2⟩
theorem lol_of : ∀ (n : Nat) (ts us : List T), (flats ts).length ≤ n → Tr.wfs ts → Tr.wfs us → LoF (flats ts) (flats us) → ts.length = us.length → LoL ts us
  | _, [], [], _, _, _, _, _ => trivial
  | 0, .nd x ks :: r, _, hn, _, _, _, _ => by simp [flats, flat] at hn
  | n + 1, .nd x ks :: r, .nd y ls :: s, hn, hw, hw', h, e => by
    simp only [flats, flat, List.cons_append] at h hn
    have hx := h.1
    have hk : ks.length = ls.length := by
      have h1 := hw.1.1; have h2 := hw'.1.1; have h3 := hx.kids
      omega
    have hl := lol_of n (ks ++ r) (ls ++ s) (by rw [Tr.flats_append]; simpa using hn) ((Tr.wfs_append _ _).2 ⟨hw.1.2, hw.2⟩) ((Tr.wfs_append _ _).2 ⟨hw'.1.2, hw'.2⟩) (by rw [Tr.flats_append, Tr.flats_append]; exact h.2) (by simp at e ⊢; omega)
    have := hl.cut hk
    exact ⟨⟨hx, this.1⟩, this.2⟩
/-- The static guarantee. -/
theorem loose {t u : T} {e f : Env} {a : List Ty} (hw : Tr.wf t) (hw' : Tr.wf u) (h : LoF (flat t) (flat u)) (he : RelOn (fun _ => True) e f) (hc : ckT e t 0 = .ok a) : ∃ b, ckT f u 0 = .ok b ∧ LoY a b := by
  have hl := lol_of _ [t] [u] (Nat.le_refl _) ⟨hw, trivial⟩ ⟨hw', trivial⟩ (by simpa [flats] using h) rfl
  exact mono_T t u _ e f 0 0 a hl.1 (nv_all t _ fun _ => trivial) he hc

theorem LoY.anti : ∀ {a b : List Ty}, LoY a b → LoY b a → a = b
  | [], [], _, _ => rfl
  | x :: a, y :: b, h, k => by rw [T3.Tp.prc_anti h.1 k.1, LoY.anti h.2 k.2]
theorem LoN.rfl (x : Nd) : LoN x x := ⟨Eq.refl _, Eq.refl _, Eq.refl _, prc_refl _, prc_refl _⟩
mutual
theorem lot_refl : ∀ t : T, LoT t t
  | .nd x ks => ⟨.rfl x, lol_refl ks⟩
theorem lol_refl : ∀ ts : List T, LoL ts ts
  | [] => trivial
  | t :: r => ⟨lot_refl t, lol_refl r⟩
end
/-- A closed part by itself. -/
theorem closed {t : T} {e f : Env} {i j : Nat} {a : List Ty} (h : NVT (fun _ => False) t) (hc : ckT e t i = .ok a) : ckT f t j = .ok a := by
  obtain ⟨b, h1, h2⟩ := mono_T t t _ e f i j a (lot_refl t) h (fun _ hf => hf.elim) hc
  obtain ⟨a', h3, h4⟩ := mono_T t t _ f e j i b (lot_refl t) h (fun _ hf => hf.elim) h1
  rw [hc] at h3
  cases h3
  rw [h1, h2.anti h4]
end Ck
end Go.Proofs.YthdlfeejeboboaaDoor
namespace Go.Proofs.YthdlfeejeboboaaDoor
set_option maxRecDepth 100000
namespace Ck
open T3.Tp (Ty enc cns prc met sta)
open Tr (T Nd nm cut32 flat flats wf wfs)

set_option maxHeartbeats 1000000
mutual
theorem len_T : ∀ (t : T) (e : Env) (i : Nat) (a : List Ty), ckT e t i = .ok a → a.length = (flat t).length
  | .nd x ks, e, i, a, hc => by
    simp only [ckT] at hc
    split at hc
    · cases hc
    cases hl : ckL e x 0 ks (i + 1) with
    | error v => rw [hl] at hc; cases hc
    | ok rs =>
      rw [hl] at hc
      simp only at hc
      split at hc
      · cases hc
      · cases hc
        simp only [flat, List.length_cons]
        rw [len_L ks e x 0 (i + 1) rs hl]
theorem len_L : ∀ (ts : List T) (e : Env) (x : Nd) (j i : Nat) (a : List (Nat × List Ty)), ckL e x j ts i = .ok a → (a.map Prod.snd).flatten.length = (flats ts).length
  | [], e, x, j, i, a, hc => by simp only [ckL] at hc; cases hc; rfl
  | t :: r, e, x, j, i, a, hc => by
    simp only [ckL] at hc
    cases h1 : ckT (inner x j e) t i with
    | error v => rw [h1] at hc; cases hc
    | ok p =>
      rw [h1] at hc
      simp only at hc
      cases h2 : ckL e x (j + 1) r (i + (flat t).length) with
      | error v => rw [h2] at hc; cases hc
      | ok q =>
        rw [h2] at hc
        cases hc
        simp only [List.map_cons, List.flatten_cons, List.length_append, flats]
        rw [len_T t _ i p h1, len_L r e x (j + 1) _ q h2]
end
mutual
theorem part_T : ∀ (t : T) (e : Env) (i : Nat) (a : List Ty) (q : Nat), wf t → ckT e t i = .ok a → q < (flat t).length →
    ∃ u rest f, (flat t).drop q = flat u ++ rest ∧ wf u ∧ ckT f u (i + q) = .ok ((a.drop q).take (flat u).length)
  | .nd x ks, e, i, a, 0, hw, hc, _ => ⟨.nd x ks, [], e, by simp, hw, by rw [Nat.add_zero, hc, List.drop_zero, ← len_T _ _ _ _ hc, List.take_length]⟩
  | .nd x ks, e, i, a, q + 1, hw, hc, hq => by
    simp only [ckT] at hc
    split at hc
    · cases hc
    cases hl : ckL e x 0 ks (i + 1) with
    | error v => rw [hl] at hc; cases hc
    | ok rs =>
      rw [hl] at hc
      simp only at hc
      split at hc
      · cases hc
      · cases hc
        obtain ⟨u, rest, f, h1, h2, h3⟩ := part_L ks e x 0 (i + 1) rs q hw.2 hl (by simp [flat] at hq; omega)
        refine ⟨u, rest, f, by simpa [flat] using h1, h2, ?_⟩
        rw [show i + (q + 1) = i + 1 + q by omega, h3]
        rfl
theorem part_L : ∀ (ts : List T) (e : Env) (x : Nd) (j i : Nat) (a : List (Nat × List Ty)) (q : Nat), wfs ts → ckL e x j ts i = .ok a → q < (flats ts).length →
    ∃ u rest f, (flats ts).drop q = flat u ++ rest ∧ wf u ∧ ckT f u (i + q) = .ok (((a.map Prod.snd).flatten.drop q).take (flat u).length)
  | [], e, x, j, i, a, q, _, _, hq => by simp [flats] at hq
  | t :: r, e, x, j, i, a, q, hw, hc, hq => by
    simp only [ckL] at hc
    cases h1 : ckT (inner x j e) t i with
    | error v => rw [h1] at hc; cases hc
    | ok p =>
      rw [h1] at hc
      simp only at hc
      cases h2 : ckL e x (j + 1) r (i + (flat t).length) with
      | error v => rw [h2] at hc; cases hc
      | ok b =>
        rw [h2] at hc
        cases hc
        have hlp := len_T t _ i p h1
        simp only [flats, List.map_cons, List.flatten_cons, List.length_append] at hq ⊢
        by_cases hlt : q < (flat t).length
        · obtain ⟨u, rest, f, g1, g2, g3⟩ := part_T t _ i p q hw.1 h1 hlt
          have hz : (flat u).length ≤ (flat t).length - q := by
            have := congrArg List.length g1
            simp only [List.length_drop, List.length_append] at this
            omega
          refine ⟨u, rest ++ flats r, f, ?_, g2, ?_⟩
          · rw [List.drop_append_of_le_length (by omega), g1, List.append_assoc]
          · rw [g3, List.drop_append_of_le_length (by omega), List.take_append_of_le_length (by simp only [List.length_drop]; omega)]
        · obtain ⟨u, rest, f, g1, g2, g3⟩ := part_L r e x (j + 1) _ b (q - (flat t).length) hw.2 h2 (by omega)
          refine ⟨u, rest, f, ?_, g2, ?_⟩
          · rw [List.drop_append, List.drop_eq_nil_of_le (by omega), List.nil_append, g1]
          · rw [show i + q = i + (flat t).length + (q - (flat t).length) by omega, g3, List.drop_append (l₁ := p), List.drop_eq_nil_of_le («as» := p) (i := q) (by omega), List.nil_append, hlp]
end
mutual
theorem NVT.mono : ∀ {t : T} {P Q : List UInt8 → Prop}, (∀ n, P n → Q n) → NVT P t → NVT Q t
  | .nd _ _, _, _, h, hv => ⟨fun k => h _ (hv.1 k), NVL.mono h hv.2⟩
theorem NVL.mono : ∀ {ts : List T} {x : Nd} {j : Nat} {P Q : List UInt8 → Prop}, (∀ n, P n → Q n) → NVL P x j ts → NVL Q x j ts
  | [], _, _, _, _, _, _ => trivial
  | _ :: _, _, _, _, _, h, hv => ⟨NVT.mono (fun n hn => hn.elim .inl (fun k => .inr (h n k))) hv.1, NVL.mono h hv.2⟩
end
mutual
theorem nv_ob : ∀ (t : T) (b : List (List UInt8)), (∀ o ∈ Tr.obT b t, o = none) → NVT (fun n => n ∈ b) t
  | .nd x ks, b, h => by
    simp only [Tr.obT, List.mem_cons, forall_eq_or_imp] at h
    refine ⟨fun k => ?_, nv_obs ks b x 0 h.2⟩
    have h1 := h.1
    unfold Tr.ob1 at h1
    by_cases hn : nm x ∈ b
    · exact hn
    · rw [if_pos ⟨k, hn⟩] at h1; cases h1
theorem nv_obs : ∀ (ts : List T) (b : List (List UInt8)) (x : Nd) (j : Nat), (∀ o ∈ Tr.obL b x j ts, o = none) → NVL (fun n => n ∈ b) x j ts
  | [], _, _, _, _ => trivial
  | t :: r, b, x, j, h => by
    simp only [Tr.obL, List.mem_append] at h
    refine ⟨NVT.mono (fun n hn => ?_) (nv_ob t (Tr.binds x j ++ b) fun o ho => h o (.inl ho)), nv_obs r b x (j + 1) fun o ho => h o (.inr ho)⟩
    simpa using hn
end
theorem adds_nil : ∀ (l : List (Option (List UInt8))) (acc : List (List UInt8)), Tr.adds acc l = [] → acc = [] ∧ ∀ o ∈ l, o = none
  | [], acc, h => ⟨h, by simp⟩
  | none :: r, acc, h => by
    have := adds_nil r acc h
    exact ⟨this.1, by simpa using this.2⟩
  | some n :: r, acc, h => by
    have := (adds_nil r (Tr.add1 acc (some n)) h).1
    unfold Tr.add1 at this
    simp only at this
    split at this
    · rename_i hn; subst this; simp at hn
    · simp at this
/-- No name is free in it. -/
theorem nv_free {t : T} (h : Tr.free t = []) : NVT (fun _ => False) t :=
  NVT.mono (fun n hn => by simp at hn) (nv_ob t [] (adds_nil _ _ h).2)
end Ck
end Go.Proofs.YthdlfeejeboboaaDoor
