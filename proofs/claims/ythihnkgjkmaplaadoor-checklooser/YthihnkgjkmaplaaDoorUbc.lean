/- Package check: kidOf, of any node that may be. -/
import Derived.Test.YthihnkgjkmaplaaDoorUbb
namespace Go.Proofs.YthihnkgjkmaplaaDoor
open Go.RowKit Ck
open T3.Tp (Ty enc cns met)
set_option maxRecDepth 100000
set_option linter.unusedSimpArgs false

/-- What kidOf leaves: the checker as it was, but for the type of a Fn or a Rec. -/
structure Kt (w w' : World) (cb tb i κ : Nat) (t : Ty) : Prop where
  two : Two cb tb w w'
  cb : w'.heap[cb]? = w.heap[cb]?
  ty : (κ = 5 ∨ κ = 6) → w'.cell? ⟨tb, i, none⟩ = some (.string (S (enc t)))
  no : ¬ (κ = 5 ∨ κ = 6) → w'.cell? ⟨tb, i, none⟩ = w.cell? ⟨tb, i, none⟩
  else' : ∀ k, k ≠ i → w'.cell? ⟨tb, k, none⟩ = w.cell? ⟨tb, k, none⟩
  tz : ∀ q, w'.frozen? ⟨tb, q, none⟩ = w.frozen? ⟨tb, q, none⟩
theorem Kt.plain {w w' : World} {cb tb i κ : Nat} {t : Ty} (hB : Below w.heap.size w w') (hc : cb < w.heap.size) (ht : tb < w.heap.size) (hκ : ¬ (κ = 5 ∨ κ = 6)) : Kt w w' cb tb i κ t :=
  ⟨below_two hB cb tb, hB.block _ hc, fun h => absurd h hκ, fun _ => hB.cell (p := ⟨tb, i, none⟩) ht, fun k _ => hB.cell (p := ⟨tb, k, none⟩) ht, fun q => by unfold World.frozen?; rw [hB.block _ ht]⟩
theorem Kt.of {w w' : World} {cb tb i κ : Nat} {t : Ty} (h : Kf w w' cb tb i t) (hκ : κ = 5 ∨ κ = 6) : Kt w w' cb tb i κ t := ⟨h.two, h.cb, fun _ => h.ty, fun h' => absurd hκ h', h.else', h.tz⟩
theorem St.kt {B : Nat} {w w' : World} {cb tb i κ i' : Nat} {t : Ty} {nv : Value} {l : List Tr.Nd} (h : St B w cb tb nv l i') (k : Kt w w' cb tb i κ t) : St B w' cb tb nv l i' := by
  have hl := h.lt
  have hcb : ∀ o, w'.cell? ⟨cb, o, none⟩ = w.cell? ⟨cb, o, none⟩ := fun o => World.cell?_of_block k.cb
  refine ⟨⟨(hcb 0).trans h.nod.1, ?_⟩, (hcb 1).trans h.typ, (hcb 2).trans h.nxt, fun q => ?_, fun q => (k.tz q).trans (h.tz q), fun j hj => ?_, h.off, h.ne, h.g.two k.two h.gl.1 h.gl.2, h.gl, by have := k.two.size; omega⟩
  · rcases h.nod.2 with ⟨h1, h2⟩ | ⟨b, o, c, h1, h2, h3, h4⟩
    · exact .inl ⟨h1, h2⟩
    · obtain ⟨hb1, hb2, _⟩ := h.off b o _ c h1
      exact .inr ⟨b, o, c, h1, h2, Nat.lt_of_lt_of_le h3 k.two.size, fun j x hx m u hu => (k.two.cell (p := ⟨b, o + j * 8 + m, none⟩) h3 hb1 hb2).trans (h4 j x hx m u hu)⟩
  · rw [← h.cz q]; unfold World.frozen?; rw [k.cb]
  · by_cases hji : j = i
    · subst hji
      by_cases hκ : κ = 5 ∨ κ = 6
      · exact ⟨_, k.ty hκ⟩
      · obtain ⟨s, hs⟩ := h.str j hj
        exact ⟨s, (k.no hκ).trans hs⟩
    · obtain ⟨s, hs⟩ := h.str j hj
      exact ⟨s, (k.else' j hji).trans hs⟩

theorem kidOf_any (B : Nat) (w : World) (cb tb i i' κ : Nat) (nv sv : Value) (l : List Tr.Nd) (x : Tr.Nd) (env : Env) (hN0 : Nod x κ) (hx : l[i]? = some x) (hSt : St B w cb tb nv l i') (hS : Scope cb tb w sv env) (hs : x.s.size ≤ maxLen) :
    Calls Tryd.prog 32 #[.pointer (some ⟨cb, 0, none⟩), .int .i64 (i : Int), sv] w fun e w' =>
      (Ck.ahead x = true ∧ e = .returned (.tuple #[.nilFunc, .int .i64 21]) ∧ Below w.heap.size w w') ∨
      (Ck.ahead x = false ∧ ∃ iv, e = .returned (.tuple #[.func (.func 52) #[] #[.pointer (some ⟨w.heap.size + 2, 0, none⟩), .pointer (some ⟨w.heap.size, 0, none⟩), .pointer (some ⟨w.heap.size + 1, 0, none⟩), .pointer (some ⟨w.heap.size + 3, 0, none⟩)], .int .i64 0]) ∧ Kb w w' cb sv iv x ∧ Scope cb tb w' iv (Ck.inner x 1 env) ∧ Kt w w' cb tb i κ (.tf (wr x.t) (wr x.u))) := by
  have hl := hSt.lt
  have hk := hN0.kind
  by_cases h5 : κ = 5
  · subst h5
    have hk : x.kind = 5 := hk
    have ht := wr_note (hN0.t (.inl rfl))
    have hu := wr_note (hN0.u (.inl rfl))
    refine (kidOf_fn B w cb tb i i' nv sv l x hx hSt env hS hk ht.1 hu.1 ht.2 hu.2).mono ?_
    rintro e w' (⟨h1, h2, h3⟩ | ⟨h1, iv, h2, h3, h4, h5⟩)
    · exact .inl ⟨by unfold Ck.ahead; rw [hk]; simpa using h1, h2, h3⟩
    · exact .inr ⟨by unfold Ck.ahead; rw [hk]; simpa using h1, iv, h2, h3, by unfold Ck.inner; rw [if_pos hk]; exact h4, Kt.of h5 (.inl rfl)⟩
  by_cases h6 : κ = 6
  · subst h6
    have hk : x.kind = 6 := hk
    have ht := wr_note (hN0.t (.inr (.inl rfl)))
    have hu := wr_note (hN0.u (.inr rfl))
    refine (kidOf_rec B w cb tb i i' nv sv l x hx hSt env hS hk ht.1 hu.1 ht.2 hu.2 hs).mono ?_
    rintro e w' (⟨h1, h2, h3⟩ | ⟨h1, iv, h2, h3, h4, h5⟩)
    · exact .inl ⟨by unfold Ck.ahead; rw [hk]; simpa using h1, h2, h3⟩
    · exact .inr ⟨by unfold Ck.ahead; rw [hk]; simpa using h1, iv, h2, h3, by unfold Ck.inner; rw [if_neg (by rw [hk]; decide), if_pos hk]; exact h4, Kt.of h5 (.inr rfl)⟩
  have hah : Ck.ahead x = false := by
    unfold Ck.ahead
    have e1 : (x.kind == 5) = false := by rw [hk]; simp; omega
    have e2 : (x.kind == 6) = false := by rw [hk]; simp; omega
    rw [e1, e2]; rfl
  have hn5 : ¬ x.kind = 5 := by rw [hk]; omega
  have hn6 : ¬ x.kind = 6 := by rw [hk]; omega
  by_cases h8 : κ = 8
  · subst h8
    have hk : x.kind = 8 := hk
    have ht := wr_note (hN0.t (.inr (.inr rfl)))
    refine (kidOf_let B w cb tb i i' nv sv l x hx hSt env hS hk ht.1).mono ?_
    rintro e w' ⟨iv, h2, h3, h4, h5⟩
    exact .inr ⟨hah, iv, h2, h3, by unfold Ck.inner; rw [if_neg hn5, if_neg hn6, if_pos ⟨hk, rfl⟩]; exact h4, Kt.plain h5 (by omega) (by omega) (by omega)⟩
  · refine (kidOf_plain B w cb tb i i' nv sv l x hx hSt env hS ⟨hn5, hn6, by rw [hk]; omega⟩).mono ?_
    rintro e w' ⟨h2, h3, h5⟩
    exact .inr ⟨hah, sv, h2, h3, by unfold Ck.inner; rw [if_neg hn5, if_neg hn6, if_neg (fun h => h8 (by have := h.1; omega))]; exact hS.next (below_two h5 cb tb), Kt.plain h5 (by omega) (by omega) (by omega)⟩
end Go.Proofs.YthihnkgjkmaplaaDoor
