/- Package check: kidOf, of any node that may be. Package check: what part's loop over the kids keeps. Package check: no type is too large. Package check: what environment answers. -/
import Derived.Test.YthdlfeejeboboaaGreatDoorUas
import Derived.Test.YthdlfeejeboboaaGreatDoorUan
import Derived.Test.YthdlfeejeboboaaGreatDoorUat
namespace Go.Proofs.YthdlfeejeboboaaGreatDoor
open Go.RowKit Ck
open T3.Tp (Ty enc cns met)
set_option maxRecDepth 100000
set_option linter.unusedSimpArgs false

structure Kt (w w' : World) (cb tb i κ : Nat) (t : Ty) : Prop where
  two : Two cb tb w w'
  cb : w'.heap[cb]? = w.heap[cb]?
  ty : (κ = 5 ∨ κ = 6) → w'.cell? ⟨tb, i, none⟩ = some (.string (S (enc t)))
  no : ¬ (κ = 5 ∨ κ = 6) → w'.cell? ⟨tb, i, none⟩ = w.cell? ⟨tb, i, none⟩
  else' : ∀ k, k ≠ i → w'.cell? ⟨tb, k, none⟩ = w.cell? ⟨tb, k, none⟩
  tz : ∀ q, w'.frozen? ⟨tb, q, none⟩ = w.frozen? ⟨tb, q, none⟩
  rwo : ∀ n, Rw w tb n → Rw w' tb n
theorem Kt.plain {w w' : World} {cb tb i κ : Nat} {t : Ty} (hB : Below w.heap.size w w') (hc : cb < w.heap.size) (ht : tb < w.heap.size) (hκ : ¬ (κ = 5 ∨ κ = 6)) : Kt w w' cb tb i κ t :=
  ⟨below_two hB cb tb, hB.block _ hc, fun h => absurd h hκ, fun _ => hB.cell (p := ⟨tb, i, none⟩) ht, fun k _ => hB.cell (p := ⟨tb, k, none⟩) ht, fun q => by unfold World.frozen?; rw [hB.block _ ht], fun n hn => hn.same (hB.block _ ht)⟩
theorem Kt.of {w w' : World} {cb tb i κ : Nat} {t : Ty} (h : Kf w w' cb tb i t) (hκ : κ = 5 ∨ κ = 6) : Kt w w' cb tb i κ t := ⟨h.two, h.cb, fun _ => h.ty, fun h' => absurd hκ h', h.else', h.tz, h.rwo⟩
theorem St.kt {B : Nat} {w w' : World} {cb tb i κ i' : Nat} {t : Ty} {nv : Value} {l : List Tr.Nd} (h : St B w cb tb nv l i') (k : Kt w w' cb tb i κ t) : St B w' cb tb nv l i' := by
  have hl := h.lt
  have hcb : ∀ o, w'.cell? ⟨cb, o, none⟩ = w.cell? ⟨cb, o, none⟩ := fun o => World.cell?_of_block k.cb
  refine ⟨⟨(hcb 0).trans h.nod.1, ?_⟩, (hcb 1).trans h.typ, (hcb 2).trans h.nxt, fun q => ?_, fun q => (k.tz q).trans (h.tz q), fun j hj => ?_, h.off, h.ne, h.g.two k.two h.gl.1 h.gl.2, h.gl, by have := k.two.size; omega, k.rwo _ h.rwo⟩
  · rcases h.nod.2 with ⟨h1, h2⟩ | ⟨b, o, c, h1, h2, h3, h4⟩
    · exact .inl ⟨h1, h2⟩
    · obtain ⟨hb1, hb2, _⟩ := h.off b o _ c h1
      exact .inr ⟨b, o, c, h1, h2, Nat.lt_of_lt_of_le h3 k.two.size, fun j x hx m u hu => (k.two.cell (p := ⟨b, o + j * 8 + m, none⟩) h3 hb1 hb2).trans (h4 j x hx m u hu)⟩
  · rw [← h.cz q]; unfold World.frozen?; rw [k.cb]
  · by_cases hji : j = i
    · subst hji
      by_cases hκ : κ = 5 ∨ κ = 6
      · exact ⟨_, k.ty hκ⟩
      · obtain ⟨s, hs⟩ := h.str j hj
        exact ⟨s, (k.no hκ).trans hs⟩
    · obtain ⟨s, hs⟩ := h.str j hj
      exact ⟨s, (k.else' j hji).trans hs⟩

theorem kidOf_any (B : Nat) (w : World) (cb tb i i' κ : Nat) (nv sv : Value) (l : List Tr.Nd) (x : Tr.Nd) (env : Env) (hN0 : Nod x κ) (hx : l[i]? = some x) (hSt : St B w cb tb nv l i') (hS : Scope cb tb w sv env) (hs : x.s.size ≤ maxLen) :
    Calls Tryz.prog 81 #[.pointer (some ⟨cb, 0, none⟩), .int .i64 (i : Int), sv] w fun e w' =>
      (Ck.ahead x = true ∧ e = .returned (.tuple #[.nilFunc, .int .i64 21]) ∧ Below w.heap.size w w') ∨
      (Ck.ahead x = false ∧ ∃ iv, e = .returned (.tuple #[.func (.func 142) #[] #[.pointer (some ⟨w.heap.size + 2, 0, none⟩), .pointer (some ⟨w.heap.size, 0, none⟩), .pointer (some ⟨w.heap.size + 1, 0, none⟩), .pointer (some ⟨w.heap.size + 3, 0, none⟩)], .int .i64 0]) ∧ Kb w w' cb sv iv x ∧ Scope cb tb w' iv (Ck.inner x 1 env) ∧ Kt w w' cb tb i κ (.tf (wr x.t) (wr x.u))) := by
  have hl := hSt.lt
  have hk := hN0.kind
  by_cases h5 : κ = 5
  · subst h5
    have hk : x.kind = 5 := hk
    have ht := wr_note (hN0.t (.inl rfl))
    have hu := wr_note (hN0.u (.inl rfl))
    refine (kidOf_fn B w cb tb i i' nv sv l x hx hSt env hS hk ht.1 hu.1 ht.2 hu.2).mono ?_
    rintro e w' (⟨h1, h2, h3⟩ | ⟨h1, iv, h2, h3, h4, h5⟩)
    · exact .inl ⟨by unfold Ck.ahead; rw [hk]; simpa using h1, h2, h3⟩
    · exact .inr ⟨by unfold Ck.ahead; rw [hk]; simpa using h1, iv, h2, h3, by unfold Ck.inner; rw [if_pos hk]; exact h4, Kt.of h5 (.inl rfl)⟩
  by_cases h6 : κ = 6
  · subst h6
    have hk : x.kind = 6 := hk
    have ht := wr_note (hN0.t (.inr (.inl rfl)))
    have hu := wr_note (hN0.u (.inr rfl))
    refine (kidOf_rec B w cb tb i i' nv sv l x hx hSt env hS hk ht.1 hu.1 ht.2 hu.2 hs).mono ?_
    rintro e w' (⟨h1, h2, h3⟩ | ⟨h1, iv, h2, h3, h4, h5⟩)
    · exact .inl ⟨by unfold Ck.ahead; rw [hk]; simpa using h1, h2, h3⟩
    · exact .inr ⟨by unfold Ck.ahead; rw [hk]; simpa using h1, iv, h2, h3, by unfold Ck.inner; rw [if_neg (by rw [hk]; decide), if_pos hk]; exact h4, Kt.of h5 (.inr rfl)⟩
  have hah : Ck.ahead x = false := by
    unfold Ck.ahead
    have e1 : (x.kind == 5) = false := by rw [hk]; simp; omega
    have e2 : (x.kind == 6) = false := by rw [hk]; simp; omega
    rw [e1, e2]; rfl
  have hn5 : ¬ x.kind = 5 := by rw [hk]; omega
  have hn6 : ¬ x.kind = 6 := by rw [hk]; omega
  by_cases h8 : κ = 8
  · subst h8
    have hk : x.kind = 8 := hk
    have ht := wr_note (hN0.t (.inr (.inr rfl)))
    refine (kidOf_let B w cb tb i i' nv sv l x hx hSt env hS hk ht.1).mono ?_
    rintro e w' ⟨iv, h2, h3, h4, h5⟩
    exact .inr ⟨hah, iv, h2, h3, by unfold Ck.inner; rw [if_neg hn5, if_neg hn6, if_pos ⟨hk, rfl⟩]; exact h4, Kt.plain h5 (by omega) (by omega) (by omega)⟩
  · refine (kidOf_plain B w cb tb i i' nv sv l x hx hSt env hS ⟨hn5, hn6, by rw [hk]; omega⟩).mono ?_
    rintro e w' ⟨h2, h3, h5⟩
    exact .inr ⟨hah, sv, h2, h3, by unfold Ck.inner; rw [if_neg hn5, if_neg hn6, if_neg (fun h => h8 (by have := h.1; omega))]; exact hS.next (below_two h5 cb tb), Kt.plain h5 (by omega) (by omega) (by omega)⟩
end Go.Proofs.YthdlfeejeboboaaGreatDoor
namespace Go.Proofs.YthdlfeejeboboaaGreatDoor
open Go.RowKit Ck
open T3.Tp (Ty enc cns met)
open Tr (flat flats)
set_option maxRecDepth 100000
set_option linter.unusedSimpArgs false

def addR (rs : List (Nat × List Ty)) : Rs (List (Nat × List Ty)) → Rs (List (Nat × List Ty))
  | .error e => .error e
  | .ok b => .ok (rs ++ b)
theorem addR_nil (r : Rs (List (Nat × List Ty))) : addR [] r = r := by cases r <;> rfl
theorem addR_ok {env : Env} {x : Tr.Nd} {j p : Nat} {t : Tr.T} {r : List Tr.T} {rs : List (Nat × List Ty)} {a : List Ty} (h : ckT (Ck.inner x j env) t p = .ok a) : addR rs (ckL env x j (t :: r) p) = addR (rs ++ [(p, a)]) (ckL env x (j + 1) r (p + (flat t).length)) := by
  simp only [ckL, h]
  cases ckL env x (j + 1) r (p + (flat t).length) with
  | error e => rfl
  | ok b => simp [addR]
theorem addR_err {env : Env} {x : Tr.Nd} {j p : Nat} {t : Tr.T} {r : List Tr.T} {rs : List (Nat × List Ty)} {e : Int × Nat} (h : ckT (Ck.inner x j env) t p = .error e) : addR rs (ckL env x j (t :: r) p) = .error e := by
  simp only [ckL, h, addR]
theorem addR_end {env : Env} {x : Tr.Nd} {j p : Nat} {rs : List (Nat × List Ty)} : addR rs (ckL env x j [] p) = .ok rs := by simp [ckL, addR]
theorem ckT_pos {env : Env} {t : Tr.T} {p : Nat} {a : List Ty} (h : ckT env t p = .ok a) : ∃ b r, a = b :: r := by
  have := len_T t env p a h
  have h2 := Tr.flat_pos t
  cases a with
  | nil => simp at this; omega
  | cons b r => exact ⟨b, r, rfl⟩

structure Lp (B : Nat) (w w1 w2 wv : World) (cb tb K i κ p m : Nat) (nv sv iv : Value) (l : List Tr.Nd) (x : Tr.Nd) (rs : List (Nat × List Ty)) : Prop where
  st : St B wv cb tb nv l p
  two : Two cb tb w wv
  two2 : Two cb tb w2 wv
  kb : Kb w1 wv cb sv iv x
  res : wv.heap[w.heap.size]? = some (.cells #[.int .i64 0, .int .i64 0] 98)
  row : ∀ q, q < m → ∃ u : Int, wv.cell? ⟨K, q, none⟩ = some (.int .i64 u)
  rz : ∀ q, wv.frozen? ⟨K, q, none⟩ = false
  did : ∀ q r, rs[q]? = some r → wv.cell? ⟨K, q, none⟩ = some (.int .i64 (r.1 : Int)) ∧ r.1 < l.length ∧ wv.cell? ⟨tb, r.1, none⟩ = some (.string (S (enc (r.2.headD .tq)))) ∧ (enc (r.2.headD .tq)).length ≤ 64 ∧ i < r.1 ∧ r.1 < p
  tys : ∀ q t, (rs.map Prod.snd).flatten[q]? = some t → wv.cell? ⟨tb, i + 1 + q, none⟩ = some (.string (S (enc t))) ∧ (enc t).length ≤ 64
  pos : p = i + 1 + (rs.map Prod.snd).flatten.length
  ty : (κ = 5 ∨ κ = 6) → wv.cell? ⟨tb, i, none⟩ = some (.string (S (enc (.tf (wr x.t) (wr x.u)))))
  els : ∀ k, (k < i ∨ p ≤ k) → wv.cell? ⟨tb, k, none⟩ = w.cell? ⟨tb, k, none⟩
  lt : B ≤ w.heap.size ∧ w.heap.size < w1.heap.size ∧ w1.heap.size + 4 ≤ w2.heap.size ∧ w2.heap.size ≤ K ∧ K < wv.heap.size
theorem Lp.below {B : Nat} {w w1 w2 wv w3 : World} {cb tb K i κ p m : Nat} {nv sv iv : Value} {l : List Tr.Nd} {x : Tr.Nd} {rs : List (Nat × List Ty)} (h : Lp B w w1 w2 wv cb tb K i κ p m nv sv iv l x rs) (hB : Below wv.heap.size wv w3) : Lp B w w1 w2 w3 cb tb K i κ p m nv sv iv l x rs := by
  have hl := h.lt
  have hs := h.st.lt
  have hK : ∀ o, w3.cell? ⟨K, o, none⟩ = wv.cell? ⟨K, o, none⟩ := fun o => hB.cell (p := ⟨K, o, none⟩) hl.2.2.2.2
  have hT : ∀ o, w3.cell? ⟨tb, o, none⟩ = wv.cell? ⟨tb, o, none⟩ := fun o => hB.cell (p := ⟨tb, o, none⟩) (by show tb < _; omega)
  refine ⟨h.st.below hB, h.two.below hB, h.two2.below hB, h.kb.later hB, (hB.block _ (by omega)).trans h.res, fun q hq => ?_, fun q => ?_, fun q r hr => ?_, fun q t ht => ?_, h.pos, fun hκ => (hT _).trans (h.ty hκ), fun k hk => (hT _).trans (h.els k hk), by have := hB.size; omega⟩
  · obtain ⟨u, hu⟩ := h.row q hq; exact ⟨u, (hK _).trans hu⟩
  · rw [← h.rz q]; unfold World.frozen?; rw [hB.block _ hl.2.2.2.2]
  · obtain ⟨d1, d2, d3, d4⟩ := h.did q r hr; exact ⟨(hK _).trans d1, d2, (hT _).trans d3, d4⟩
  · exact ⟨(hT _).trans (h.tys q t ht).1, (h.tys q t ht).2⟩
theorem Lp.put {B : Nat} {w w1 w2 wv w3 : World} {cb tb K i κ p m : Nat} {nv sv iv : Value} {l : List Tr.Nd} {x : Tr.Nd} {rs : List (Nat × List Ty)} (h : Lp B w w1 w2 wv cb tb K i κ p m nv sv iv l x rs) (hj : rs.length < m) (hw : w3 = wv.setCell ⟨K, rs.length, none⟩ (.int .i64 (p : Int))) :
    Lp B w w1 w2 w3 cb tb K i κ p m nv sv iv l x rs ∧ w3.cell? ⟨K, rs.length, none⟩ = some (.int .i64 (p : Int)) := by
  have hl := h.lt
  have hs := h.st.lt
  have hne : ∀ k, k ≠ K → w3.heap[k]? = wv.heap[k]? := fun k hk => by rw [hw]; exact Below.heap_setCell _ _ _ _ hk
  have hz : w3.heap.size = wv.heap.size := by rw [hw]; simp [World.setCell]
  obtain ⟨u, hu⟩ := h.row rs.length hj
  have hnew : w3.cell? ⟨K, rs.length, none⟩ = some (.int .i64 (p : Int)) := by rw [hw]; exact World.cell?_setCell_same (w := wv) (a := ⟨K, rs.length, none⟩) (v := .int .i64 (p : Int)) hu
  have hT : ∀ o, w3.cell? ⟨tb, o, none⟩ = wv.cell? ⟨tb, o, none⟩ := fun o => World.cell?_of_block (hne _ (by show tb ≠ K; omega))
  have h2K : Two K K wv w3 := by rw [hw]; exact (Two.refl K K wv).setA _ _
  have hold : ∀ q, q ≠ rs.length → w3.cell? ⟨K, q, none⟩ = wv.cell? ⟨K, q, none⟩ := fun q hq => by rw [hw]; exact World.cell?_setCell_other (w := wv) (a := ⟨K, rs.length, none⟩) (b := ⟨K, q, none⟩) (v := .int .i64 (p : Int)) (fun e => hq (by cases e; rfl))
  have hfz : ∀ q, w3.frozen? ⟨K, q, none⟩ = false := fun q => by rw [hw, ← h.rz q]; simp [go_sem]
  refine ⟨⟨h.st.keep h2K (by omega) (by omega), ⟨h2K.os.trans h.two.os, h2K.tape.trans h.two.tape, h2K.output.trans h.two.output, by have := h.two.size; omega, fun k hk a b => (hne k (by omega)).trans (h.two.block k hk a b)⟩, ⟨h2K.os.trans h.two2.os, h2K.tape.trans h.two2.tape, h2K.output.trans h.two2.output, by have := h.two2.size; omega, fun k hk a b => (hne k (by omega)).trans (h.two2.block k hk a b)⟩, ?_, (hne _ (by omega)).trans h.res, fun q hq => ?_, hfz, fun q r hr => ?_, fun q t ht => ?_, h.pos, fun hκ => (hT _).trans (h.ty hκ), fun k hk => (hT _).trans (h.els k hk), by omega⟩, hnew⟩
  · exact ⟨by have := h.kb.size; omega, (hne _ (by omega)).trans h.kb.c, (hne _ (by omega)).trans h.kb.a, (hne _ (by omega)).trans h.kb.n, (hne _ (by omega)).trans h.kb.i⟩
  · by_cases hq' : q = rs.length
    · subst hq'; exact ⟨_, hnew⟩
    · obtain ⟨v, hv⟩ := h.row q hq; exact ⟨v, (hold q hq').trans hv⟩
  · obtain ⟨d1, d2, d3, d4⟩ := h.did q r hr
    have : q < rs.length := (List.getElem?_eq_some_iff.1 hr).1
    exact ⟨(hold q (by omega)).trans d1, d2, (hT _).trans d3, d4⟩
  · exact ⟨(hT _).trans (h.tys q t ht).1, (h.tys q t ht).2⟩
theorem Lp.step {B : Nat} {w w1 w2 wv w3 : World} {cb tb K i κ p m : Nat} {nv sv iv : Value} {l : List Tr.Nd} {x : Tr.Nd} {rs : List (Nat × List Ty)} {b : Ty} {a : List Ty} {e : Ending} (h : Lp B w w1 w2 wv cb tb K i κ p m nv sv iv l x rs) (hK : wv.cell? ⟨K, rs.length, none⟩ = some (.int .i64 (p : Int))) (hp : p < l.length)
    (hP : PEnd B wv cb tb nv l p (.ok (b :: a)) e w3) : Lp B w w1 w2 w3 cb tb K i κ (p + (b :: a).length) m nv sv iv l x (rs ++ [(p, b :: a)]) := by
  obtain ⟨hT, _, hS3, hty, hels⟩ := hP
  have hl := h.lt
  have hs := h.st.lt
  have hb : ∀ k, B ≤ k → k < wv.heap.size → w3.heap[k]? = wv.heap[k]? := fun k h1 h2 => hT.block k h2 (by omega) (by omega)
  have hKc : ∀ o, w3.cell? ⟨K, o, none⟩ = wv.cell? ⟨K, o, none⟩ := fun o => World.cell?_of_block (hb _ (by show B ≤ K; omega) hl.2.2.2.2)
  have hfl : ((rs ++ [(p, b :: a)]).map Prod.snd).flatten = (rs.map Prod.snd).flatten ++ (b :: a) := by simp
  have hpos := h.pos
  refine ⟨hS3, h.two.trans hT, h.two2.trans hT, ?_, (hb _ (by omega) (by omega)).trans h.res, fun q hq => ?_, fun q => ?_, fun q r hr => ?_, fun q t ht => ?_, ?_, fun hκ => ?_, fun k hk => ?_, by have := hT.size; omega⟩
  · have := h.kb.size
    exact ⟨by have := hT.size; omega, (hb _ (by omega) (by omega)).trans h.kb.c, (hb _ (by omega) (by omega)).trans h.kb.a, (hb _ (by omega) (by omega)).trans h.kb.n, (hb _ (by omega) (by omega)).trans h.kb.i⟩
  · obtain ⟨v, hv⟩ := h.row q hq; exact ⟨v, (hKc _).trans hv⟩
  · rw [← h.rz q]; unfold World.frozen?; rw [hb _ (by show B ≤ K; omega) hl.2.2.2.2]
  · by_cases hq : q < rs.length
    · rw [List.getElem?_append_left hq] at hr
      obtain ⟨d1, d2, d3, d4, d5, d6⟩ := h.did q r hr
      exact ⟨(hKc _).trans d1, d2, (hels _ (.inl d6)).trans d3, d4, d5, by omega⟩
    · have hq2 : q = rs.length := by
        have := (List.getElem?_eq_some_iff.1 hr).1
        simp at this; omega
      subst hq2
      simp at hr
      subst hr
      have h0 := hty 0 b rfl
      exact ⟨(hKc _).trans hK, hp, h0.1, h0.2, by omega, by simp⟩
  · rw [hfl] at ht
    by_cases hq : q < (rs.map Prod.snd).flatten.length
    · rw [List.getElem?_append_left hq] at ht
      exact ⟨(hels _ (.inl (by omega))).trans (h.tys q t ht).1, (h.tys q t ht).2⟩
    · rw [List.getElem?_append_right (by omega)] at ht
      have := hty _ t ht
      rw [show p + (q - (rs.map Prod.snd).flatten.length) = i + 1 + q by omega] at this
      exact this
  · rw [hfl, List.length_append]; omega
  · exact (hels _ (.inl (by omega))).trans (h.ty hκ)
  · rcases hk with hk | hk
    · exact (hels k (.inl (by omega))).trans (h.els k (.inl hk))
    · exact (hels k (.inr hk)).trans (h.els k (.inr (by omega)))
theorem Lp.kds {B : Nat} {w w1 w2 wv : World} {cb tb K i κ p m : Nat} {nv sv iv : Value} {l : List Tr.Nd} {x : Tr.Nd} {rs : List (Nat × List Ty)} (h : Lp B w w1 w2 wv cb tb K i κ p m nv sv iv l x rs) (hm : rs.length = m) (hle : m ≤ 4096) :
    Kds wv tb l.length (.slice (some ⟨K, 0, none⟩) m m) (rs.map fun r => (r.1, r.2.headD .tq)) := by
  have e : (rs.map fun r => (r.1, r.2.headD .tq)).length = m := by rw [List.length_map]; exact hm
  refine ⟨⟨_, by rw [e]⟩, by omega, fun j k hk => ⟨K, by rw [e], ?_⟩⟩
  rw [List.getElem?_map] at hk
  cases hr : rs[j]? with
  | none => rw [hr] at hk; cases hk
  | some r =>
    rw [hr] at hk
    cases hk
    obtain ⟨d1, d2, d3, d4, _⟩ := h.did j r hr
    exact ⟨d1, d2, d3, d4⟩
end Go.Proofs.YthdlfeejeboboaaGreatDoor
namespace Go.Proofs.YthdlfeejeboboaaGreatDoor
open Go.RowKit Ck
open T3.Tp (Ty enc cns met)
open Tr (flat flats)
set_option maxRecDepth 100000
set_option linter.unusedSimpArgs false

def EnvOk (env : Env) : Prop := ∀ n t, Ck.look env n = some t → (enc t).length ≤ 64
theorem EnvOk.cons {env : Env} (h : EnvOk env) {n : List UInt8} {t : Ty} (ht : (enc t).length ≤ 64) : EnvOk ((n, t) :: env) := by
  intro m u hu
  simp only [Ck.look] at hu
  split at hu
  · cases hu; exact ht
  · exact h m u hu
theorem made_len {i : Nat} {t u : Ty} (h : made i t = .ok u) : (enc u).length ≤ 64 := by
  unfold made at h
  split at h
  · rename_i hz; cases h; exact hz
  · cases h
theorem mt_len {t A B : Ty} {h : UInt8} (e : Ck.mt t h = some (A, B)) (ht : (enc t).length ≤ 64) : (enc A).length ≤ 64 ∧ (enc B).length ≤ 64 ∧ (h = 108 → (enc (.tl A)).length ≤ 64) := by
  cases t with
  | ti | tb | tt => simp [Ck.mt] at e
  | tq => simp [Ck.mt] at e; obtain ⟨rfl, rfl⟩ := e; exact ⟨by decide, by decide, fun _ => by decide⟩
  | tl a =>
    simp only [Ck.mt] at e
    split at e
    · cases e; simp [T3.Tp.enc] at ht ⊢; omega
    · cases e
  | tx a =>
    simp only [Ck.mt] at e
    split at e
    · cases e; rename_i hh; simp [T3.Tp.enc] at ht ⊢; exact ⟨by omega, fun h' => by rw [hh] at h'; cases h'⟩
    · cases e
  | tf a b | tp a b =>
    simp only [Ck.mt] at e
    split at e
    · cases e; rename_i hh; simp [T3.Tp.enc] at ht ⊢; exact ⟨by omega, by omega, fun h' => by rw [hh] at h'; cases h'⟩
    · cases e
theorem use_len {kid g : Nat} {h : UInt8} {ks : List (Nat × Ty)} {t : Ty} (hk : ∀ k ∈ ks, (enc k.2).length ≤ 64) (hg : g = 2 → h = 108) (e : use (kid, h, g) ks = .ok t) : (enc t).length ≤ 64 := by
  unfold use at e
  split at e
  · cases e
  · rename_i p s hs
    split at e
    · cases e
    · rename_i A B hm
      split at e
      · cases e
      · cases e
        obtain ⟨h1, h2, h3⟩ := mt_len hm (hk _ (List.mem_of_getElem? hs))
        unfold giv
        split
        · exact h1
        · split
          · exact h2
          · split
            · rename_i hg2; exact h3 (hg hg2)
            · simp [T3.Tp.enc]
theorem rule_len {env : Env} {x : Tr.Nd} {κ i : Nat} {ks : List (Nat × Ty)} {t : Ty} (hN : Nod x κ) (hE : EnvOk env) (hk : ∀ k ∈ ks, (enc k.2).length ≤ 64) (ha : Ck.ahead x = false) (e : Ck.rule env x i ks = .ok t) : (enc t).length ≤ 64 := by
  have hκ := hN.kind
  unfold Ck.rule at e
  split at e
  · split at e
    · cases e
    · rename_i u hu; cases e; exact hE _ _ hu
  split at e
  · rename_i h56
    split at e
    · split at e
      · cases e
        unfold Ck.ahead at ha
        have e1 : (x.kind == 5 || x.kind == 6) = true := by rcases h56 with h | h <;> rw [h] <;> rfl
        rw [e1] at ha
        simp only [Bool.true_and, decide_eq_false_iff_not] at ha
        show (enc _).length ≤ 64
        have : ¬ 64 < (enc (.tf (wr x.t) (wr x.u))).length := ha
        omega
      · cases e
    · cases e
  split at e
  · split at e
    · split at e
      · cases e; exact hk _ (by simp)
      · cases e
    · cases e
  split at e
  · rename_i h29
    split at e
    · split at e
      · cases e; exact (wr_typ (hN.a (by omega))).2
      · cases e
    · cases e
  split at e
  · split at e
    · split at e
      · exact meetK_len e
      · cases e
    · cases e
  split at e
  · split at e
    · exact made_len e
    · cases e
  split at e
  · split at e
    · exact made_len e
    · cases e
  split at e
  · split at e
    · cases e
    · exact made_len e
  split at e
  · rename_i u hu
    obtain ⟨kid, h, g⟩ := u
    refine use_len hk ?_ e
    intro hg
    unfold useT at hu
    repeat' split at hu
    all_goals first | (cases hu; done) | (cases hu; first | rfl | (simp at hg))
  · unfold opr at e
    split at e
    · cases e
    · cases e
      unfold opT
      repeat' split
      all_goals decide
theorem inner_ok {env : Env} {x : Tr.Nd} {κ : Nat} (hN : Nod x κ) (hE : EnvOk env) (ha : Ck.ahead x = false) (j : Nat) : EnvOk (Ck.inner x j env) := by
  have hκ := hN.kind
  unfold Ck.inner
  by_cases h5 : x.kind = 5
  · rw [if_pos h5]; exact hE.cons (wr_note (hN.t (by omega))).2
  rw [if_neg h5]
  by_cases h6 : x.kind = 6
  · rw [if_pos h6]
    refine EnvOk.cons (hE.cons ?_) (wr_note (hN.t (by omega))).2
    unfold Ck.ahead at ha
    have e1 : (x.kind == 5 || x.kind == 6) = true := by rw [h6]; rfl
    rw [e1] at ha
    simp only [Bool.true_and, decide_eq_false_iff_not] at ha
    have : ¬ 64 < (enc (.tf (wr x.t) (wr x.u))).length := ha
    omega
  rw [if_neg h6]
  split
  · rename_i h8; exact hE.cons (wr_note (hN.t (by omega))).2
  · exact hE
end Go.Proofs.YthdlfeejeboboaaGreatDoor
namespace Go.Proofs.YthdlfeejeboboaaGreatDoor
open Go.RowKit Go.Maps Ck
open Go.WideMaps Go.WideElems
open T3.Tp (Ty enc cns met)
set_option maxRecDepth 100000
set_option linter.unusedSimpArgs false

theorem Idx.lt {w : World} {b n : Nat} {g : List UInt8 → Option Nat} (h : Idx w b n g) : b < w.heap.size := by obtain ⟨D, h, _⟩ := h; exact h.lt
theorem Idx.kept {w w' : World} {b n : Nat} {g : List UInt8 → Option Nat} {r : Option Nat} (h : Idx w b n g) (hg : w.grownBy w' r) (hne : some b ≠ r) : Idx w' b n g := by
  obtain ⟨D, h1, h2⟩ := h; exact ⟨D, h1.kept hg hne, h2⟩
theorem Idx.made (w : World) : Idx (w.alloc (.map #[] 0)) w.heap.size 0 (fun _ => none) := ⟨.map [], World.ownsMap_made w _ _ _, fun _ => ⟨rfl, rfl⟩⟩
theorem wpList_idx (w : World) {ops : Array Oper} {rest : List Oper} {o : Oper} {a : Act} {Q : Exit → Act → World → Prop}
    (hg : o.guard = none) (m x v : Operand) (hop : o.op = Op.mapUpdate 79 m x v) (b n : Nat) (g : List UInt8 → Option Nat) (hm : a.eval m = .map (some b)) (h : Idx w b n g) (hn : n < 1000000) (s : ByteArray) (hs : s.size ≤ maxLen)
    (hx : a.eval x = .string s) (c : Nat) (hv : a.eval v = .int .i64 (c : Int)) (hc : c ≤ 1000000)
    (hK : ∀ w', Idx w' b (n + 1) (fun l => if l = s.data.toList then some c else g l) → w.grownBy w' (some b) → wpList Tryz.prog ops Q rest (a.put o.dst undef) w') :
    wpList Tryz.prog ops Q (o :: rest) a w := by
  obtain ⟨D, hD, hat⟩ := h
  refine wpList_mapUpdate_own w hg m x v 79 hop 9 3 keyed9 tyCnt (plainElem Tryz.prog 3) b n D hm hD (by unfold maxLen; omega) _ _ (.string s.data.toList) hx hv (keyOf_string_mk ty9 hs) (.lit (.int .i64 (c : Int))) [] (plainElem_int ty3 (by apply WalkArith.wf_i64; omega)) ?_
  intro w' h1 h2
  refine hK w' ⟨_, h1, fun l => ?_⟩ h2
  by_cases e : l = s.data.toList
  · subst e
    rw [atKey_put_same hD.isMap (by trivial), has_put_same hD.isMap (by trivial)]
    simp
  · have hne : Lit.string l ≠ Lit.string s.data.toList := by intro h; cases h; exact e rfl
    rw [atKey_put_other hne, has_put_other hne]
    simp only [if_neg e]
    exact hat l

def lastAt (N : List (List UInt8)) : Nat → List UInt8 → Option Nat
  | 0, _ => none
  | k + 1, l => if N[k]? = some l then some k else lastAt N k l
theorem lastAt_lt : ∀ {N : List (List UInt8)} {k : Nat} {l : List UInt8} {j : Nat}, lastAt N k l = some j → j < k
  | _, 0, _, _, h => by simp [lastAt] at h
  | N, k + 1, l, j, h => by
    rw [lastAt] at h
    split at h
    · cases h; omega
    · have := lastAt_lt h; omega
def envOf (N : List (List UInt8)) (ts : List Ty) : Env := (N.zip ts).reverse
theorem look_last (N : List (List UInt8)) (ts : List Ty) (h : N.length = ts.length) : ∀ k, k ≤ N.length → ∀ l, Ck.look ((N.zip ts).take k).reverse l = (lastAt N k l).bind fun j => ts[j]?
  | 0, _, l => by simp [Ck.look, lastAt]
  | k + 1, hk, l => by
    have h1 : N[k]? = some N[k] := List.getElem?_eq_getElem (by omega)
    have h2 : ts[k]? = some ts[k] := List.getElem?_eq_getElem (by omega)
    have hz : (N.zip ts)[k]? = some (N[k], ts[k]) := by rw [List.getElem?_zip_eq_some]; exact ⟨h1, h2⟩
    rw [List.take_add_one, hz]
    simp only [Option.toList, List.reverse_append, List.reverse_cons, List.reverse_nil, List.nil_append, List.cons_append, Ck.look, lastAt, h1, Option.some.injEq]
    by_cases e : l = N[k]
    · rw [if_pos e, if_pos e.symm]; exact h2.symm
    · rw [if_neg e, if_neg (Ne.symm e)]; exact look_last N ts h k (by omega) l
def envB (N Th : List (List UInt8)) : Bool := decide (N.length = Th.length) && (Th.all fun t => (T3.Tp.chk t).1 == 0) && N.all nameB
theorem envB_types {N Th : List (List UInt8)} (h : envB N Th = true) : ∃ ts : List Ty, N.length = ts.length ∧ Th = ts.map enc ∧ ∀ t ∈ ts, (enc t).length ≤ 64 := by
  unfold envB at h
  simp only [Bool.and_eq_true, decide_eq_true_eq, List.all_eq_true, beq_iff_eq] at h
  obtain ⟨⟨h1, h2⟩, _⟩ := h
  refine ⟨Th.map tyOf, by simpa using h1, ?_, ?_⟩
  · rw [List.map_map]
    conv => lhs; rw [← List.map_id Th]
    apply List.map_congr_left
    intro t ht
    obtain ⟨u, rfl, _⟩ := T3.Tp.chk_dec (h2 t ht)
    simp [tyOf_enc]
  · intro t ht
    obtain ⟨u, hu, rfl⟩ := List.mem_map.1 ht
    obtain ⟨v, rfl, hv⟩ := T3.Tp.chk_dec (h2 u hu)
    rw [tyOf_enc]; exact hv
theorem txs_below {w w' : World} {v : Value} {ps : List (List UInt8)} (h : T3.IsTexts w v ps) (hB : Below w.heap.size w w') : T3.IsTexts w' v ps := by
  rcases h with h | ⟨b, o, c, rfl, h1, h2, h3⟩
  · exact .inl h
  · exact .inr ⟨b, o, c, rfl, h1, Nat.lt_of_lt_of_le h2 hB.size, fun j p hp => (hB.cell (p := ⟨b, o + j, none⟩) h2).trans (h3 j p hp)⟩
theorem txs_form {w : World} {v : Value} {ps : List (List UInt8)} (h : T3.IsTexts w v ps) : ∃ a c, v = .slice a ps.length c := by
  rcases h with ⟨rfl, a, c, rfl⟩ | ⟨b, o, c, rfl, _⟩
  · exact ⟨a, c, rfl⟩
  · exact ⟨_, c, rfl⟩
theorem txs_at {w : World} {a : Option Addr} {n c : Nat} {ps : List (List UInt8)} (h : T3.IsTexts w (.slice a n c) ps) {k : Nat} {p : List UInt8} (hp : ps[k]? = some p) :
    ∃ b o, a = some ⟨b, o, none⟩ ∧ n ≤ c ∧ b < w.heap.size ∧ w.cell? ⟨b, o + k, none⟩ = some (.string (T3.S p)) := by
  rcases h with ⟨rfl, _⟩ | ⟨b, o, c', h0, h1, h2, h3⟩
  · simp at hp
  · obtain ⟨rfl, rfl, rfl⟩ : a = some ⟨b, o, none⟩ ∧ n = ps.length ∧ c = c' := by simpa using h0
    exact ⟨b, o, rfl, h1, h2, h3 k p hp⟩
theorem getp {a : List (List UInt8)} {k : Nat} (h : k < a.length) : ∃ x, a[k]? = some x := ⟨a[k], List.getElem?_eq_getElem h⟩

def EnvEnd (w : World) (N Th : List (List UInt8)) (e : Ending) (w' : World) : Prop := Below w.heap.size w w' ∧
  if envB N Th then ∃ v ts, e = .returned (.tuple #[v, .bool true]) ∧ N.length = ts.length ∧ Th = ts.map enc ∧ (∀ t ∈ ts, (enc t).length ≤ 64) ∧ ∀ a b, w'.heap.size ≤ a → w'.heap.size ≤ b → Scope a b w' v (envOf N ts)
  else e = .returned (.tuple #[.nilFunc, .bool false])
theorem EnvEnd.no {w w' : World} {N Th : List (List UInt8)} (hB : Below w.heap.size w w') (h : envB N Th = false) : EnvEnd w N Th (.returned (.tuple #[.nilFunc, .bool false])) w' := ⟨hB, by rw [if_neg (by rw [h]; decide)]⟩
end Go.Proofs.YthdlfeejeboboaaGreatDoor
