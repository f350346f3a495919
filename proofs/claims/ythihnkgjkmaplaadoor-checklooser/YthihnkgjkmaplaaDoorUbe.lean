/- Parts of a tree that is taken, plain: each has its types by itself; a part in which no name is free has them in any environment. Package check: what part's loop over the kids keeps. Package check: no type is too large. -/
import Derived.Test.YthihnkgjkmaplaaDoorUbd
import Derived.Test.YthihnkgjkmaplaaDoorUbc
namespace Go.Proofs.YthihnkgjkmaplaaDoor
set_option maxRecDepth 100000
namespace Ck
open T3.Tp (Ty enc cns prc met sta)
open Tr (T Nd nm cut32 flat flats wf wfs)

set_option maxHeartbeats 1000000
mutual
theorem len_T : ∀ (t : T) (e : Env) (i : Nat) (a : List Ty), ckT e t i = .ok a → a.length = (flat t).length
  | .nd x ks, e, i, a, hc => by
    simp only [ckT] at hc
    split at hc
    · cases hc
    cases hl : ckL e x 0 ks (i + 1) with
    | error v => rw [hl] at hc; cases hc
    | ok rs =>
      rw [hl] at hc
      simp only at hc
      split at hc
      · cases hc
      · cases hc
        simp only [flat, List.length_cons]
        rw [len_L ks e x 0 (i + 1) rs hl]
theorem len_L : ∀ (ts : List T) (e : Env) (x : Nd) (j i : Nat) (a : List (Nat × List Ty)), ckL e x j ts i = .ok a → (a.map Prod.snd).flatten.length = (flats ts).length
  | [], e, x, j, i, a, hc => by simp only [ckL] at hc; cases hc; rfl
  | t :: r, e, x, j, i, a, hc => by
    simp only [ckL] at hc
    cases h1 : ckT (inner x j e) t i with
    | error v => rw [h1] at hc; cases hc
    | ok p =>
      rw [h1] at hc
      simp only at hc
      cases h2 : ckL e x (j + 1) r (i + (flat t).length) with
      | error v => rw [h2] at hc; cases hc
      | ok q =>
        rw [h2] at hc
        cases hc
        simp only [List.map_cons, List.flatten_cons, List.length_append, flats]
        rw [len_T t _ i p h1, len_L r e x (j + 1) _ q h2]
end
mutual
theorem part_T : ∀ (t : T) (e : Env) (i : Nat) (a : List Ty) (q : Nat), wf t → ckT e t i = .ok a → q < (flat t).length →
    ∃ u rest f, (flat t).drop q = flat u ++ rest ∧ wf u ∧ ckT f u (i + q) = .ok ((a.drop q).take (flat u).length)
  | .nd x ks, e, i, a, 0, hw, hc, _ => ⟨.nd x ks, [], e, by simp, hw, by rw [Nat.add_zero, hc, List.drop_zero, ← len_T _ _ _ _ hc, List.take_length]⟩
  | .nd x ks, e, i, a, q + 1, hw, hc, hq => by
    simp only [ckT] at hc
    split at hc
    · cases hc
    cases hl : ckL e x 0 ks (i + 1) with
    | error v => rw [hl] at hc; cases hc
    | ok rs =>
      rw [hl] at hc
      simp only at hc
      split at hc
      · cases hc
      · cases hc
        obtain ⟨u, rest, f, h1, h2, h3⟩ := part_L ks e x 0 (i + 1) rs q hw.2 hl (by simp [flat] at hq; omega)
        refine ⟨u, rest, f, by simpa [flat] using h1, h2, ?_⟩
        rw [show i + (q + 1) = i + 1 + q by omega, h3]
        rfl
theorem part_L : ∀ (ts : List T) (e : Env) (x : Nd) (j i : Nat) (a : List (Nat × List Ty)) (q : Nat), wfs ts → ckL e x j ts i = .ok a → q < (flats ts).length →
    ∃ u rest f, (flats ts).drop q = flat u ++ rest ∧ wf u ∧ ckT f u (i + q) = .ok (((a.map Prod.snd).flatten.drop q).take (flat u).length)
  | [], e, x, j, i, a, q, _, _, hq => by simp [flats] at hq
  | t :: r, e, x, j, i, a, q, hw, hc, hq => by
    simp only [ckL] at hc
    cases h1 : ckT (inner x j e) t i with
    | error v => rw [h1] at hc; cases hc
    | ok p =>
      rw [h1] at hc
      simp only at hc
      cases h2 : ckL e x (j + 1) r (i + (flat t).length) with
      | error v => rw [h2] at hc; cases hc
      | ok b =>
        rw [h2] at hc
        cases hc
        have hlp := len_T t _ i p h1
        simp only [flats, List.map_cons, List.flatten_cons, List.length_append] at hq ⊢
        by_cases hlt : q < (flat t).length
        · obtain ⟨u, rest, f, g1, g2, g3⟩ := part_T t _ i p q hw.1 h1 hlt
          have hz : (flat u).length ≤ (flat t).length - q := by
            have := congrArg List.length g1
            simp only [List.length_drop, List.length_append] at this
            omega
          refine ⟨u, rest ++ flats r, f, ?_, g2, ?_⟩
          · rw [List.drop_append_of_le_length (by omega), g1, List.append_assoc]
          · rw [g3, List.drop_append_of_le_length (by omega), List.take_append_of_le_length (by simp only [List.length_drop]; omega)]
        · obtain ⟨u, rest, f, g1, g2, g3⟩ := part_L r e x (j + 1) _ b (q - (flat t).length) hw.2 h2 (by omega)
          refine ⟨u, rest, f, ?_, g2, ?_⟩
          · rw [List.drop_append, List.drop_eq_nil_of_le (by omega), List.nil_append, g1]
          · rw [show i + q = i + (flat t).length + (q - (flat t).length) by omega, g3, List.drop_append (l₁ := p), List.drop_eq_nil_of_le («as» := p) (i := q) (by omega), List.nil_append, hlp]
end
mutual
theorem NVT.mono : ∀ {t : T} {P Q : List UInt8 → Prop}, (∀ n, P n → Q n) → NVT P t → NVT Q t
  | .nd _ _, _, _, h, hv => ⟨fun k => h _ (hv.1 k), NVL.mono h hv.2⟩
theorem NVL.mono : ∀ {ts : List T} {x : Nd} {j : Nat} {P Q : List UInt8 → Prop}, (∀ n, P n → Q n) → NVL P x j ts → NVL Q x j ts
  | [], _, _, _, _, _, _ => trivial
  | _ :: _, _, _, _, _, h, hv => ⟨NVT.mono (fun n hn => hn.elim .inl (fun k => .inr (h n k))) hv.1, NVL.mono h hv.2⟩
end
mutual
theorem nv_ob : ∀ (t : T) (b : List (List UInt8)), (∀ o ∈ Tr.obT b t, o = none) → NVT (fun n => n ∈ b) t
  | .nd x ks, b, h => by
    simp only [Tr.obT, List.mem_cons, forall_eq_or_imp] at h
    refine ⟨fun k => ?_, nv_obs ks b x 0 h.2⟩
    have h1 := h.1
    unfold Tr.ob1 at h1
    by_cases hn : nm x ∈ b
    · exact hn
    · rw [if_pos ⟨k, hn⟩] at h1; cases h1
theorem nv_obs : ∀ (ts : List T) (b : List (List UInt8)) (x : Nd) (j : Nat), (∀ o ∈ Tr.obL b x j ts, o = none) → NVL (fun n => n ∈ b) x j ts
  | [], _, _, _, _ => trivial
  | t :: r, b, x, j, h => by
    simp only [Tr.obL, List.mem_append] at h
    refine ⟨NVT.mono (fun n hn => ?_) (nv_ob t (Tr.binds x j ++ b) fun o ho => h o (.inl ho)), nv_obs r b x (j + 1) fun o ho => h o (.inr ho)⟩
    simpa using hn
end
theorem adds_nil : ∀ (l : List (Option (List UInt8))) (acc : List (List UInt8)), Tr.adds acc l = [] → acc = [] ∧ ∀ o ∈ l, o = none
  | [], acc, h => ⟨h, by simp⟩
  | none :: r, acc, h => by
    have := adds_nil r acc h
    exact ⟨this.1, by simpa using this.2⟩
  | some n :: r, acc, h => by
    have := (adds_nil r (Tr.add1 acc (some n)) h).1
    unfold Tr.add1 at this
    simp only at this
    split at this
    · rename_i hn; subst this; simp at hn
    · simp at this
/-- No name is free in it. -/
theorem nv_free {t : T} (h : Tr.free t = []) : NVT (fun _ => False) t :=
  NVT.mono (fun n hn => by simp at hn) (nv_ob t [] (adds_nil _ _ h).2)
end Ck
end Go.Proofs.YthihnkgjkmaplaaDoor
namespace Go.Proofs.YthihnkgjkmaplaaDoor
open Go.RowKit Ck
open T3.Tp (Ty enc cns met)
open Tr (flat flats)
set_option maxRecDepth 100000
set_option linter.unusedSimpArgs false

/-- What is done, ahead of what is still to come. -/
def addR (rs : List (Nat × List Ty)) : Rs (List (Nat × List Ty)) → Rs (List (Nat × List Ty))
  | .error e => .error e
  | .ok b => .ok (rs ++ b)
theorem addR_nil (r : Rs (List (Nat × List Ty))) : addR [] r = r := by cases r <;> rfl
theorem addR_ok {env : Env} {x : Tr.Nd} {j p : Nat} {t : Tr.T} {r : List Tr.T} {rs : List (Nat × List Ty)} {a : List Ty} (h : ckT (Ck.inner x j env) t p = .ok a) : addR rs (ckL env x j (t :: r) p) = addR (rs ++ [(p, a)]) (ckL env x (j + 1) r (p + (flat t).length)) := by
  simp only [ckL, h]
  cases ckL env x (j + 1) r (p + (flat t).length) with
  | error e => rfl
  | ok b => simp [addR]
theorem addR_err {env : Env} {x : Tr.Nd} {j p : Nat} {t : Tr.T} {r : List Tr.T} {rs : List (Nat × List Ty)} {e : Int × Nat} (h : ckT (Ck.inner x j env) t p = .error e) : addR rs (ckL env x j (t :: r) p) = .error e := by
  simp only [ckL, h, addR]
theorem addR_end {env : Env} {x : Tr.Nd} {j p : Nat} {rs : List (Nat × List Ty)} : addR rs (ckL env x j [] p) = .ok rs := by simp [ckL, addR]
theorem ckT_pos {env : Env} {t : Tr.T} {p : Nat} {a : List Ty} (h : ckT env t p = .ok a) : ∃ b r, a = b :: r := by
  have := len_T t env p a h
  have h2 := Tr.flat_pos t
  cases a with
  | nil => simp at this; omega
  | cons b r => exact ⟨b, r, rfl⟩

/-- The loop's state: the kids that are done, the next node p. w: where part began; w1: where kidOf was called; w2: where it ended; K: the row of the kids' places. -/
structure Lp (B : Nat) (w w1 w2 wv : World) (cb tb K i κ p m : Nat) (nv sv iv : Value) (l : List Tr.Nd) (x : Tr.Nd) (rs : List (Nat × List Ty)) : Prop where
  st : St B wv cb tb nv l p
  two : Two cb tb w wv
  two2 : Two cb tb w2 wv
  kb : Kb w1 wv cb sv iv x
  res : wv.heap[w.heap.size]? = some (.cells #[.int .i64 0, .int .i64 0] 53)
  row : ∀ q, q < m → ∃ u : Int, wv.cell? ⟨K, q, none⟩ = some (.int .i64 u)
  rz : ∀ q, wv.frozen? ⟨K, q, none⟩ = false
  did : ∀ q r, rs[q]? = some r → wv.cell? ⟨K, q, none⟩ = some (.int .i64 (r.1 : Int)) ∧ r.1 < l.length ∧ wv.cell? ⟨tb, r.1, none⟩ = some (.string (S (enc (r.2.headD .tq)))) ∧ (enc (r.2.headD .tq)).length ≤ 64 ∧ i < r.1 ∧ r.1 < p
  tys : ∀ q t, (rs.map Prod.snd).flatten[q]? = some t → wv.cell? ⟨tb, i + 1 + q, none⟩ = some (.string (S (enc t))) ∧ (enc t).length ≤ 64
  pos : p = i + 1 + (rs.map Prod.snd).flatten.length
  ty : (κ = 5 ∨ κ = 6) → wv.cell? ⟨tb, i, none⟩ = some (.string (S (enc (.tf (wr x.t) (wr x.u)))))
  els : ∀ k, (k < i ∨ p ≤ k) → wv.cell? ⟨tb, k, none⟩ = w.cell? ⟨tb, k, none⟩
  lt : B ≤ w.heap.size ∧ w.heap.size < w1.heap.size ∧ w1.heap.size + 4 ≤ w2.heap.size ∧ w2.heap.size ≤ K ∧ K < wv.heap.size
/-- New memory does no harm. -/
theorem Lp.below {B : Nat} {w w1 w2 wv w3 : World} {cb tb K i κ p m : Nat} {nv sv iv : Value} {l : List Tr.Nd} {x : Tr.Nd} {rs : List (Nat × List Ty)} (h : Lp B w w1 w2 wv cb tb K i κ p m nv sv iv l x rs) (hB : Below wv.heap.size wv w3) : Lp B w w1 w2 w3 cb tb K i κ p m nv sv iv l x rs := by
  have hl := h.lt
  have hs := h.st.lt
  have hK : ∀ o, w3.cell? ⟨K, o, none⟩ = wv.cell? ⟨K, o, none⟩ := fun o => hB.cell (p := ⟨K, o, none⟩) hl.2.2.2.2
  have hT : ∀ o, w3.cell? ⟨tb, o, none⟩ = wv.cell? ⟨tb, o, none⟩ := fun o => hB.cell (p := ⟨tb, o, none⟩) (by show tb < _; omega)
  refine ⟨h.st.below hB, h.two.below hB, h.two2.below hB, h.kb.later hB, (hB.block _ (by omega)).trans h.res, fun q hq => ?_, fun q => ?_, fun q r hr => ?_, fun q t ht => ?_, h.pos, fun hκ => (hT _).trans (h.ty hκ), fun k hk => (hT _).trans (h.els k hk), by have := hB.size; omega⟩
  · obtain ⟨u, hu⟩ := h.row q hq; exact ⟨u, (hK _).trans hu⟩
  · rw [← h.rz q]; unfold World.frozen?; rw [hB.block _ hl.2.2.2.2]
  · obtain ⟨d1, d2, d3, d4⟩ := h.did q r hr; exact ⟨(hK _).trans d1, d2, (hT _).trans d3, d4⟩
  · exact ⟨(hT _).trans (h.tys q t ht).1, (h.tys q t ht).2⟩
/-- A kid's place is laid into the row. -/
theorem Lp.put {B : Nat} {w w1 w2 wv w3 : World} {cb tb K i κ p m : Nat} {nv sv iv : Value} {l : List Tr.Nd} {x : Tr.Nd} {rs : List (Nat × List Ty)} (h : Lp B w w1 w2 wv cb tb K i κ p m nv sv iv l x rs) (hj : rs.length < m) (hw : w3 = wv.setCell ⟨K, rs.length, none⟩ (.int .i64 (p : Int))) :
    Lp B w w1 w2 w3 cb tb K i κ p m nv sv iv l x rs ∧ w3.cell? ⟨K, rs.length, none⟩ = some (.int .i64 (p : Int)) := by
  have hl := h.lt
  have hs := h.st.lt
  have hne : ∀ k, k ≠ K → w3.heap[k]? = wv.heap[k]? := fun k hk => by rw [hw]; exact Below.heap_setCell _ _ _ _ hk
  have hz : w3.heap.size = wv.heap.size := by rw [hw]; simp [World.setCell]
  obtain ⟨u, hu⟩ := h.row rs.length hj
  have hnew : w3.cell? ⟨K, rs.length, none⟩ = some (.int .i64 (p : Int)) := by rw [hw]; exact World.cell?_setCell_same (w := wv) (a := ⟨K, rs.length, none⟩) (v := .int .i64 (p : Int)) hu
  have hT : ∀ o, w3.cell? ⟨tb, o, none⟩ = wv.cell? ⟨tb, o, none⟩ := fun o => World.cell?_of_block (hne _ (by show tb ≠ K; omega))
  have h2K : Two K K wv w3 := by rw [hw]; exact (Two.refl K K wv).setA _ _
  have hold : ∀ q, q ≠ rs.length → w3.cell? ⟨K, q, none⟩ = wv.cell? ⟨K, q, none⟩ := fun q hq => by rw [hw]; exact World.cell?_setCell_other (w := wv) (a := ⟨K, rs.length, none⟩) (b := ⟨K, q, none⟩) (v := .int .i64 (p : Int)) (fun e => hq (by cases e; rfl))
  have hfz : ∀ q, w3.frozen? ⟨K, q, none⟩ = false := fun q => by rw [hw, ← h.rz q]; simp [go_sem]
  refine ⟨⟨h.st.keep h2K (by omega) (by omega), ⟨h2K.os.trans h.two.os, h2K.tape.trans h.two.tape, h2K.output.trans h.two.output, by have := h.two.size; omega, fun k hk a b => (hne k (by omega)).trans (h.two.block k hk a b)⟩, ⟨h2K.os.trans h.two2.os, h2K.tape.trans h.two2.tape, h2K.output.trans h.two2.output, by have := h.two2.size; omega, fun k hk a b => (hne k (by omega)).trans (h.two2.block k hk a b)⟩, ?_, (hne _ (by omega)).trans h.res, fun q hq => ?_, hfz, fun q r hr => ?_, fun q t ht => ?_, h.pos, fun hκ => (hT _).trans (h.ty hκ), fun k hk => (hT _).trans (h.els k hk), by omega⟩, hnew⟩
  · exact ⟨by have := h.kb.size; omega, (hne _ (by omega)).trans h.kb.c, (hne _ (by omega)).trans h.kb.a, (hne _ (by omega)).trans h.kb.n, (hne _ (by omega)).trans h.kb.i⟩
  · by_cases hq' : q = rs.length
    · subst hq'; exact ⟨_, hnew⟩
    · obtain ⟨v, hv⟩ := h.row q hq; exact ⟨v, (hold q hq').trans hv⟩
  · obtain ⟨d1, d2, d3, d4⟩ := h.did q r hr
    have : q < rs.length := (List.getElem?_eq_some_iff.1 hr).1
    exact ⟨(hold q (by omega)).trans d1, d2, (hT _).trans d3, d4⟩
  · exact ⟨(hT _).trans (h.tys q t ht).1, (h.tys q t ht).2⟩
/-- A kid is done. -/
theorem Lp.step {B : Nat} {w w1 w2 wv w3 : World} {cb tb K i κ p m : Nat} {nv sv iv : Value} {l : List Tr.Nd} {x : Tr.Nd} {rs : List (Nat × List Ty)} {b : Ty} {a : List Ty} {e : Ending} (h : Lp B w w1 w2 wv cb tb K i κ p m nv sv iv l x rs) (hK : wv.cell? ⟨K, rs.length, none⟩ = some (.int .i64 (p : Int))) (hp : p < l.length)
    (hP : PEnd B wv cb tb nv l p (.ok (b :: a)) e w3) : Lp B w w1 w2 w3 cb tb K i κ (p + (b :: a).length) m nv sv iv l x (rs ++ [(p, b :: a)]) := by
  obtain ⟨hT, _, hS3, hty, hels⟩ := hP
  have hl := h.lt
  have hs := h.st.lt
  have hb : ∀ k, B ≤ k → k < wv.heap.size → w3.heap[k]? = wv.heap[k]? := fun k h1 h2 => hT.block k h2 (by omega) (by omega)
  have hKc : ∀ o, w3.cell? ⟨K, o, none⟩ = wv.cell? ⟨K, o, none⟩ := fun o => World.cell?_of_block (hb _ (by show B ≤ K; omega) hl.2.2.2.2)
  have hfl : ((rs ++ [(p, b :: a)]).map Prod.snd).flatten = (rs.map Prod.snd).flatten ++ (b :: a) := by simp
  have hpos := h.pos
  refine ⟨hS3, h.two.trans hT, h.two2.trans hT, ?_, (hb _ (by omega) (by omega)).trans h.res, fun q hq => ?_, fun q => ?_, fun q r hr => ?_, fun q t ht => ?_, ?_, fun hκ => ?_, fun k hk => ?_, by have := hT.size; omega⟩
  · have := h.kb.size
    exact ⟨by have := hT.size; omega, (hb _ (by omega) (by omega)).trans h.kb.c, (hb _ (by omega) (by omega)).trans h.kb.a, (hb _ (by omega) (by omega)).trans h.kb.n, (hb _ (by omega) (by omega)).trans h.kb.i⟩
  · obtain ⟨v, hv⟩ := h.row q hq; exact ⟨v, (hKc _).trans hv⟩
  · rw [← h.rz q]; unfold World.frozen?; rw [hb _ (by show B ≤ K; omega) hl.2.2.2.2]
  · by_cases hq : q < rs.length
    · rw [List.getElem?_append_left hq] at hr
      obtain ⟨d1, d2, d3, d4, d5, d6⟩ := h.did q r hr
      exact ⟨(hKc _).trans d1, d2, (hels _ (.inl d6)).trans d3, d4, d5, by omega⟩
    · have hq2 : q = rs.length := by
        have := (List.getElem?_eq_some_iff.1 hr).1
        simp at this; omega
      subst hq2
      simp at hr
      subst hr
      have h0 := hty 0 b rfl
      exact ⟨(hKc _).trans hK, hp, h0.1, h0.2, by omega, by simp⟩
  · rw [hfl] at ht
    by_cases hq : q < (rs.map Prod.snd).flatten.length
    · rw [List.getElem?_append_left hq] at ht
      exact ⟨(hels _ (.inl (by omega))).trans (h.tys q t ht).1, (h.tys q t ht).2⟩
    · rw [List.getElem?_append_right (by omega)] at ht
      have := hty _ t ht
      rw [show p + (q - (rs.map Prod.snd).flatten.length) = i + 1 + q by omega] at this
      exact this
  · rw [hfl, List.length_append]; omega
  · exact (hels _ (.inl (by omega))).trans (h.ty hκ)
  · rcases hk with hk | hk
    · exact (hels k (.inl (by omega))).trans (h.els k (.inl hk))
    · exact (hels k (.inr hk)).trans (h.els k (.inr (by omega)))
/-- The kids as rule wants them. -/
theorem Lp.kds {B : Nat} {w w1 w2 wv : World} {cb tb K i κ p m : Nat} {nv sv iv : Value} {l : List Tr.Nd} {x : Tr.Nd} {rs : List (Nat × List Ty)} (h : Lp B w w1 w2 wv cb tb K i κ p m nv sv iv l x rs) (hm : rs.length = m) (hle : m ≤ 4096) :
    Kds wv tb l.length (.slice (some ⟨K, 0, none⟩) m m) (rs.map fun r => (r.1, r.2.headD .tq)) := by
  have e : (rs.map fun r => (r.1, r.2.headD .tq)).length = m := by rw [List.length_map]; exact hm
  refine ⟨⟨_, by rw [e]⟩, by omega, fun j k hk => ⟨K, by rw [e], ?_⟩⟩
  rw [List.getElem?_map] at hk
  cases hr : rs[j]? with
  | none => rw [hr] at hk; cases hk
  | some r =>
    rw [hr] at hk
    cases hk
    obtain ⟨d1, d2, d3, d4, _⟩ := h.did j r hr
    exact ⟨d1, d2, d3, d4⟩
end Go.Proofs.YthihnkgjkmaplaaDoor
namespace Go.Proofs.YthihnkgjkmaplaaDoor
open Go.RowKit Ck
open T3.Tp (Ty enc cns met)
open Tr (flat flats)
set_option maxRecDepth 100000
set_option linter.unusedSimpArgs false

/-- No type of an environment is too large. -/
def EnvOk (env : Env) : Prop := ∀ n t, Ck.look env n = some t → (enc t).length ≤ 64
theorem EnvOk.cons {env : Env} (h : EnvOk env) {n : List UInt8} {t : Ty} (ht : (enc t).length ≤ 64) : EnvOk ((n, t) :: env) := by
  intro m u hu
  simp only [Ck.look] at hu
  split at hu
  · cases hu; exact ht
  · exact h m u hu
theorem made_len {i : Nat} {t u : Ty} (h : made i t = .ok u) : (enc u).length ≤ 64 := by
  unfold made at h
  split at h
  · rename_i hz; cases h; exact hz
  · cases h
theorem mt_len {t A B : Ty} {h : UInt8} (e : Ck.mt t h = some (A, B)) (ht : (enc t).length ≤ 64) : (enc A).length ≤ 64 ∧ (enc B).length ≤ 64 ∧ (h = 108 → (enc (.tl A)).length ≤ 64) := by
  cases t with
  | ti | tb | tt => simp [Ck.mt] at e
  | tq => simp [Ck.mt] at e; obtain ⟨rfl, rfl⟩ := e; exact ⟨by decide, by decide, fun _ => by decide⟩
  | tl a =>
    simp only [Ck.mt] at e
    split at e
    · cases e; simp [T3.Tp.enc] at ht ⊢; omega
    · cases e
  | tx a =>
    simp only [Ck.mt] at e
    split at e
    · cases e; rename_i hh; simp [T3.Tp.enc] at ht ⊢; exact ⟨by omega, fun h' => by rw [hh] at h'; cases h'⟩
    · cases e
  | tf a b | tp a b =>
    simp only [Ck.mt] at e
    split at e
    · cases e; rename_i hh; simp [T3.Tp.enc] at ht ⊢; exact ⟨by omega, by omega, fun h' => by rw [hh] at h'; cases h'⟩
    · cases e
theorem use_len {kid g : Nat} {h : UInt8} {ks : List (Nat × Ty)} {t : Ty} (hk : ∀ k ∈ ks, (enc k.2).length ≤ 64) (hg : g = 2 → h = 108) (e : use (kid, h, g) ks = .ok t) : (enc t).length ≤ 64 := by
  unfold use at e
  split at e
  · cases e
  · rename_i p s hs
    split at e
    · cases e
    · rename_i A B hm
      split at e
      · cases e
      · cases e
        obtain ⟨h1, h2, h3⟩ := mt_len hm (hk _ (List.mem_of_getElem? hs))
        unfold giv
        split
        · exact h1
        · split
          · exact h2
          · split
            · rename_i hg2; exact h3 (hg hg2)
            · simp [T3.Tp.enc]
theorem rule_len {env : Env} {x : Tr.Nd} {κ i : Nat} {ks : List (Nat × Ty)} {t : Ty} (hN : Nod x κ) (hE : EnvOk env) (hk : ∀ k ∈ ks, (enc k.2).length ≤ 64) (ha : Ck.ahead x = false) (e : Ck.rule env x i ks = .ok t) : (enc t).length ≤ 64 := by
  have hκ := hN.kind
  unfold Ck.rule at e
  split at e
  · split at e
    · cases e
    · rename_i u hu; cases e; exact hE _ _ hu
  split at e
  · rename_i h56
    split at e
    · split at e
      · cases e
        unfold Ck.ahead at ha
        have e1 : (x.kind == 5 || x.kind == 6) = true := by rcases h56 with h | h <;> rw [h] <;> rfl
        rw [e1] at ha
        simp only [Bool.true_and, decide_eq_false_iff_not] at ha
        show (enc _).length ≤ 64
        have : ¬ 64 < (enc (.tf (wr x.t) (wr x.u))).length := ha
        omega
      · cases e
    · cases e
  split at e
  · split at e
    · split at e
      · cases e; exact hk _ (by simp)
      · cases e
    · cases e
  split at e
  · rename_i h29
    split at e
    · split at e
      · cases e; exact (wr_typ (hN.a (by omega))).2
      · cases e
    · cases e
  split at e
  · split at e
    · split at e
      · exact meetK_len e
      · cases e
    · cases e
  split at e
  · split at e
    · exact made_len e
    · cases e
  split at e
  · split at e
    · exact made_len e
    · cases e
  split at e
  · split at e
    · cases e
    · exact made_len e
  split at e
  · rename_i u hu
    obtain ⟨kid, h, g⟩ := u
    refine use_len hk ?_ e
    intro hg
    unfold useT at hu
    repeat' split at hu
    all_goals first | (cases hu; done) | (cases hu; first | rfl | (simp at hg))
  · unfold opr at e
    split at e
    · cases e
    · cases e
      unfold opT
      repeat' split
      all_goals decide
theorem inner_ok {env : Env} {x : Tr.Nd} {κ : Nat} (hN : Nod x κ) (hE : EnvOk env) (ha : Ck.ahead x = false) (j : Nat) : EnvOk (Ck.inner x j env) := by
  have hκ := hN.kind
  unfold Ck.inner
  by_cases h5 : x.kind = 5
  · rw [if_pos h5]; exact hE.cons (wr_note (hN.t (by omega))).2
  rw [if_neg h5]
  by_cases h6 : x.kind = 6
  · rw [if_pos h6]
    refine EnvOk.cons (hE.cons ?_) (wr_note (hN.t (by omega))).2
    unfold Ck.ahead at ha
    have e1 : (x.kind == 5 || x.kind == 6) = true := by rw [h6]; rfl
    rw [e1] at ha
    simp only [Bool.true_and, decide_eq_false_iff_not] at ha
    have : ¬ 64 < (enc (.tf (wr x.t) (wr x.u))).length := ha
    omega
  rw [if_neg h6]
  split
  · rename_i h8; exact hE.cons (wr_note (hN.t (by omega))).2
  · exact hE
end Go.Proofs.YthihnkgjkmaplaaDoor
