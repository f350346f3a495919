/- A case that is handed in, opened, with the lengths of all its texts. -/
import Derived.Test.YthdlfeejeboboaaDoorUaq
import Derived.Test.YthdlfeejeboboaaDoorUal
import Derived.Test.YthdlfeejeboboaaDoorUae
import Derived.Test.YthdlfeejeboboaaDoorUak
import Derived.Deep.Strs
import Derived.Deep.Slices
import Derived.ChangeArms
import Derived.SizedLaws
import Derived.RowKit
import Derived.OpenShut
namespace Go.Proofs.YthdlfeejeboboaaDoor
open Go.RowKit Ck
open T3.Tp (Ty enc cns met)
open Tr (flat flats)
set_option maxRecDepth 100000
set_option linter.unusedSimpArgs false

/-- What is done, ahead of what is still to come. -/
def addR (rs : List (Nat × List Ty)) : Rs (List (Nat × List Ty)) → Rs (List (Nat × List Ty))
  | .error e => .error e
  | .ok b => .ok (rs ++ b)
theorem addR_nil (r : Rs (List (Nat × List Ty))) : addR [] r = r := by cases r <;> rfl
theorem addR_ok {env : Env} {x : Tr.Nd} {j p : Nat} {t : Tr.T} {r : List Tr.T} {rs : List (Nat × List Ty)} {a : List Ty} (h : ckT (Ck.inner x j env) t p = .ok a) : addR rs (ckL env x j (t :: r) p) = addR (rs ++ [(p, a)]) (ckL env x (j + 1) r (p + (flat t).length)) := by
  simp only [ckL, h]
  cases ckL env x (j + 1) r (p + (flat t).length) with
  | error e => rfl
  | ok b => simp [addR]
theorem addR_err {env : Env} {x : Tr.Nd} {j p : Nat} {t : Tr.T} {r : List Tr.T} {rs : List (Nat × List Ty)} {e : Int × Nat} (h : ckT (Ck.inner x j env) t p = .error e) : addR rs (ckL env x j (t :: r) p) = .error e := by
  simp only [ckL, h, addR]
theorem addR_end {env : Env} {x : Tr.Nd} {j p : Nat} {rs : List (Nat × List Ty)} : addR rs (ckL env x j [] p) = .ok rs := by simp [ckL, addR]
theorem ckT_pos {env : Env} {t : Tr.T} {p : Nat} {a : List Ty} (h : ckT env t p = .ok a) : ∃ b r, a = b :: r := by
  have := len_T t env p a h
  have h2 := Tr.flat_pos t
  cases a with
  | nil => simp at this; omega
  | cons b r => exact ⟨b, r, rfl⟩

/-- The loop's state: the kids that are done, the next node p. w: where part began; w1: where kidOf was called; w2: where it ended; K: the row of the kids' places. -/
structure Lp (B : Nat) (w w1 w2 wv : World) (cb tb K i κ p m : Nat) (nv sv iv : Value) (l : List Tr.Nd) (x : Tr.Nd) (rs : List (Nat × List Ty)) : Prop where
  st : St B wv cb tb nv l p
  two : Two cb tb w wv
  two2 : Two cb tb w2 wv
  kb : Kb w1 wv cb sv iv x
  res : wv.heap[w.heap.size]? = some (.cells #[.int .i64 0, .int .i64 0] 61)
  row : ∀ q, q < m → ∃ u : Int, wv.cell? ⟨K, q, none⟩ = some (.int .i64 u)
  rz : ∀ q, wv.frozen? ⟨K, q, none⟩ = false
  did : ∀ q r, rs[q]? = some r → wv.cell? ⟨K, q, none⟩ = some (.int .i64 (r.1 : Int)) ∧ r.1 < l.length ∧ wv.cell? ⟨tb, r.1, none⟩ = some (.string (S (enc (r.2.headD .tq)))) ∧ (enc (r.2.headD .tq)).length ≤ 64 ∧ i < r.1 ∧ r.1 < p
  tys : ∀ q t, (rs.map Prod.snd).flatten[q]? = some t → wv.cell? ⟨tb, i + 1 + q, none⟩ = some (.string (S (enc t))) ∧ (enc t).length ≤ 64
  pos : p = i + 1 + (rs.map Prod.snd).flatten.length
  ty : (κ = 5 ∨ κ = 6) → wv.cell? ⟨tb, i, none⟩ = some (.string (S (enc (.tf (wr x.t) (wr x.u)))))
  els : ∀ k, (k < i ∨ p ≤ k) → wv.cell? ⟨tb, k, none⟩ = w.cell? ⟨tb, k, none⟩
  lt : B ≤ w.heap.size ∧ w.heap.size < w1.heap.size ∧ w1.heap.size + 4 ≤ w2.heap.size ∧ w2.heap.size ≤ K ∧ K < wv.heap.size
/-- New memory does no harm. -/
theorem Lp.below {B : Nat} {w w1 w2 wv w3 : World} {cb tb K i κ p m : Nat} {nv sv iv : Value} {l : List Tr.Nd} {x : Tr.Nd} {rs : List (Nat × List Ty)} (h : Lp B w w1 w2 wv cb tb K i κ p m nv sv iv l x rs) (hB : Below wv.heap.size wv w3) : Lp B w w1 w2 w3 cb tb K i κ p m nv sv iv l x rs := by
  have hl := h.lt
  have hs := h.st.lt
  have hK : ∀ o, w3.cell? ⟨K, o, none⟩ = wv.cell? ⟨K, o, none⟩ := fun o => hB.cell (p := ⟨K, o, none⟩) hl.2.2.2.2
  have hT : ∀ o, w3.cell? ⟨tb, o, none⟩ = wv.cell? ⟨tb, o, none⟩ := fun o => hB.cell (p := ⟨tb, o, none⟩) (by show tb < _; omega)
  refine ⟨h.st.below hB, h.two.below hB, h.two2.below hB, h.kb.later hB, (hB.block _ (by omega)).trans h.res, fun q hq => ?_, fun q => ?_, fun q r hr => ?_, fun q t ht => ?_, h.pos, fun hκ => (hT _).trans (h.ty hκ), fun k hk => (hT _).trans (h.els k hk), by have := hB.size; omega⟩
  · obtain ⟨u, hu⟩ := h.row q hq; exact ⟨u, (hK _).trans hu⟩
  · rw [← h.rz q]; unfold World.frozen?; rw [hB.block _ hl.2.2.2.2]
  · obtain ⟨d1, d2, d3, d4⟩ := h.did q r hr; exact ⟨(hK _).trans d1, d2, (hT _).trans d3, d4⟩
  · exact ⟨(hT _).trans (h.tys q t ht).1, (h.tys q t ht).2⟩
/-- A kid's place is laid into the row. -/
theorem Lp.put {B : Nat} {w w1 w2 wv w3 : World} {cb tb K i κ p m : Nat} {nv sv iv : Value} {l : List Tr.Nd} {x : Tr.Nd} {rs : List (Nat × List Ty)} (h : Lp B w w1 w2 wv cb tb K i κ p m nv sv iv l x rs) (hj : rs.length < m) (hw : w3 = wv.setCell ⟨K, rs.length, none⟩ (.int .i64 (p : Int))) :
    Lp B w w1 w2 w3 cb tb K i κ p m nv sv iv l x rs ∧ w3.cell? ⟨K, rs.length, none⟩ = some (.int .i64 (p : Int)) := by
  have hl := h.lt
  have hs := h.st.lt
  have hne : ∀ k, k ≠ K → w3.heap[k]? = wv.heap[k]? := fun k hk => by rw [hw]; exact Below.heap_setCell _ _ _ _ hk
  have hz : w3.heap.size = wv.heap.size := by rw [hw]; simp [World.setCell]
  obtain ⟨u, hu⟩ := h.row rs.length hj
  have hnew : w3.cell? ⟨K, rs.length, none⟩ = some (.int .i64 (p : Int)) := by rw [hw]; exact World.cell?_setCell_same (w := wv) (a := ⟨K, rs.length, none⟩) (v := .int .i64 (p : Int)) hu
  have hT : ∀ o, w3.cell? ⟨tb, o, none⟩ = wv.cell? ⟨tb, o, none⟩ := fun o => World.cell?_of_block (hne _ (by show tb ≠ K; omega))
  have h2K : Two K K wv w3 := by rw [hw]; exact (Two.refl K K wv).setA _ _
  have hold : ∀ q, q ≠ rs.length → w3.cell? ⟨K, q, none⟩ = wv.cell? ⟨K, q, none⟩ := fun q hq => by rw [hw]; exact World.cell?_setCell_other (w := wv) (a := ⟨K, rs.length, none⟩) (b := ⟨K, q, none⟩) (v := .int .i64 (p : Int)) (fun e => hq (by cases e; rfl))
  have hfz : ∀ q, w3.frozen? ⟨K, q, none⟩ = false := fun q => by rw [hw, ← h.rz q]; simp [go_sem]
  refine ⟨⟨h.st.keep h2K (by omega) (by omega), ⟨h2K.os.trans h.two.os, h2K.tape.trans h.two.tape, h2K.output.trans h.two.output, by have := h.two.size; omega, fun k hk a b => (hne k (by omega)).trans (h.two.block k hk a b)⟩, ⟨h2K.os.trans h.two2.os, h2K.tape.trans h.two2.tape, h2K.output.trans h.two2.output, by have := h.two2.size; omega, fun k hk a b => (hne k (by omega)).trans (h.two2.block k hk a b)⟩, ?_, (hne _ (by omega)).trans h.res, fun q hq => ?_, hfz, fun q r hr => ?_, fun q t ht => ?_, h.pos, fun hκ => (hT _).trans (h.ty hκ), fun k hk => (hT _).trans (h.els k hk), by omega⟩, hnew⟩
  · exact ⟨by have := h.kb.size; omega, (hne _ (by omega)).trans h.kb.c, (hne _ (by omega)).trans h.kb.a, (hne _ (by omega)).trans h.kb.n, (hne _ (by omega)).trans h.kb.i⟩
  · by_cases hq' : q = rs.length
    · subst hq'; exact ⟨_, hnew⟩
    · obtain ⟨v, hv⟩ := h.row q hq; exact ⟨v, (hold q hq').trans hv⟩
  · obtain ⟨d1, d2, d3, d4⟩ := h.did q r hr
    have : q < rs.length := (List.getElem?_eq_some_iff.1 hr).1
    exact ⟨(hold q (by omega)).trans d1, d2, (hT _).trans d3, d4⟩
  · exact ⟨(hT _).trans (h.tys q t ht).1, (h.tys q t ht).2⟩
/-- A kid is done. -/
theorem Lp.step {B : Nat} {w w1 w2 wv w3 : World} {cb tb K i κ p m : Nat} {nv sv iv : Value} {l : List Tr.Nd} {x : Tr.Nd} {rs : List (Nat × List Ty)} {b : Ty} {a : List Ty} {e : Ending} (h : Lp B w w1 w2 wv cb tb K i κ p m nv sv iv l x rs) (hK : wv.cell? ⟨K, rs.length, none⟩ = some (.int .i64 (p : Int))) (hp : p < l.length)
    (hP : PEnd B wv cb tb nv l p (.ok (b :: a)) e w3) : Lp B w w1 w2 w3 cb tb K i κ (p + (b :: a).length) m nv sv iv l x (rs ++ [(p, b :: a)]) := by
  obtain ⟨hT, _, hS3, hty, hels⟩ := hP
  have hl := h.lt
  have hs := h.st.lt
  have hb : ∀ k, B ≤ k → k < wv.heap.size → w3.heap[k]? = wv.heap[k]? := fun k h1 h2 => hT.block k h2 (by omega) (by omega)
  have hKc : ∀ o, w3.cell? ⟨K, o, none⟩ = wv.cell? ⟨K, o, none⟩ := fun o => World.cell?_of_block (hb _ (by show B ≤ K; omega) hl.2.2.2.2)
  have hfl : ((rs ++ [(p, b :: a)]).map Prod.snd).flatten = (rs.map Prod.snd).flatten ++ (b :: a) := by simp
  have hpos := h.pos
  refine ⟨hS3, h.two.trans hT, h.two2.trans hT, ?_, (hb _ (by omega) (by omega)).trans h.res, fun q hq => ?_, fun q => ?_, fun q r hr => ?_, fun q t ht => ?_, ?_, fun hκ => ?_, fun k hk => ?_, by have := hT.size; omega⟩
  · have := h.kb.size
    exact ⟨by have := hT.size; omega, (hb _ (by omega) (by omega)).trans h.kb.c, (hb _ (by omega) (by omega)).trans h.kb.a, (hb _ (by omega) (by omega)).trans h.kb.n, (hb _ (by omega) (by omega)).trans h.kb.i⟩
  · obtain ⟨v, hv⟩ := h.row q hq; exact ⟨v, (hKc _).trans hv⟩
  · rw [← h.rz q]; unfold World.frozen?; rw [hb _ (by show B ≤ K; omega) hl.2.2.2.2]
  · by_cases hq : q < rs.length
    · rw [List.getElem?_append_left hq] at hr
      obtain ⟨d1, d2, d3, d4, d5, d6⟩ := h.did q r hr
      exact ⟨(hKc _).trans d1, d2, (hels _ (.inl d6)).trans d3, d4, d5, by omega⟩
    · have hq2 : q = rs.length := by
        have := (List.getElem?_eq_some_iff.1 hr).1
        simp at this; omega
      subst hq2
      simp at hr
      subst hr
      have h0 := hty 0 b rfl
      exact ⟨(hKc _).trans hK, hp, h0.1, h0.2, by omega, by simp⟩
  · rw [hfl] at ht
    by_cases hq : q < (rs.map Prod.snd).flatten.length
    · rw [List.getElem?_append_left hq] at ht
      exact ⟨(hels _ (.inl (by omega))).trans (h.tys q t ht).1, (h.tys q t ht).2⟩
    · rw [List.getElem?_append_right (by omega)] at ht
      have := hty _ t ht
      rw [show p + (q - (rs.map Prod.snd).flatten.length) = i + 1 + q by omega] at this
      exact this
  · rw [hfl, List.length_append]; omega
  · exact (hels _ (.inl (by omega))).trans (h.ty hκ)
  · rcases hk with hk | hk
    · exact (hels k (.inl (by omega))).trans (h.els k (.inl hk))
    · exact (hels k (.inr hk)).trans (h.els k (.inr (by omega)))
/-- The kids as rule wants them. -/
theorem Lp.kds {B : Nat} {w w1 w2 wv : World} {cb tb K i κ p m : Nat} {nv sv iv : Value} {l : List Tr.Nd} {x : Tr.Nd} {rs : List (Nat × List Ty)} (h : Lp B w w1 w2 wv cb tb K i κ p m nv sv iv l x rs) (hm : rs.length = m) (hle : m ≤ 4096) :
    Kds wv tb l.length (.slice (some ⟨K, 0, none⟩) m m) (rs.map fun r => (r.1, r.2.headD .tq)) := by
  have e : (rs.map fun r => (r.1, r.2.headD .tq)).length = m := by rw [List.length_map]; exact hm
  refine ⟨⟨_, by rw [e]⟩, by omega, fun j k hk => ⟨K, by rw [e], ?_⟩⟩
  rw [List.getElem?_map] at hk
  cases hr : rs[j]? with
  | none => rw [hr] at hk; cases hk
  | some r =>
    rw [hr] at hk
    cases hk
    obtain ⟨d1, d2, d3, d4, _⟩ := h.did j r hr
    exact ⟨d1, d2, d3, d4⟩
end Go.Proofs.YthdlfeejeboboaaDoor
namespace Go.Proofs.YthdlfeejeboboaaDoor
open Go.RowKit Ck
open T3.Tp (Ty enc cns met)
open Tr (flat flats)
set_option maxRecDepth 100000
set_option linter.unusedSimpArgs false

/-- No type of an environment is too large. -/
def EnvOk (env : Env) : Prop := ∀ n t, Ck.look env n = some t → (enc t).length ≤ 64
theorem EnvOk.cons {env : Env} (h : EnvOk env) {n : List UInt8} {t : Ty} (ht : (enc t).length ≤ 64) : EnvOk ((n, t) :: env) := by
  intro m u hu
  simp only [Ck.look] at hu
  split at hu
  · cases hu; exact ht
  · exact h m u hu
theorem made_len {i : Nat} {t u : Ty} (h : made i t = .ok u) : (enc u).length ≤ 64 := by
  unfold made at h
  split at h
  · rename_i hz; cases h; exact hz
  · cases h
theorem mt_len {t A B : Ty} {h : UInt8} (e : Ck.mt t h = some (A, B)) (ht : (enc t).length ≤ 64) : (enc A).length ≤ 64 ∧ (enc B).length ≤ 64 ∧ (h = 108 → (enc (.tl A)).length ≤ 64) := by
  cases t with
  | ti | tb | tt => simp [Ck.mt] at e
  | tq => simp [Ck.mt] at e; obtain ⟨rfl, rfl⟩ := e; exact ⟨by decide, by decide, fun _ => by decide⟩
  | tl a =>
    simp only [Ck.mt] at e
    split at e
    · cases e; simp [T3.Tp.enc] at ht ⊢; omega
    · cases e
  | tx a =>
    simp only [Ck.mt] at e
    split at e
    · cases e; rename_i hh; simp [T3.Tp.enc] at ht ⊢; exact ⟨by omega, fun h' => by rw [hh] at h'; cases h'⟩
    · cases e
  | tf a b | tp a b =>
    simp only [Ck.mt] at e
    split at e
    · cases e; rename_i hh; simp [T3.Tp.enc] at ht ⊢; exact ⟨by omega, by omega, fun h' => by rw [hh] at h'; cases h'⟩
    · cases e
theorem use_len {kid g : Nat} {h : UInt8} {ks : List (Nat × Ty)} {t : Ty} (hk : ∀ k ∈ ks, (enc k.2).length ≤ 64) (hg : g = 2 → h = 108) (e : use (kid, h, g) ks = .ok t) : (enc t).length ≤ 64 := by
  unfold use at e
  split at e
  · cases e
  · rename_i p s hs
    split at e
    · cases e
    · rename_i A B hm
      split at e
      · cases e
      · cases e
        obtain ⟨h1, h2, h3⟩ := mt_len hm (hk _ (List.mem_of_getElem? hs))
        unfold giv
        split
        · exact h1
        · split
          · exact h2
          · split
            · rename_i hg2; exact h3 (hg hg2)
            · simp [T3.Tp.enc]
theorem rule_len {env : Env} {x : Tr.Nd} {κ i : Nat} {ks : List (Nat × Ty)} {t : Ty} (hN : Nod x κ) (hE : EnvOk env) (hk : ∀ k ∈ ks, (enc k.2).length ≤ 64) (ha : Ck.ahead x = false) (e : Ck.rule env x i ks = .ok t) : (enc t).length ≤ 64 := by
  have hκ := hN.kind
  unfold Ck.rule at e
  split at e
  · split at e
    · cases e
    · rename_i u hu; cases e; exact hE _ _ hu
  split at e
  · rename_i h56
    split at e
    · split at e
      · cases e
        unfold Ck.ahead at ha
        have e1 : (x.kind == 5 || x.kind == 6) = true := by rcases h56 with h | h <;> rw [h] <;> rfl
        rw [e1] at ha
        simp only [Bool.true_and, decide_eq_false_iff_not] at ha
        show (enc _).length ≤ 64
        have : ¬ 64 < (enc (.tf (wr x.t) (wr x.u))).length := ha
        omega
      · cases e
    · cases e
  split at e
  · split at e
    · split at e
      · cases e; exact hk _ (by simp)
      · cases e
    · cases e
  split at e
  · rename_i h29
    split at e
    · split at e
      · cases e; exact (wr_typ (hN.a (by omega))).2
      · cases e
    · cases e
  split at e
  · split at e
    · split at e
      · exact meetK_len e
      · cases e
    · cases e
  split at e
  · split at e
    · exact made_len e
    · cases e
  split at e
  · split at e
    · exact made_len e
    · cases e
  split at e
  · split at e
    · cases e
    · exact made_len e
  split at e
  · rename_i u hu
    obtain ⟨kid, h, g⟩ := u
    refine use_len hk ?_ e
    intro hg
    unfold useT at hu
    repeat' split at hu
    all_goals first | (cases hu; done) | (cases hu; first | rfl | (simp at hg))
  · unfold opr at e
    split at e
    · cases e
    · cases e
      unfold opT
      repeat' split
      all_goals decide
theorem inner_ok {env : Env} {x : Tr.Nd} {κ : Nat} (hN : Nod x κ) (hE : EnvOk env) (ha : Ck.ahead x = false) (j : Nat) : EnvOk (Ck.inner x j env) := by
  have hκ := hN.kind
  unfold Ck.inner
  by_cases h5 : x.kind = 5
  · rw [if_pos h5]; exact hE.cons (wr_note (hN.t (by omega))).2
  rw [if_neg h5]
  by_cases h6 : x.kind = 6
  · rw [if_pos h6]
    refine EnvOk.cons (hE.cons ?_) (wr_note (hN.t (by omega))).2
    unfold Ck.ahead at ha
    have e1 : (x.kind == 5 || x.kind == 6) = true := by rw [h6]; rfl
    rw [e1] at ha
    simp only [Bool.true_and, decide_eq_false_iff_not] at ha
    have : ¬ 64 < (enc (.tf (wr x.t) (wr x.u))).length := ha
    omega
  rw [if_neg h6]
  split
  · rename_i h8; exact hE.cons (wr_note (hN.t (by omega))).2
  · exact hE
end Go.Proofs.YthdlfeejeboboaaDoor
namespace Go.Proofs.YthdlfeejeboboaaDoor
open Go.RowKit Go.Maps Ck
open Go.WideMaps Go.WideElems
open T3.Tp (Ty enc cns met)
set_option maxRecDepth 100000
set_option linter.unusedSimpArgs false

theorem Idx.lt {w : World} {b n : Nat} {g : List UInt8 → Option Nat} (h : Idx w b n g) : b < w.heap.size := by obtain ⟨D, h, _⟩ := h; exact h.lt
theorem Idx.kept {w w' : World} {b n : Nat} {g : List UInt8 → Option Nat} {r : Option Nat} (h : Idx w b n g) (hg : w.grownBy w' r) (hne : some b ≠ r) : Idx w' b n g := by
  obtain ⟨D, h1, h2⟩ := h; exact ⟨D, h1.kept hg hne, h2⟩
theorem Idx.made (w : World) : Idx (w.alloc (.map #[] 0)) w.heap.size 0 (fun _ => none) := ⟨.map [], World.ownsMap_made w _ _ _, fun _ => ⟨rfl, rfl⟩⟩
theorem wpList_idx (w : World) {ops : Array Oper} {rest : List Oper} {o : Oper} {a : Act} {Q : Exit → Act → World → Prop}
    (hg : o.guard = none) (m x v : Operand) (hop : o.op = Op.mapUpdate 44 m x v) (b n : Nat) (g : List UInt8 → Option Nat) (hm : a.eval m = .map (some b)) (h : Idx w b n g) (hn : n < 1000000) (s : ByteArray) (hs : s.size ≤ maxLen)
    (hx : a.eval x = .string s) (c : Nat) (hv : a.eval v = .int .i64 (c : Int)) (hc : c ≤ 1000000)
    (hK : ∀ w', Idx w' b (n + 1) (fun l => if l = s.data.toList then some c else g l) → w.grownBy w' (some b) → wpList Tryd.prog ops Q rest (a.put o.dst undef) w') :
    wpList Tryd.prog ops Q (o :: rest) a w := by
  obtain ⟨D, hD, hat⟩ := h
  refine wpList_mapUpdate_own w hg m x v 44 hop 9 3 keyed9 tyCnt (plainElem Tryd.prog 3) b n D hm hD (by unfold maxLen; omega) _ _ (.string s.data.toList) hx hv (keyOf_string_mk ty9 hs) (.lit (.int .i64 (c : Int))) [] (plainElem_int ty3 (by apply WalkArith.wf_i64; omega)) ?_
  intro w' h1 h2
  refine hK w' ⟨_, h1, fun l => ?_⟩ h2
  by_cases e : l = s.data.toList
  · subst e
    rw [atKey_put_same hD.isMap (by trivial), has_put_same hD.isMap (by trivial)]
    simp
  · have hne : Lit.string l ≠ Lit.string s.data.toList := by intro h; cases h; exact e rfl
    rw [atKey_put_other hne, has_put_other hne]
    simp only [if_neg e]
    exact hat l

/-- The last place below k where a name stands. -/
def lastAt (N : List (List UInt8)) : Nat → List UInt8 → Option Nat
  | 0, _ => none
  | k + 1, l => if N[k]? = some l then some k else lastAt N k l
theorem lastAt_lt : ∀ {N : List (List UInt8)} {k : Nat} {l : List UInt8} {j : Nat}, lastAt N k l = some j → j < k
  | _, 0, _, _, h => by simp [lastAt] at h
  | N, k + 1, l, j, h => by
    rw [lastAt] at h
    split at h
    · cases h; omega
    · have := lastAt_lt h; omega
/-- The environment that names and types make: of names that are alike the later one counts. -/
def envOf (N : List (List UInt8)) (ts : List Ty) : Env := (N.zip ts).reverse
theorem look_last (N : List (List UInt8)) (ts : List Ty) (h : N.length = ts.length) : ∀ k, k ≤ N.length → ∀ l, Ck.look ((N.zip ts).take k).reverse l = (lastAt N k l).bind fun j => ts[j]?
  | 0, _, l => by simp [Ck.look, lastAt]
  | k + 1, hk, l => by
    have h1 : N[k]? = some N[k] := List.getElem?_eq_getElem (by omega)
    have h2 : ts[k]? = some ts[k] := List.getElem?_eq_getElem (by omega)
    have hz : (N.zip ts)[k]? = some (N[k], ts[k]) := by rw [List.getElem?_zip_eq_some]; exact ⟨h1, h2⟩
    rw [List.take_add_one, hz]
    simp only [Option.toList, List.reverse_append, List.reverse_cons, List.reverse_nil, List.nil_append, List.cons_append, Ck.look, lastAt, h1, Option.some.injEq]
    by_cases e : l = N[k]
    · rw [if_pos e, if_pos e.symm]; exact h2.symm
    · rw [if_neg e, if_neg (Ne.symm e)]; exact look_last N ts h k (by omega) l
/-- May these be an environment? -/
def envB (N Th : List (List UInt8)) : Bool := decide (N.length = Th.length) && (Th.all fun t => (T3.Tp.chk t).1 == 0) && N.all nameB
theorem envB_types {N Th : List (List UInt8)} (h : envB N Th = true) : ∃ ts : List Ty, N.length = ts.length ∧ Th = ts.map enc ∧ ∀ t ∈ ts, (enc t).length ≤ 64 := by
  unfold envB at h
  simp only [Bool.and_eq_true, decide_eq_true_eq, List.all_eq_true, beq_iff_eq] at h
  obtain ⟨⟨h1, h2⟩, _⟩ := h
  refine ⟨Th.map tyOf, by simpa using h1, ?_, ?_⟩
  · rw [List.map_map]
    conv => lhs; rw [← List.map_id Th]
    apply List.map_congr_left
    intro t ht
    obtain ⟨u, rfl, _⟩ := T3.Tp.chk_dec (h2 t ht)
    simp [tyOf_enc]
  · intro t ht
    obtain ⟨u, hu, rfl⟩ := List.mem_map.1 ht
    obtain ⟨v, rfl, hv⟩ := T3.Tp.chk_dec (h2 u hu)
    rw [tyOf_enc]; exact hv
theorem txs_below {w w' : World} {v : Value} {ps : List (List UInt8)} (h : T3.IsTexts w v ps) (hB : Below w.heap.size w w') : T3.IsTexts w' v ps := by
  rcases h with h | ⟨b, o, c, rfl, h1, h2, h3⟩
  · exact .inl h
  · exact .inr ⟨b, o, c, rfl, h1, Nat.lt_of_lt_of_le h2 hB.size, fun j p hp => (hB.cell (p := ⟨b, o + j, none⟩) h2).trans (h3 j p hp)⟩
theorem txs_form {w : World} {v : Value} {ps : List (List UInt8)} (h : T3.IsTexts w v ps) : ∃ a c, v = .slice a ps.length c := by
  rcases h with ⟨rfl, a, c, rfl⟩ | ⟨b, o, c, rfl, _⟩
  · exact ⟨a, c, rfl⟩
  · exact ⟨_, c, rfl⟩
theorem txs_at {w : World} {a : Option Addr} {n c : Nat} {ps : List (List UInt8)} (h : T3.IsTexts w (.slice a n c) ps) {k : Nat} {p : List UInt8} (hp : ps[k]? = some p) :
    ∃ b o, a = some ⟨b, o, none⟩ ∧ n ≤ c ∧ b < w.heap.size ∧ w.cell? ⟨b, o + k, none⟩ = some (.string (T3.S p)) := by
  rcases h with ⟨rfl, _⟩ | ⟨b, o, c', h0, h1, h2, h3⟩
  · simp at hp
  · obtain ⟨rfl, rfl, rfl⟩ : a = some ⟨b, o, none⟩ ∧ n = ps.length ∧ c = c' := by simpa using h0
    exact ⟨b, o, rfl, h1, h2, h3 k p hp⟩
theorem getp {a : List (List UInt8)} {k : Nat} (h : k < a.length) : ∃ x, a[k]? = some x := ⟨a[k], List.getElem?_eq_getElem h⟩

/-- How environment ends. -/
def EnvEnd (w : World) (N Th : List (List UInt8)) (e : Ending) (w' : World) : Prop := Below w.heap.size w w' ∧
  if envB N Th then ∃ v ts, e = .returned (.tuple #[v, .bool true]) ∧ N.length = ts.length ∧ Th = ts.map enc ∧ (∀ t ∈ ts, (enc t).length ≤ 64) ∧ ∀ a b, w'.heap.size ≤ a → w'.heap.size ≤ b → Scope a b w' v (envOf N ts)
  else e = .returned (.tuple #[.nilFunc, .bool false])
theorem EnvEnd.no {w w' : World} {N Th : List (List UInt8)} (hB : Below w.heap.size w w') (h : envB N Th = false) : EnvEnd w N Th (.returned (.tuple #[.nilFunc, .bool false])) w' := ⟨hB, by rw [if_neg (by rw [h]; decide)]⟩
end Go.Proofs.YthdlfeejeboboaaDoor
namespace Go.Proofs.YthdlfeejeboboaaDoor
open Go.ChangeShapes Go.WideShapes Go.RowKit
set_option maxRecDepth 100000

theorem ndF : fieldsOf Tryd.prog 36 = [(32, 0), (3, 1), (2, 2), (9, 3), (9, 4), (9, 5), (34, 6)] := by kernel_rfl
theorem plF : fieldsOf Tryd.prog 34 = [(3, 0), (3, 1)] := by kernel_rfl
theorem weights_lit {H : Type} {P : Program} (s : ByteArray) (t : TypeId) : s.size ∈ (DataW.lit (.string s.data.toList) : DataW H).weights P t := by
  unfold DataW.weights
  rw [← str_len s]
  exact List.mem_singleton.2 rfl
theorem weightsAll_mem {H : Type} {P : Program} {e : TypeId} : ∀ {l : List (DataW H)} {d : DataW H}, d ∈ l → ∀ n ∈ d.weights P e, n ∈ DataW.weightsAll P e l
  | [], _, h, _, _ => by simp at h
  | a :: l, d, h, n, hn => by
    rw [DataW.weightsAll, List.mem_append]
    rcases List.mem_cons.1 h with rfl | h
    · exact .inl hn
    · exact .inr (weightsAll_mem h n hn)

section
variable {H : Type} {enc : TypeId × Value → H} {W : World} {base : Nat} {sp : Nat → Bool} {hd : Bool}

set_option maxHeartbeats 2000000 in
theorem node_open {n : Nat} {cs : List Value} {y : DataW H × List MemPlace} (h : DataW.trod enc Tryd.prog W base sp hd n 36 cs = some y) :
    ∃ x : Tr.Nd, cs = Tr.ncells x ∧ x.kids ≤ 9223372036854775807 ∧ x.s.size ≤ maxLen ∧ x.s.size ∈ y.1.weights Tryd.prog 36 ∧ x.t.size ∈ y.1.weights Tryd.prog 36 ∧ x.u.size ∈ y.1.weights Tryd.prog 36 := by
  obtain ⟨fs, hu, hfs⟩ := fields_some ndF
  obtain ⟨xs, k, _, rfl, hlen, hxl, hf⟩ := DataW.trod_struct hu h
  rw [show Tryd.prog.cellsOf 36 = 8 by kernel_rfl] at hlen
  have c34 : Tryd.prog.cellsOf 32 = 1 := by kernel_rfl
  have c3 : Tryd.prog.cellsOf 3 = 1 := by kernel_rfl
  have c2 : Tryd.prog.cellsOf 2 = 1 := by kernel_rfl
  have c9 : Tryd.prog.cellsOf 9 = 1 := by kernel_rfl
  have cp : Tryd.prog.cellsOf 34 = 2 := by kernel_rfl
  have u34 : Tryd.prog.underlying 32 = some (.int .i8) := by kernel_rfl
  have u3 : Tryd.prog.underlying 3 = some (.int .i64) := by kernel_rfl
  have u2 : Tryd.prog.underlying 2 = some (.int .i64) := by kernel_rfl
  have u9 : Tryd.prog.underlying 9 = some .string := by kernel_rfl
  obtain ⟨fl⟩ := fs
  simp only at hfs
  match fl, hfs with
  | [f0, f1, f2, f3, f4, f5, f6], hfs =>
    simp only [List.map_cons, List.map_nil, List.cons.injEq, Prod.mk.injEq, and_true] at hfs
    obtain ⟨⟨t0, o0⟩, ⟨t1, o1⟩, ⟨t2, o2⟩, ⟨t3, o3⟩, ⟨t4, o4⟩, ⟨t5, o5⟩, ⟨t6, o6⟩⟩ := hfs
    match xs, hxl, cs, hlen with
    | [y0, y1, y2, y3, y4, y5, y6], _, [v0, v1, v2, v3, v4, v5, v6, v7], _ =>
      have g0 := hf 0 f0 rfl
      have g1 := hf 1 f1 rfl
      have g2 := hf 2 f2 rfl
      have g3 := hf 3 f3 rfl
      have g4 := hf 4 f4 rfl
      have g5 := hf 5 f5 rfl
      have g6 := hf 6 f6 rfl
      simp only [t0, o0, c34, t1, o1, c3, t2, o2, c2, t3, o3, c9, t4, o4, t5, o5, t6, o6, cp] at g0 g1 g2 g3 g4 g5 g6
      simp only [List.drop_zero, List.drop_succ_cons, List.take_succ_cons, List.take_zero, List.getElem?_cons_zero, List.getElem?_cons_succ, List.take_nil] at g0 g1 g2 g3 g4 g5 g6
      obtain ⟨i0, h0, _, _⟩ := DataW.trod_int u34 g0
      obtain ⟨i1, h1, _, w1⟩ := DataW.trod_int u3 g1
      obtain ⟨i2, h2, _, _⟩ := DataW.trod_int u2 g2
      obtain ⟨s3, h3, e3, w3⟩ := DataW.trod_string u9 g3
      obtain ⟨s4, h4, e4, w4⟩ := DataW.trod_string u9 g4
      obtain ⟨s5, h5, e5, w5⟩ := DataW.trod_string u9 g5
      obtain ⟨ps, hup, hps⟩ := fields_some plF
      obtain ⟨zs, k2, _, _, hlen2, hzl, hf2⟩ := DataW.trod_struct hup g6
      obtain ⟨pl⟩ := ps
      simp only at hps
      match pl, hps with
      | [q0, q1], hps =>
        simp only [List.map_cons, List.map_nil, List.cons.injEq, Prod.mk.injEq, and_true] at hps
        obtain ⟨⟨s0, p0⟩, ⟨s1, p1⟩⟩ := hps
        match zs, hzl with
        | [z0, z1], _ =>
          have k0 := hf2 0 q0 rfl
          have k1 := hf2 1 q1 rfl
          simp only [s0, p0, s1, p1, c3, List.drop_zero, List.drop_succ_cons, List.take_succ_cons, List.take_zero, List.getElem?_cons_zero, List.getElem?_cons_succ] at k0 k1
          obtain ⟨i6, h6, _, _⟩ := DataW.trod_int u3 k0
          obtain ⟨i7, h7, _, _⟩ := DataW.trod_int u3 k1
          cases h0; cases h1; cases h2; cases h3; cases h4; cases h5; cases h6; cases h7
          have hw : (DataW.agg (List.map (fun x => x.1) [y0, y1, y2, y3, y4, y5, y6])).weights Tryd.prog 36 = DataW.weightsEach Tryd.prog ([f0, f1, f2, f3, f4, f5, f6].map (·.type)) [y0.1, y1.1, y2.1, y3.1, y4.1, y5.1, y6.1] := by
            simp only [DataW.weights, hu]; rfl
          refine ⟨⟨i0, i1, i2, s3, s4, s5, i6, i7⟩, rfl, ?_, w3, ?_, ?_, ?_⟩
          · exact (bounds_i64 w1).2
          all_goals rw [hw]
          · exact DataW.weights_mem_each (j := 3) (t := 9) (d := y3.1) (congrArg some t3) rfl _ (by rw [e3]; exact weights_lit s3 _)
          · exact DataW.weights_mem_each (j := 4) (t := 9) (d := y4.1) (congrArg some t4) rfl _ (by rw [e4]; exact weights_lit s4 _)
          · exact DataW.weights_mem_each (j := 5) (t := 9) (d := y5.1) (congrArg some t5) rfl _ (by rw [e5]; exact weights_lit s5 _)

set_option maxHeartbeats 2000000 in
theorem nodes_open {fuel : Nat} {v : Value} {d : DataW H} {p : List MemPlace} (h : DataW.trod enc Tryd.prog W base sp hd fuel 22 [v] = some (d, p)) :
    ∃ l : List Tr.Nd, IsNodes W v l ∧ (∀ x ∈ l, x.kids ≤ 9223372036854775807 ∧ x.s.size ≤ maxLen ∧ x.s.size ∈ d.weights Tryd.prog 22 ∧ x.t.size ∈ d.weights Tryd.prog 22 ∧ x.u.size ∈ d.weights Tryd.prog 22) ∧
      (l = [] ∨ ∃ N, l.length ≤ N ∧ N * 88 ∈ d.weights Tryd.prog 22) := by
  have ce : Tryd.prog.cellsOf 36 = 8 := by kernel_rfl
  have cb : Tryd.prog.bytesOf 36 = 88 := by kernel_rfl
  rcases Go.Deep.open_slice tyNodes h with ⟨hcs, _⟩ | ⟨a, len, cap, m, n, D, Pl, hcs, hb, hl, hm, hmm, hx, hel⟩
  · cases hcs
    exact ⟨[], .inl ⟨rfl, _, _, rfl⟩, by simp, .inl rfl⟩
  · cases hcs
    have hd := (Prod.mk.inj hx).1
    subst hd
    have hlm : len ≤ m := by rw [hmm]; split <;> omega
    rw [ce] at hel
    obtain ⟨X, hX⟩ := Go.Deep.choose_lt (n := len) (α := Option Tr.Nd) (p := fun i o => ∃ x, o = some x ∧ (∀ j, j < 8 → W.cell? ((a.add (i * 8)).add j) = (Tr.ncells x)[j]?) ∧ x.kids ≤ 9223372036854775807 ∧ x.s.size ≤ maxLen ∧ x.s.size ∈ (D i).weights Tryd.prog 36 ∧ x.t.size ∈ (D i).weights Tryd.prog 36 ∧ x.u.size ∈ (D i).weights Tryd.prog 36) (fun i hi => by
      obtain ⟨cs', h1, h2⟩ := hel i (by omega)
      obtain ⟨_, hlen, hcell⟩ := World.cells?_some h1
      obtain ⟨x, rfl, r⟩ := node_open h2
      exact ⟨some x, x, rfl, hcell, r⟩)
    have hw : ∀ i, i < len → ∀ n ∈ (D i).weights Tryd.prog 36, n ∈ (DataW.slice ((List.range len).map D) ((List.range (m - len)).map fun j => D (len + j))).weights Tryd.prog 22 := by
      intro i hi n hn
      simp only [DataW.weights, tyNodes]
      refine List.mem_cons_of_mem _ (List.mem_append_left _ (weightsAll_mem (d := D i) ?_ n hn))
      exact List.mem_map.2 ⟨i, List.mem_range.2 hi, rfl⟩
    have hget : ∀ j x, ((List.range len).filterMap X)[j]? = some x → j < len ∧ X j = some x := by
      have key : ∀ N, N ≤ len → ((List.range N).filterMap X).length = N ∧ ∀ j x, ((List.range N).filterMap X)[j]? = some x → j < N ∧ X j = some x := by
        intro N
        induction N with
        | zero => intro _; exact ⟨rfl, by simp⟩
        | succ N ih =>
          intro hN
          obtain ⟨e1, e2⟩ := ih (by omega)
          obtain ⟨x, hx, _⟩ := hX N (by omega)
          rw [List.range_succ, List.filterMap_append, show [N].filterMap X = [x] by simp [hx]]
          refine ⟨by simp [e1], fun j y hy => ?_⟩
          by_cases hj : j < N
          · rw [List.getElem?_append_left (by omega)] at hy
            exact ⟨by omega, (e2 j y hy).2⟩
          · have hj2 : j = N := by
              have := (List.getElem?_eq_some_iff.1 hy).1
              simp [e1] at this; omega
            subst hj2
            rw [List.getElem?_append_right (by omega), e1] at hy
            simp at hy
            subst hy
            exact ⟨by omega, hx⟩
      exact (key len (Nat.le_refl _)).2
    have hlen : ((List.range len).filterMap X).length = len := by
      apply Nat.le_antisymm
      · have := List.length_filterMap_le X (List.range len); simpa using this
      · apply Nat.le_of_not_lt
        intro hlt
        have : ∀ N, N ≤ len → ((List.range N).filterMap X).length = N := by
          intro N
          induction N with
          | zero => intro _; rfl
          | succ N ih =>
            intro hN
            obtain ⟨x, hx, _⟩ := hX N (by omega)
            rw [List.range_succ, List.filterMap_append, show [N].filterMap X = [x] by simp [hx]]
            simp [ih (by omega)]
        have := this len (Nat.le_refl _)
        omega
    refine ⟨(List.range len).filterMap X, ?_, ?_, ?_⟩
    · by_cases h0 : len = 0
      · subst h0; exact .inl ⟨rfl, _, _, rfl⟩
      · obtain ⟨b, o, spot⟩ := a
        obtain ⟨x0, _, hc0, _⟩ := hX 0 (by omega)
        have c0 := hc0 0 (by omega)
        have hspot : spot = none := by simpa [Addr.add] using World.cell?_spot c0
        subst hspot
        refine .inr ⟨b, o, cap, by rw [hlen], by rw [hlen]; exact hl, ?_, fun j x hj i u hu => ?_⟩
        · have := World.block_lt_of_cell? W _ c0
          simpa [Addr.add] using this
        · obtain ⟨hjl, hXj⟩ := hget j x hj
          obtain ⟨x', e, hc, _⟩ := hX j hjl
          obtain rfl : x' = x := by rw [hXj] at e; exact (Option.some.inj e).symm
          have hi8 : i < 8 := by have := (List.getElem?_eq_some_iff.1 hu).1; simpa [Tr.ncells] using this
          have := hc i hi8
          rw [hu, add_plain, add_plain] at this
          exact this
    · intro x hx
      obtain ⟨j, hj⟩ := List.getElem?_of_mem hx
      obtain ⟨hjl, hXj⟩ := hget j x hj
      obtain ⟨x', e, _, r1, r2, r3, r4, r5⟩ := hX j hjl
      obtain rfl : x' = x := by rw [hXj] at e; exact (Option.some.inj e).symm
      exact ⟨r1, r2, hw j hjl _ r3, hw j hjl _ r4, hw j hjl _ r5⟩
    · refine .inr ⟨m, by rw [hlen]; exact hlm, ?_⟩
      simp only [DataW.weights, tyNodes, cb]
      refine List.mem_cons.2 (.inl ?_)
      simp; omega

theorem texts_open {fuel : Nat} {v : Value} {d : DataW H} {p : List MemPlace} (h : DataW.trod enc Tryd.prog W base sp hd fuel 23 [v] = some (d, p)) :
    ∃ l : List (List UInt8), T3.IsTexts W v l ∧ ∀ x ∈ l, x.length ≤ maxLen := by
  have ty : Tryd.prog.underlying 23 = some (.slice 9) := by kernel_rfl
  have te : Tryd.prog.underlying 9 = some .string := by kernel_rfl
  have tc : Tryd.prog.cellsOf 9 = 1 := by kernel_rfl
  rcases Go.Deep.open_strs ty te tc h with ⟨hcs, _⟩ | ⟨a, len, cap, m, Sx, hcs, _, hl, _, hmm, _, hx⟩
  · cases hcs
    exact ⟨[], .inl ⟨rfl, _, _, rfl⟩, by simp⟩
  · cases hcs
    have hlm : len ≤ m := by rw [hmm]; split <;> omega
    refine ⟨(List.range len).map fun i => (Sx i).data.toList, ?_, fun x hx' => ?_⟩
    · by_cases h0 : len = 0
      · subst h0; exact .inl ⟨rfl, _, _, rfl⟩
      · obtain ⟨b, o, spot⟩ := a
        have c0 := (hx 0 (by omega)).1
        have hspot : spot = none := by simpa [Addr.add] using World.cell?_spot c0
        subst hspot
        refine .inr ⟨b, o, cap, by simp, by simpa using hl, ?_, fun j q hq => ?_⟩
        · have := World.block_lt_of_cell? W _ c0
          simpa [Addr.add] using this
        · rw [List.getElem?_map] at hq
          have hj : j < len := by
            by_cases hj : j < len
            · exact hj
            · rw [List.getElem?_eq_none (by simp; omega)] at hq; simp at hq
          rw [List.getElem?_range hj] at hq
          simp at hq
          subst hq
          have := (hx j (by omega)).1
          rw [add_plain] at this
          rw [this]; rfl
    · obtain ⟨i, hi, rfl⟩ := List.mem_map.1 hx'
      have := (hx i (by have := List.mem_range.1 hi; omega)).2
      rw [str_len]; exact this

theorem csF : fieldsOf Tryd.prog 25 = [(22, 0), (23, 1), (23, 2)] := by kernel_rfl
set_option maxHeartbeats 1000000 in
theorem case_open {n : Nat} {cs : List Value} {y : DataW H × List MemPlace} (h : DataW.trod enc Tryd.prog W base sp hd n 25 cs = some y) (hm : ∀ n ∈ y.1.weights Tryd.prog 25, n ≤ 140737488351232) :
    ∃ vL vN vT l N Th, cs = [vL, vN, vT] ∧ IsNodes W vL l ∧ Fits l ∧ T3.IsTexts W vN N ∧ (∀ x ∈ N, x.length ≤ maxLen) ∧ T3.IsTexts W vT Th := by
  obtain ⟨fs, hu, hfs⟩ := fields_some csF
  obtain ⟨xs, k, _, rfl, hlen, hxl, hf⟩ := DataW.trod_struct hu h
  rw [show Tryd.prog.cellsOf 25 = 3 by kernel_rfl] at hlen
  have c1 : Tryd.prog.cellsOf 22 = 1 := by kernel_rfl
  have c2 : Tryd.prog.cellsOf 23 = 1 := by kernel_rfl
  obtain ⟨fl⟩ := fs
  simp only at hfs
  match fl, hfs with
  | [f0, f1, f2], hfs =>
    simp only [List.map_cons, List.map_nil, List.cons.injEq, Prod.mk.injEq, and_true] at hfs
    obtain ⟨⟨t0, o0⟩, ⟨t1, o1⟩, ⟨t2, o2⟩⟩ := hfs
    match xs, hxl, cs, hlen with
    | [y0, y1, y2], _, [v0, v1, v2], _ =>
      have g0 := hf 0 f0 rfl
      have g1 := hf 1 f1 rfl
      have g2 := hf 2 f2 rfl
      simp only [t0, o0, c1, t1, o1, c2, t2, o2] at g0 g1 g2
      simp only [List.drop_zero, List.drop_succ_cons, List.take_succ_cons, List.take_zero, List.getElem?_cons_zero, List.getElem?_cons_succ, List.take_nil] at g0 g1 g2
      have hw : (DataW.agg (List.map (fun x => x.1) [y0, y1, y2])).weights Tryd.prog 25 = DataW.weightsEach Tryd.prog ([f0, f1, f2].map (·.type)) [y0.1, y1.1, y2.1] := by
        simp only [DataW.weights, hu]; rfl
      obtain ⟨l, hl, hx, hN⟩ := nodes_open (v := v0) (d := y0.1) (p := y0.2) g0
      obtain ⟨N, hn, hns⟩ := texts_open (v := v1) (d := y1.1) (p := y1.2) g1
      obtain ⟨Th, ht, _⟩ := texts_open (v := v2) (d := y2.1) (p := y2.2) g2
      refine ⟨v0, v1, v2, l, N, Th, rfl, hl, ⟨?_, fun x h => (hx x h).1, fun x h => (hx x h).2.1⟩, hn, hns, ht⟩
      rcases hN with rfl | ⟨M, h1, h2⟩
      · simp
      · have := hm _ (by rw [hw]; exact DataW.weights_mem_each (j := 0) (t := 22) (d := y0.1) (congrArg some t0) rfl _ h2)
        omega
end
end Go.Proofs.YthdlfeejeboboaaDoor
namespace Go.Proofs.YthdlfeejeboboaaDoor
open Go.ChangeShapes Go.WideShapes Go.RowKit
set_option maxRecDepth 100000

section
variable {H : Type} {enc : TypeId × Value → H} {W : World} {base : Nat} {sp : Nat → Bool} {hd : Bool}
set_option maxHeartbeats 1000000 in
theorem case_open2 {n : Nat} {cs : List Value} {y : DataW H × List MemPlace} (h : DataW.trod enc Tryd.prog W base sp hd n 25 cs = some y) (hm : ∀ n ∈ y.1.weights Tryd.prog 25, n ≤ 140737488351232) :
    ∃ vL vN vT l N Th, cs = [vL, vN, vT] ∧ IsNodes W vL l ∧ Fits l ∧ T3.IsTexts W vN N ∧ (∀ x ∈ N, x.length ≤ maxLen) ∧ T3.IsTexts W vT Th ∧ (∀ x ∈ Th, x.length ≤ maxLen) ∧ (∀ x ∈ l, x.t.size ≤ maxLen ∧ x.u.size ≤ maxLen) := by
  obtain ⟨fs, hu, hfs⟩ := fields_some csF
  obtain ⟨xs, k, _, rfl, hlen, hxl, hf⟩ := DataW.trod_struct hu h
  rw [show Tryd.prog.cellsOf 25 = 3 by kernel_rfl] at hlen
  have c1 : Tryd.prog.cellsOf 22 = 1 := by kernel_rfl
  have c2 : Tryd.prog.cellsOf 23 = 1 := by kernel_rfl
  obtain ⟨fl⟩ := fs
  simp only at hfs
  match fl, hfs with
  | [f0, f1, f2], hfs =>
    simp only [List.map_cons, List.map_nil, List.cons.injEq, Prod.mk.injEq, and_true] at hfs
    obtain ⟨⟨t0, o0⟩, ⟨t1, o1⟩, ⟨t2, o2⟩⟩ := hfs
    match xs, hxl, cs, hlen with
    | [y0, y1, y2], _, [v0, v1, v2], _ =>
      have g0 := hf 0 f0 rfl
      have g1 := hf 1 f1 rfl
      have g2 := hf 2 f2 rfl
      simp only [t0, o0, c1, t1, o1, c2, t2, o2] at g0 g1 g2
      simp only [List.drop_zero, List.drop_succ_cons, List.take_succ_cons, List.take_zero, List.getElem?_cons_zero, List.getElem?_cons_succ, List.take_nil] at g0 g1 g2
      have hw : (DataW.agg (List.map (fun x => x.1) [y0, y1, y2])).weights Tryd.prog 25 = DataW.weightsEach Tryd.prog ([f0, f1, f2].map (·.type)) [y0.1, y1.1, y2.1] := by
        simp only [DataW.weights, hu]; rfl
      have hm0 : ∀ n ∈ y0.1.weights Tryd.prog 22, n ≤ 140737488351232 := fun n hn => hm _ (by rw [hw]; exact DataW.weights_mem_each (j := 0) (t := 22) (d := y0.1) (congrArg some t0) rfl _ hn)
      obtain ⟨l, hl, hx, hN⟩ := nodes_open (v := v0) (d := y0.1) (p := y0.2) g0
      obtain ⟨N, hn, hns⟩ := texts_open (v := v1) (d := y1.1) (p := y1.2) g1
      obtain ⟨Th, ht, hts⟩ := texts_open (v := v2) (d := y2.1) (p := y2.2) g2
      refine ⟨v0, v1, v2, l, N, Th, rfl, hl, ⟨?_, fun x h => (hx x h).1, fun x h => (hx x h).2.1⟩, hn, hns, ht, hts, fun x h => ?_⟩
      · rcases hN with rfl | ⟨M, h1, h2⟩
        · simp
        · have := hm0 _ h2
          omega
      · have h1 := hm0 _ (hx x h).2.2.2.1
        have h2 := hm0 _ (hx x h).2.2.2.2
        unfold maxLen
        omega
end
end Go.Proofs.YthdlfeejeboboaaDoor
