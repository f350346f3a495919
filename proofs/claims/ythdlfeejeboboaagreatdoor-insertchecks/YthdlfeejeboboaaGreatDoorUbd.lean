/- Insertion, plain: a tree without ?, in an environment without ?, gets no cast. Insertion, plain: what the checker's answer tells of each node. Insertion, plain: what a kid that is taken apart is made again of. Package check: part. Package check: what Expr answers. Package check: what Expr answers is one thing; works. -/
import Derived.Test.YthdlfeejeboboaaGreatDoorUav
import Derived.Test.YthdlfeejeboboaaGreatDoorUau
import Derived.Test.YthdlfeejeboboaaGreatDoorUat
import Derived.Test.YthdlfeejeboboaaGreatDoorUan
import Derived.Test.YthdlfeejeboboaaGreatDoorUaa
import Derived.Deep.OwnRows
import Derived.Test.YthdlfeejeboboaaGreatDoorUaw
import Derived.Test.YthdlfeejeboboaaGreatDoorUbc
namespace Go.Proofs.YthdlfeejeboboaaGreatDoor
set_option maxRecDepth 100000
set_option linter.unusedVariables false
set_option linter.unusedSimpArgs false
namespace In
open Ck
open T3.Tp (Ty enc cns met sta)
open Tr (T Nd nm flat flats cut32 wf)

def StE (env : Env) : Prop := ∀ n t, Ck.look env n = some t → sta t = true
theorem StE.cons {env : Env} {n : List UInt8} {t : Ty} (h : StE env) (ht : sta t = true) : StE ((n, t) :: env) := by
  intro m u hu
  rw [Ck.look] at hu
  split at hu
  · cases hu; exact ht
  · exact h m u hu
theorem asks_ok {u : Ty} : ∀ {ks : List (Nat × Ty)}, asks u ks = .ok () → ∀ k ∈ ks, cns k.2 u = true
  | [], _, k, hk => by simp at hk
  | (p, t) :: r, h, k, hk => by
    rw [asks] at h
    split at h
    · rename_i hc
      rcases List.mem_cons.1 hk with rfl | hk
      · exact hc
      · exact asks_ok h k hk
    · cases h
theorem others_ok {A : Ty} {kid : Nat} : ∀ {ks : List (Nat × Ty)} {j : Nat}, others A kid j ks = .ok () → ∀ m k, ks[m]? = some k → j + m ≠ kid → cns k.2 A = true
  | [], j, _, m, k, hk, _ => by simp at hk
  | (p, t) :: r, j, h, m, k, hk, hne => by
    rw [others] at h
    cases m with
    | zero =>
      simp at hk
      subst hk
      rw [if_neg (by omega)] at h
      split at h
      · rename_i hc; exact hc
      · cases h
    | succ m =>
      have h' : others A kid (j + 1) r = .ok () := by
        split at h
        · exact h
        · split at h
          · exact h
          · cases h
      exact others_ok h' m k (by simpa using hk) (by omega)
theorem made_is {i : Nat} {t u : Ty} (h : made i t = .ok u) : u = t := by
  unfold made at h
  split at h
  · cases h; rfl
  · cases h
theorem plcs_cons (t : T) (r : List T) (i : Nat) : plcs (t :: r) i = i :: plcs r (i + (flat t).length) := by
  unfold plcs
  rw [List.length_cons, List.range_succ_eq_map, List.map_cons, List.map_map]
  congr 1
  simp [flats]
  intro k _
  omega
theorem head_of {a : List Ty} {ts : List Ty} {i : Nat} (hne : 0 < a.length) (h : ∀ (j : Nat) u, a[j]? = some u → ts[i + j]? = some u) : a.headD .tq = ts.getD i .tq := by
  cases a with
  | nil => simp at hne
  | cons u r =>
    have := h 0 u rfl
    rw [Nat.add_zero] at this
    rw [List.getD_eq_getElem?_getD, this]
    rfl
end In
end Go.Proofs.YthdlfeejeboboaaGreatDoor
namespace Go.Proofs.YthdlfeejeboboaaGreatDoor
set_option maxRecDepth 100000
set_option linter.unusedVariables false
set_option linter.unusedSimpArgs false
namespace In
open Ck
open T3.Tp (Ty enc cns met sta)
open Tr (T Nd nm flat flats cut32 wf)

structure GdN (x : Nd) (τ : Ty) (tk : List Ty) : Prop where
  kids : x.kids = (tk.length : Int)
  list : x.kind = 21 → ∃ a, τ = .tl a
  used : ∀ u, useT x.kind = some u → ∃ t p, tk[u.1]? = some t ∧ mt t u.2.1 = some p
mutual
def Gd (ts : List Ty) : T → Nat → Prop
  | .nd x ks, i => (∃ τ, ts[i]? = some τ ∧ GdN x τ ((plcs ks (i + 1)).map fun p => ts.getD p .tq)) ∧ GdL ts ks (i + 1)
def GdL (ts : List Ty) : List T → Nat → Prop
  | [], _ => True
  | t :: r, i => Gd ts t i ∧ GdL ts r (i + (flat t).length)
end
theorem rule_gd {env : Env} {x : Nd} {κ i : Nat} {ks : List (Nat × Ty)} {τ : Ty} (hN : Nod x κ) (hlen : x.kids = (ks.length : Int)) (h : Ck.rule env x i ks = .ok τ) : GdN x τ (ks.map Prod.snd) := by
  refine ⟨by simpa using hlen, fun h21 => ?_, fun u hu => ?_⟩
  · unfold Ck.rule at h
    simp only [h21, Int.reduceEq, if_false, if_true, or_self] at h
    split at h
    · cases h
    · rename_i t _
      exact ⟨t, made_is h⟩
  · have hk : x.kind = 7 ∨ x.kind = 19 ∨ x.kind = 20 ∨ x.kind = 22 ∨ x.kind = 23 ∨ x.kind = 24 ∨ x.kind = 25 ∨ x.kind = 27 ∨ x.kind = 28 := by
      unfold useT at hu
      apply Classical.byContradiction
      intro hn
      simp only [not_or] at hn
      obtain ⟨a1, a2, a3, a4, a5, a6, a7, a8, a9⟩ := hn
      rw [if_neg a1, if_neg a2, if_neg a3, if_neg a4, if_neg a5, if_neg a6, if_neg a7, if_neg a8, if_neg a9] at hu
      cases hu
    unfold Ck.rule at h
    rw [if_neg (by omega), if_neg (by omega), if_neg (by omega), if_neg (by omega), if_neg (by omega), if_neg (by omega), if_neg (by omega), if_neg (by omega), hu] at h
    simp only at h
    unfold use at h
    cases hq : ks[u.1]? with
    | none => rw [hq] at h; cases h
    | some k =>
      obtain ⟨p, t⟩ := k
      rw [hq] at h
      simp only at h
      cases hm : Ck.mt t u.2.1 with
      | none => rw [hm] at h; cases h
      | some q => exact ⟨t, q, by rw [List.getElem?_map, hq]; rfl, hm⟩
mutual
theorem gd_T (ts : List Ty) : ∀ (t : T) (env : Env) (i : Nat) (a : List Ty), wf t → (∀ x ∈ flat t, Tr.mayB x = true) → ckT env t i = .ok a → (∀ (j : Nat) u, a[j]? = some u → ts[i + j]? = some u) → Gd ts t i
  | .nd x ks, env, i, a, hw, hm, h, hts => by
    obtain ⟨κ, hN⟩ := nod_of (hm x (by simp [flat]))
    have hwf := hw
    rw [Tr.wf] at hwf
    rw [ckT] at h
    split at h
    · cases h
    cases hL : ckL env x 0 ks (i + 1) with
    | error e => rw [hL] at h; cases h
    | ok rs =>
      rw [hL] at h
      simp only at h
      cases hr : Ck.rule env x i (rs.map fun r => (r.1, r.2.headD .tq)) with
      | error e => rw [hr] at h; cases h
      | ok τ =>
        rw [hr] at h
        simp only at h
        cases h
        have hts0 : ts[i]? = some τ := by have := hts 0 τ rfl; rwa [Nat.add_zero] at this
        have hts1 : ∀ (q : Nat) u, (rs.map Prod.snd).flatten[q]? = some u → ts[i + 1 + q]? = some u := fun q u hq => by
          have := hts (q + 1) u (by simpa using hq)
          rwa [show i + (q + 1) = i + 1 + q by omega] at this
        obtain ⟨h1, h4, h5⟩ := gd_L ts ks env x 0 (i + 1) rs hwf.2 (fun y hy => hm y (by simp [flat, hy])) hL hts1
        have e : (rs.map fun r => (r.1, r.2.headD .tq)).map Prod.snd = (plcs ks (i + 1)).map fun p => ts.getD p .tq := by
          rw [List.map_map, ← h4]; rfl
        have g := rule_gd hN (by rw [List.length_map, h5]; exact hwf.1) hr
        rw [e] at g
        rw [Gd]
        exact ⟨⟨τ, hts0, g⟩, h1⟩
theorem gd_L (ts : List Ty) : ∀ (ks : List T) (env : Env) (x : Nd) (j : Nat) (i : Nat) (rs : List (Nat × List Ty)), Tr.wfs ks → (∀ y ∈ flats ks, Tr.mayB y = true) → ckL env x j ks i = .ok rs → (∀ (q : Nat) u, (rs.map Prod.snd).flatten[q]? = some u → ts[i + q]? = some u) →
    GdL ts ks i ∧ rs.map (fun r => r.2.headD .tq) = (plcs ks i).map (fun p => ts.getD p .tq) ∧ rs.length = ks.length
  | [], env, x, j, i, rs, hw, hm, h, hts => by
    rw [ckL] at h
    cases h
    exact ⟨by rw [GdL]; trivial, by simp [plcs], rfl⟩
  | t :: r, env, x, j, i, rs, hw, hm, h, hts => by
    rw [Tr.wfs] at hw
    rw [ckL] at h
    cases hT : ckT (Ck.inner x j env) t i with
    | error e => rw [hT] at h; cases h
    | ok a =>
      rw [hT] at h
      simp only at h
      cases hL : ckL env x (j + 1) r (i + (flat t).length) with
      | error e => rw [hL] at h; cases h
      | ok b =>
        rw [hL] at h
        simp only at h
        cases h
        have hal : a.length = (flat t).length := Ck.len_T t _ _ a hT
        have hpos := Tr.flat_pos t
        have hta : ∀ (q : Nat) u, a[q]? = some u → ts[i + q]? = some u := fun q u hq => hts q u (by
          simp only [List.map_cons, List.flatten_cons]
          rw [List.getElem?_append_left (List.getElem?_eq_some_iff.1 hq).1]; exact hq)
        have htb : ∀ (q : Nat) u, (b.map Prod.snd).flatten[q]? = some u → ts[i + (flat t).length + q]? = some u := fun q u hq => by
          have := hts (a.length + q) u (by
            simp only [List.map_cons, List.flatten_cons]
            rw [List.getElem?_append_right (by omega), show a.length + q - a.length = q by omega]; exact hq)
          rwa [hal, ← Nat.add_assoc] at this
        have g0 := gd_T ts t (Ck.inner x j env) i a hw.1 (fun y hy => hm y (by simp [flats, hy])) hT hta
        obtain ⟨g1, g4, g5⟩ := gd_L ts r env x (j + 1) (i + (flat t).length) b hw.2 (fun y hy => hm y (by simp [flats, hy])) hL htb
        have hh := head_of (by omega) hta
        rw [GdL]
        exact ⟨⟨g0, g1⟩, by rw [plcs_cons, List.map_cons, List.map_cons, g4, ← hh], by simp [g5]⟩
end
end In
end Go.Proofs.YthdlfeejeboboaaGreatDoor
namespace Go.Proofs.YthdlfeejeboboaaGreatDoor
set_option maxRecDepth 100000
set_option linter.unusedVariables false
namespace In
open Ck
open T3.Tp (Ty enc cns met sta)

theorem open_parts {t : Ty} {h : UInt8} {p : Ty × Ty} (hh : h = 62 ∨ h = 44 ∨ h = 108 ∨ h = 120) (hm : Ck.mt t h = some p) (h64 : (enc t).length ≤ 64) :
    T3.Tp.mkF h (T3.mtL t (h.toNat : Int)) = (0, enc (opn h t)) ∧ (enc (opn h t)).length ≤ 64 ∧ ∃ r, T3.mtL t (h.toNat : Int) = enc (par0 h t) :: r := by
  have key : T3.Tp.hd t = h → opn h t = t → (∃ r, (T3.Tp.kids t).map enc = enc (par0 h t) :: r) → T3.Tp.mkF h (T3.mtL t (h.toNat : Int)) = (0, enc (opn h t)) ∧ (enc (opn h t)).length ≤ 64 ∧ ∃ r, T3.mtL t (h.toNat : Int) = enc (par0 h t) :: r := by
    intro e1 e2 e3
    obtain ⟨m1, m2⟩ := T3.mt_same (t := t) (h := (h.toNat : Int)) (by rw [e1])
    rw [m1, e2, ← e1]
    refine ⟨T3.Tp.mk_parts t h64, h64, ?_⟩
    rw [e1]; exact e3
  cases t with
  | ti | tb | tt => simp [Ck.mt] at hm
  | tq =>
    rcases hh with rfl | rfl | rfl | rfl
    · exact ⟨by decide, by decide, [[63]], by decide⟩
    · exact ⟨by decide, by decide, [[63]], by decide⟩
    · exact ⟨by decide, by decide, [], by decide⟩
    · exact ⟨by decide, by decide, [], by decide⟩
  | tf a b | tp a b =>
    simp only [Ck.mt] at hm
    split at hm
    · rename_i e
      subst e
      exact key rfl rfl ⟨[enc b], rfl⟩
    · cases hm
  | tl a | tx a =>
    simp only [Ck.mt] at hm
    split at hm
    · rename_i e
      subst e
      exact key rfl rfl ⟨[], rfl⟩
    · cases hm
end In
end Go.Proofs.YthdlfeejeboboaaGreatDoor
namespace Go.Proofs.YthdlfeejeboboaaGreatDoor
open Go.RowKit Ck
open T3.Tp (Ty enc cns met)
open Tr (flat flats)
set_option maxRecDepth 100000
set_option linter.unusedSimpArgs false

theorem St.bump {B : Nat} {w w1 : World} {cb tb i : Nat} {nv : Value} {l : List Tr.Nd} {o : Obj} (h : St B w cb tb nv l i) (hw : w1 = (w.alloc o).setCell ⟨cb, 2, none⟩ (.int .i64 ((i : Int) + 1))) : St B w1 cb tb nv l (i + 1) ∧ Two cb tb w w1 ∧ (∀ k, w1.cell? ⟨tb, k, none⟩ = w.cell? ⟨tb, k, none⟩) ∧ w1.heap.size = w.heap.size + 1 ∧ (∀ k, k ≠ cb → w1.heap[k]? = (w.alloc o).heap[k]?) := by
  have hl := h.lt
  have hA : Below w.heap.size w (w.alloc o) := (Below.refl _ _).alloc (Nat.le_refl _) o
  have hne : ∀ k, k ≠ cb → w1.heap[k]? = (w.alloc o).heap[k]? := fun k hk => by rw [hw]; exact Below.heap_setCell _ _ _ _ hk
  have hb : ∀ k, k ≠ cb → k < w.heap.size → w1.heap[k]? = w.heap[k]? := fun k hk hk2 => (hne k hk).trans (hA.block k hk2)
  have hz : w1.heap.size = w.heap.size + 1 := by rw [hw]; simp [World.setCell]
  have hc0 : ∀ q, (w.alloc o).cell? ⟨cb, q, none⟩ = w.cell? ⟨cb, q, none⟩ := fun q => hA.cell (p := ⟨cb, q, none⟩) (by show cb < _; omega)
  have hcq : ∀ q, q ≠ 2 → w1.cell? ⟨cb, q, none⟩ = w.cell? ⟨cb, q, none⟩ := fun q hq => by rw [hw]; exact (World.cell?_setCell_other (w := w.alloc o) (a := ⟨cb, 2, none⟩) (b := ⟨cb, q, none⟩) (v := .int .i64 ((i : Int) + 1)) (fun e => hq (by cases e; rfl))).trans (hc0 q)
  have hc2 : w1.cell? ⟨cb, 2, none⟩ = some (.int .i64 ((i : Int) + 1)) := by rw [hw]; exact World.cell?_setCell_same (w := w.alloc o) (a := ⟨cb, 2, none⟩) (v := .int .i64 ((i : Int) + 1)) ((hc0 2).trans h.nxt)
  have hcz : ∀ q, w1.frozen? ⟨cb, q, none⟩ = false := fun q => by
    have e : (w.alloc o).frozen? ⟨cb, q, none⟩ = w.frozen? ⟨cb, q, none⟩ := by unfold World.frozen?; rw [hA.block _ (by show cb < _; omega)]
    rw [hw, ← h.cz q, ← e]; simp [go_sem]
  have htb : ∀ q, w1.cell? ⟨tb, q, none⟩ = w.cell? ⟨tb, q, none⟩ := fun q => World.cell?_of_block (hb tb (Ne.symm h.ne) (by omega))
  have h2 : Two cb tb w w1 := ⟨by rw [hw]; rfl, by rw [hw]; rfl, by rw [hw]; rfl, by omega, fun k hk a _ => hb k a hk⟩
  refine ⟨⟨⟨(hcq 0 (by decide)).trans h.nod.1, ?_⟩, (hcq 1 (by decide)).trans h.typ, by rw [hc2]; rfl, hcz, fun q => ?_, fun j hj => ?_, h.off, h.ne, h.g.two h2 h.gl.1 h.gl.2, h.gl, by omega, h.rwo.same (hb tb (Ne.symm h.ne) (by omega))⟩, h2, htb, hz, hne⟩
  · rcases h.nod.2 with ⟨h1, h2'⟩ | ⟨b, o', c, h1, h2', h3, h4⟩
    · exact .inl ⟨h1, h2'⟩
    · obtain ⟨hb1, hb2, _⟩ := h.off b o' _ c h1
      exact .inr ⟨b, o', c, h1, h2', by omega, fun j x hx m u hu => (h2.cell (p := ⟨b, o' + j * 8 + m, none⟩) h3 hb1 hb2).trans (h4 j x hx m u hu)⟩
  · rw [← h.tz q]; unfold World.frozen?; rw [hb tb (Ne.symm h.ne) (by omega)]
  · obtain ⟨s, hs⟩ := h.str j hj; exact ⟨s, (htb j).trans hs⟩

theorem Two.res {a b : Nat} {w W : World} (h : Two a b w W) (p q : Value) : Two a b w ((W.setCell ⟨w.heap.size, 0, none⟩ p).setCell ⟨w.heap.size, 1, none⟩ q) :=
  ⟨h.os, h.tape, h.output, by simpa [World.setCell] using h.size, fun k hk ha hb => by rw [Below.heap_setCell _ _ _ _ (by show k ≠ w.heap.size; omega), Below.heap_setCell _ _ _ _ (by show k ≠ w.heap.size; omega)]; exact h.block k hk ha hb⟩
theorem made_cell (m q : Nat) (h : q < m) : (madeCells #[.int .i64 0] m)[q]? = some (.int .i64 0) := by simp [madeCells, h, Nat.mod_one]

def finR (R : Rs Ty) (L : List Ty) : Rs (List Ty) := match R with | .error e => .error e | .ok t => .ok (t :: L)
theorem Lp.fin {B : Nat} {w w1 w2 w5 : World} {cb tb K i κ p m : Nat} {nv sv iv : Value} {l : List Tr.Nd} {x : Tr.Nd} {rs : List (Nat × List Ty)} (h : Lp B w w1 w2 w5 cb tb K i κ p m nv sv iv l x rs) (hil : i < l.length) {R : Rs Ty} {s : ByteArray} {c q : Int} (hA : Ans R (.returned (.tuple #[.string s, .agg #[.int .i64 c, .int .i64 q]]))) (h64 : ∀ t, R = .ok t → (enc t).length ≤ 64) (o : Obj) :
    PEnd B w cb tb nv l i (finR R (rs.map Prod.snd).flatten) (.returned (.agg #[.int .i64 c, .int .i64 q])) ((((w5.setCell ⟨tb, i, none⟩ (.string s)).setCell ⟨w.heap.size, 0, none⟩ (.int .i64 c)).setCell ⟨w.heap.size, 1, none⟩ (.int .i64 q)).alloc o) := by
  have hl := h.lt
  have hs := h.st.lt
  have hT : Two cb tb w (w5.setCell ⟨tb, i, none⟩ (.string s)) := h.two.setB _ _
  have hT2 : Two cb tb w ((((w5.setCell ⟨tb, i, none⟩ (.string s)).setCell ⟨w.heap.size, 0, none⟩ (.int .i64 c)).setCell ⟨w.heap.size, 1, none⟩ (.int .i64 q)).alloc o) := (hT.res _ _).below ((Below.refl _ _).alloc (Nat.le_refl _) o)
  refine ⟨hT2, ?_⟩
  cases R with
  | error e =>
    obtain ⟨he, s', hs'⟩ := hA
    simp [rf] at hs'
    obtain ⟨-, rfl, rfl⟩ := hs'
    exact ⟨he, rfl⟩
  | ok t =>
    obtain ⟨p', hp'⟩ := hA
    simp [rf] at hp'
    obtain ⟨rfl, rfl, rfl⟩ := hp'
    obtain ⟨s0, hs0⟩ := h.st.str i hil
    have hci : (w5.setCell ⟨tb, i, none⟩ (.string (S (enc t)))).cell? ⟨tb, i, none⟩ = some (.string (S (enc t))) := World.cell?_setCell_same (w := w5) (a := ⟨tb, i, none⟩) (v := .string (S (enc t))) hs0
    have hco : ∀ k, k ≠ i → (w5.setCell ⟨tb, i, none⟩ (.string (S (enc t)))).cell? ⟨tb, k, none⟩ = w5.cell? ⟨tb, k, none⟩ := fun k hk => World.cell?_setCell_other (w := w5) (a := ⟨tb, i, none⟩) (b := ⟨tb, k, none⟩) (v := .string (S (enc t))) (fun e => hk (by cases e; rfl))
    have hKt : Kt w5 (w5.setCell ⟨tb, i, none⟩ (.string (S (enc t)))) cb tb i 5 t := ⟨(Two.refl cb tb w5).setB _ _, Below.heap_setCell _ _ _ _ h.st.ne, fun _ => hci, fun h' => absurd (.inl rfl) h', hco, fun z => by simp [go_sem], fun n hn => hn.set _ _⟩
    have hSA := (h.st.kt hKt).keep (two_set2 _ w.heap.size (.int .i64 0) (.int .i64 q)) hl.1 hl.1
    have hSF := hSA.below ((Below.refl _ _).alloc (Nat.le_refl _) o)
    have hcell : ∀ k, ((((w5.setCell ⟨tb, i, none⟩ (.string (S (enc t)))).setCell ⟨w.heap.size, 0, none⟩ (.int .i64 0)).setCell ⟨w.heap.size, 1, none⟩ (.int .i64 q)).alloc o).cell? ⟨tb, k, none⟩ = (w5.setCell ⟨tb, i, none⟩ (.string (S (enc t)))).cell? ⟨tb, k, none⟩ := fun k => by
      have hz : (((w5.setCell ⟨tb, i, none⟩ (.string (S (enc t)))).setCell ⟨w.heap.size, 0, none⟩ (.int .i64 0)).setCell ⟨w.heap.size, 1, none⟩ (.int .i64 q)).heap.size = w5.heap.size := by simp [World.setCell]
      refine (World.cell?_of_block (Below.heap_alloc _ _ _ (by show tb < _; omega))).trans (cell_set2 (by omega))
    have hpos := h.pos
    refine ⟨⟨_, rfl⟩, by rw [show i + (t :: (rs.map Prod.snd).flatten).length = p by rw [List.length_cons]; omega]; exact hSF, fun k u hu => ?_, fun k hk => ?_⟩
    · cases k with
      | zero => simp at hu; subst hu; exact ⟨(hcell i).trans hci, h64 _ rfl⟩
      | succ k =>
        simp only [List.getElem?_cons_succ] at hu
        have := h.tys k u hu
        rw [show i + (k + 1) = i + 1 + k by omega]
        exact ⟨(hcell _).trans ((hco _ (by omega)).trans this.1), this.2⟩
    · have hk' : k < i ∨ p ≤ k := by rcases hk with h1 | h1; exact .inl h1; exact .inr (by rw [List.length_cons] at h1; omega)
      exact (hcell k).trans ((hco k (by rcases hk' with h1 | h1 <;> omega)).trans (h.els k hk'))

set_option maxHeartbeats 8000000 in
theorem ckPart_any (B cb tb : Nat) (nv : Value) (l : List Tr.Nd) (hmay : ∀ x ∈ l, Tr.mayB x = true) (hss : ∀ x ∈ l, x.s.size ≤ maxLen) (hl4 : l.length ≤ 4096) : ∀ (N : Nat) (t : Tr.T) (i : Nat) (rest : List Tr.Nd) (env : Env) (w : World) (sv : Value), (flat t).length ≤ N → Tr.wf t → l.drop i = flat t ++ rest → EnvOk env → St B w cb tb nv l i → Scope cb tb w sv env →
    Calls Tryz.prog 51 #[.pointer (some ⟨cb, 0, none⟩), sv] w (PEnd B w cb tb nv l i (ckT env t i))
  | 0, .nd x ks, _, _, _, _, _, hN, _, _, _, _, _ => by simp [flat] at hN
  | N + 1, .nd x ks, i, rest, env, w, sv, hN, hw, hd, hE, hSt, hS => by
    have hx : l[i]? = some x := by
      have h := congrArg (fun m => m[0]?) hd
      simp only [List.getElem?_drop, flat, List.cons_append, Nat.add_zero, List.getElem?_cons_zero] at h
      exact h
    have hd1 : l.drop (i + 1) = flats ks ++ rest := by
      have h := congrArg (List.drop 1) hd
      rw [List.drop_drop] at h
      simpa [flat] using h
    have hil : i < l.length := (List.getElem?_eq_some_iff.1 hx).1
    have hxm : x ∈ l := List.mem_of_getElem? hx
    obtain ⟨κ, hN0⟩ := nod_of (hmay x hxm)
    have hlt := hSt.lt
    have hkl : ks.length ≤ 4096 := by
      have e1 := congrArg List.length hd1
      have e2 : ks.length ≤ (flats ks).length := by
        clear hN hw hd hd1 e1
        induction ks with
        | nil => simp
        | cons a r ih => simp only [flats, List.length_append, List.length_cons]; have := Tr.flat_pos a; omega
      simp at e1; omega
    have hi64 : (i : Int) < 4096 := by omega
    obtain ⟨w1, hw1⟩ : ∃ w1, w1 = (w.alloc (.cells #[.int .i64 0, .int .i64 0] 98)).setCell ⟨cb, 2, none⟩ (.int .i64 ((i : Int) + 1)) := ⟨_, rfl⟩
    obtain ⟨hSt1, hT1, htb1, hz1, hne1⟩ := hSt.bump hw1
    have hKO := kidOf_any B w1 cb tb i (i + 1) κ nv sv l x env hN0 hx hSt1 (hS.next hT1) (hss x hxm)
    have hA : ∀ o, Below w.heap.size w (w.alloc o) := fun o => (Below.refl _ _).alloc (Nat.le_refl _) o
    have e2 : ∀ o, (w.alloc o).cell? ⟨cb, 2, none⟩ = some (.int .i64 (i : Int)) := fun o => ((hA o).cell (p := ⟨cb, 2, none⟩) (by show cb < _; omega)).trans hSt.nxt
    have ez : ∀ o q, (w.alloc o).frozen? ⟨cb, q, none⟩ = false := fun o q => by rw [← hSt.cz q]; unfold World.frozen?; rw [(hA o).block _ (by show cb < _; omega)]
    obtain ⟨Q, hQ⟩ : ∃ Q, Q = PEnd B w cb tb nv l i (ckT env (.nd x ks) i) := ⟨_, rfl⟩
    rw [← hQ]
    have HQ : Aside _ := hQ
    have hres1 : w1.heap[w.heap.size]? = some (.cells #[.int .i64 0, .int .i64 0] 98) := (hne1 _ (by omega)).trans (heap_alloc_new _ _)
    clear hQ hA
    go_enter Tryz.func51, Tryz.ntmps51
    go_upto_region 3 with fail
    rw [← hw1]
    clear hw1 e2 ez
    have hNk : x.kids = (ks.length : Int) := hw.1
    have IH := fun (t' : Tr.T) (i' : Nat) (rest' : List Tr.Nd) (env' : Env) (w' : World) (sv' : Value) (h : (flat t').length ≤ N) => ckPart_any B cb tb nv l hmay hss hl4 N t' i' rest' env' w' sv' h
    have HIH : Aside _ := IH
    clear IH
    go_wp2_with fail
    refine hKO.mono ?_
    rintro e w2 (⟨hah, rfl, hB2⟩ | ⟨hah, iv, rfl, hKb, hSi, hKt⟩)
    · have k1 := (hB2.block w.heap.size (by omega)).trans hres1
      have m0 : w2.cell? ⟨w.heap.size, 0, none⟩ = some (.int .i64 0) := (block_cells k1).1 0
      have m1 : w2.cell? ⟨w.heap.size, 1, none⟩ = some (.int .i64 0) := (block_cells k1).1 1
      have mz := (block_cells k1).2
      have HF : Aside (∀ p q, Q (.returned (.agg #[.int .i64 21, .int .i64 (i : Int)])) ((w2.setCell ⟨w.heap.size, 0, none⟩ p).setCell ⟨w.heap.size, 1, none⟩ q)) := fun p q => by
        rw [HQ.out]
        have he : ckT env (.nd x ks) i = .error (21, i) := by simp [ckT, hah]
        rw [he]
        exact ⟨(hT1.below hB2).res p q, by simp, rfl⟩
      clear hKO HQ HIH k1 hB2 hres1
      go_wp2_with fail
      try simp only [Exit.inBlock, Exit.then]
      refine bodyPost_ret (v := .agg #[.int .i64 21, .int .i64 i]) (by simp [results, Tryz.results51, go_sem, m0, m1]) rfl ?_
      exact HF.out _ _
    · have hSt2 := hSt1.kt hKt
      have hl2 := hSt2.lt
      have hzb := hKb.size
      obtain ⟨nb, no, nc, hnv, hnb, hnd⟩ := hSt2.nod.at hx
      have n0 : w2.cell? ⟨cb, 0, none⟩ = some (.slice (some ⟨nb, no, none⟩) l.length nc) := by rw [← hnv]; exact hSt2.nod.1
      have kidc : w2.cell? ⟨nb, no + i * 8 + 1, none⟩ = some (.int .i64 (ks.length : Int)) := by rw [← hNk]; exact hnd 1 _ rfl
      have hil' : (i : Int) < (l.length : Int) := by omega
      have hmk := run_make_row' (P := Tryz.prog) 113 3 (.int .i64 0) 8 tyInts info3 rfl .i64 .i64 ks.length (by omega) (by omega)
      obtain ⟨w3, hw3⟩ : ∃ w3, w3 = w2.alloc (.cells (madeCells #[.int .i64 0] ks.length) 3) := ⟨_, rfl⟩
      have hB3 : Below w2.heap.size w2 w3 := by rw [hw3]; exact (Below.refl _ _).alloc (Nat.le_refl _) _
      have hz3 : w3.heap.size = w2.heap.size + 1 := by rw [hw3]; simp
      have b3 : w3.heap[w2.heap.size]? = some (.cells (madeCells #[.int .i64 0] ks.length) 3) := by rw [hw3]; exact heap_alloc_new _ _
      have hLp0 : Lp B w w1 w2 w3 cb tb w2.heap.size i κ (i + 1) ks.length nv sv iv l x [] := by
        have hT3 : ∀ o, w3.cell? ⟨tb, o, none⟩ = w2.cell? ⟨tb, o, none⟩ := fun o => hB3.cell (p := ⟨tb, o, none⟩) (by show tb < _; omega)
        refine ⟨hSt2.below hB3, (hT1.trans hKt.two).below hB3, below_two hB3 cb tb, hKb.later hB3, (hB3.block _ (by omega)).trans ((hKt.two.block _ (by omega) (by omega) (by omega)).trans hres1), fun q hq => ⟨0, by rw [(block_cells b3).1 q]; exact made_cell _ q hq⟩, (block_cells b3).2, fun q r hr => by simp at hr, fun q t ht => by simp at ht, by simp, fun h => (hT3 i).trans (hKt.ty h), fun k hk => ?_, by omega⟩
        exact (hT3 k).trans ((hKt.else' k (by omega)).trans (htb1 k))
      have HSI : Aside (Scope cb tb w2 iv (Ck.inner x 1 env)) := hSi
      have HSV : Aside (Scope cb tb w sv env) := hS
      have HNO : Aside (Nod x κ) := hN0
      go_wp2_with fail
      rw [← hw3]
      clear hw3 hB3 b3 hnd hSt1 hSt2 hSt hKO hKt hKb hSi hS n0 kidc hmk hnb hres1 htb1 hne1 hT1 hN0
      go_loopg [47] ks.length (fun g tt wv => ∃ (j p : Nat) (rs : List (Nat × List Ty)), j + g = ks.length ∧ tt = .int .i64 (j : Int) ∧ Lp B w w1 w2 wv cb tb w2.heap.size i κ p ks.length nv sv iv l x rs ∧ rs.length = j ∧ Aside (ckL env x 0 ks (i + 1) = addR rs (ckL env x j (ks.drop j) p)) ∧ Aside (l.drop p = flats (ks.drop j) ++ rest))
      case atStart => exact ⟨0, i + 1, [], by omega, rfl, hLp0, rfl, (by show _ = _; rw [addR_nil]; rfl), hd1⟩
      case round =>
        obtain ⟨j, p, rs, hjg, rfl, hLp, hrj, HR, HD⟩ := hrel
        have hlp := hLp.lt
        have hstl := hLp.st.lt
        by_cases hj : j < ks.length
        · have hj' : (j : Int) < (ks.length : Int) := by omega
          obtain ⟨tj, htj⟩ : ∃ tj, ks[j]? = some tj := ⟨_, List.getElem?_eq_getElem hj⟩
          have hdj : ks.drop j = tj :: ks.drop (j + 1) := by
            rw [List.drop_eq_getElem_cons hj, (List.getElem?_eq_some_iff.1 htj).2]
          have hwj : Tr.wf tj := by
            have h := hw.2
            rw [← List.take_append_drop j ks, hdj] at h
            exact ((Tr.wfs_append _ _).1 h).2.1
          have hDj := HD.out
          rw [hdj] at hDj
          simp only [flats, List.append_assoc] at hDj
          have hp : p < l.length := by
            have e := congrArg List.length hDj
            have := Tr.flat_pos tj
            simp at e; omega
          have hlenj : (flat tj).length ≤ N := by
            have e : (flats ks).length = (flats (ks.take j)).length + ((flat tj).length + (flats (ks.drop (j + 1))).length) := by
              conv => lhs; rw [← List.take_append_drop j ks, hdj, Tr.flats_append]
              simp [flats]
            simp [flat] at hN; omega
          obtain ⟨w4, hw4⟩ : ∃ w4, w4 = wr.setCell ⟨w2.heap.size, j, none⟩ (.int .i64 (p : Int)) := ⟨_, rfl⟩
          obtain ⟨hL4, hK4⟩ := hLp.put (w3 := w4) (by omega) (by rw [hrj]; exact hw4)
          rw [hrj] at hK4
          obtain ⟨b0, b1, b2, -, -, -, b6, -⟩ := hL4.kb.cells
          have hl4' := hL4.lt
          obtain ⟨pv, hpv, hP⟩ : ∃ pv, ((x.kind = 8 ∧ j = 0 ∧ pv = sv) ∨ (¬ (x.kind = 8 ∧ j = 0) ∧ pv = iv)) ∧ ∀ w', Below w4.heap.size w4 w' → Calls Tryz.prog 51 #[.pointer (some ⟨cb, 0, none⟩), pv] w' (PEnd B w' cb tb nv l p (ckT (Ck.inner x j env) tj p)) := by
            by_cases h80 : x.kind = 8 ∧ j = 0
            · refine ⟨sv, .inl ⟨h80.1, h80.2, rfl⟩, fun w' hB => HIH.out tj p _ _ w' sv hlenj hwj hDj (inner_ok HNO.out hE hah j) (hL4.st.below hB) ?_⟩
              have e : Ck.inner x j env = env := by unfold Ck.inner; rw [if_neg (by rw [h80.1]; decide), if_neg (by rw [h80.1]; decide), if_neg (by rw [h80.2]; simp)]
              rw [e]
              exact HSV.out.next (hL4.two.below hB)
            · refine ⟨iv, .inr ⟨h80, rfl⟩, fun w' hB => HIH.out tj p _ _ w' iv hlenj hwj hDj (inner_ok HNO.out hE hah j) (hL4.st.below hB) ?_⟩
              have e : Ck.inner x j env = Ck.inner x 1 env := by
                unfold Ck.inner
                by_cases h8 : x.kind = 8
                · have hj1 : j = 1 := by
                    have hk2 : (ks.length : Int) = 2 := by
                      have h1 := HNO.out.kids (by have := HNO.out.kind; omega)
                      have h2 : κ = 8 := by have := HNO.out.kind; omega
                      subst h2
                      exact hNk.symm.trans h1
                    have : j ≠ 0 := fun h => h80 ⟨h8, h⟩
                    omega
                  rw [hj1]
                · simp [h8]
              rw [e]
              exact HSI.out.next (hL4.two2.below hB)
          have HC := kid1_any B w4 cb tb p (w1.heap.size + 2) w1.heap.size (w1.heap.size + 1) (w1.heap.size + 3) j nv sv iv pv l x.kind (ckT (Ck.inner x j env) tj p) b2 b0 b1 b6 (by omega) hpv hP
          rw [hz1] at HC
          have c2 : wr.cell? ⟨cb, 2, none⟩ = some (.int .i64 (p : Int)) := hLp.st.nxt
          obtain ⟨u0, hu0⟩ := hLp.row j hj
          have uz := hLp.rz
          have HR2 := HR.out
          rw [hdj] at HR2
          clear hP hpv b0 b1 b2 b6
          cases hr : ckT (Ck.inner x j env) tj p with
          | ok a =>
            rw [addR_ok hr] at HR2
            have hlen := len_T _ _ _ _ hr
            obtain ⟨a0, a', rfl⟩ := ckT_pos hr
            rw [hr] at HC
            have HR3 : Aside _ := HR2
            have HLN : Aside (∀ e w5, PEnd B w4 cb tb nv l p (.ok (a0 :: a')) e w5 → Lp B w w1 w2 w5 cb tb w2.heap.size i κ (p + (a0 :: a').length) ks.length nv sv iv l x (rs ++ [(p, a0 :: a')])) := fun e w5 h5 => hL4.step (by rw [hrj]; exact hK4) hp h5
            have HD3 : Aside (l.drop (p + (a0 :: a').length) = flats (ks.drop (j + 1)) ++ rest) := by
              show _ = _
              rw [hlen, ← List.drop_drop, hDj, List.drop_left]
            have HLEN : Aside ((a0 :: a').length = (flat tj).length) := hlen
            clear HR2 HR HD hDj hL4 hK4 hLp hLp0 hr hlen hdj htj hwj hlenj
            go_upto_region 11 with fail
            rw [← hw4]
            clear hw4 hu0 uz c2
            go_wp2_with fail
            refine HC.mono ?_
            intro e w5 h5
            have hLn := HLN.out e w5 h5
            obtain ⟨-, ⟨q, rfl⟩, -⟩ := h5
            have HLn : Aside (∀ o, Lp B w w1 w2 (w5.alloc o) cb tb w2.heap.size i κ (p + (a0 :: a').length) ks.length nv sv iv l x (rs ++ [(p, a0 :: a')])) := fun o => hLn.below ((Below.refl _ _).alloc (Nat.le_refl _) o)
            clear HC HLN hLn
            unfold rf
            go_wp2_with fail
            go_roundg (gk - 1)
            case measure => omega
            case rel => exact ⟨j + 1, _, _, by omega, by go_num, HLn.out _, by simp [hrj], (by show _ = _; rw [HR3.out, HLEN.out]), HD3⟩
          | error q =>
            obtain ⟨q1, q2⟩ := q
            rw [addR_err hr] at HR2
            rw [hr] at HC
            have hres4 := hL4.res
            have HF : Aside (∀ e w5, PEnd B w4 cb tb nv l p (.error (q1, q2)) e w5 → (w5.cell? ⟨w.heap.size, 0, none⟩ = some (.int .i64 0) ∧ w5.cell? ⟨w.heap.size, 1, none⟩ = some (.int .i64 0)) ∧ (∀ z, w5.frozen? ⟨w.heap.size, z, none⟩ = false) ∧ w.heap.size < w5.heap.size ∧ ∀ o y z, Q (.returned (.agg #[.int .i64 q1, .int .i64 q2])) (((w5.setCell ⟨w.heap.size, 0, none⟩ y).setCell ⟨w.heap.size, 1, none⟩ z).alloc o)) := fun e w5 h5 => by
              have k1 := (h5.1.block w.heap.size (by omega) (by omega) (by omega)).trans hres4
              refine ⟨⟨(block_cells k1).1 0, (block_cells k1).1 1⟩, (block_cells k1).2, by have := h5.1.size; omega, fun o y z => ?_⟩
              rw [HQ.out]
              have he : ckT env (.nd x ks) i = .error (q1, q2) := by simp only [ckT]; rw [if_neg (by rw [hah]; simp), HR2]
              rw [he]
              exact ⟨((hL4.two.trans h5.1).res y z).below ((Below.refl _ _).alloc (Nat.le_refl _) o), h5.2.1, rfl⟩
            clear HR2 HR HD hDj hL4 hK4 hLp hLp0 hr hdj htj hwj hlenj hres4
            go_upto_region 11 with fail
            rw [← hw4]
            clear hw4 hu0 uz c2
            go_wp2_with fail
            refine HC.mono ?_
            intro e w5 h5
            obtain ⟨⟨m0, m1⟩, mz, hlt5, hf⟩ := HF.out e w5 h5
            obtain ⟨-, hq0, rfl⟩ := h5
            have hq1 : (q1 != 0) = true := by simpa using hq0
            have HF2 : Aside _ := hf
            clear HC HF hf
            unfold rf
            simp only
            go_wp2_with fail
            try simp only [Exit.inBlock, Exit.then]
            refine bodyPost_ret (v := .agg #[.int .i64 q1, .int .i64 q2]) (by simp [results, Tryz.results51, go_sem, m0, m1, hlt5, Nat.ne_of_lt hlt5]) rfl ?_
            exact HF2.out _ _ _
        · have hj' : ¬ (j : Int) < (ks.length : Int) := by omega
          have HR2 := HR.out
          rw [List.drop_eq_nil_of_le (by omega), addR_end] at HR2
          have hjm : rs.length = ks.length := by omega
          have HRu := rule_any wr cb tb l.length i nv (.slice (some ⟨w2.heap.size, 0, none⟩) ks.length ks.length) sv l x κ env (rs.map fun r => (r.1, r.2.headD .tq)) HNO.out hx (by rw [List.length_map, hjm]; exact hNk) hLp.st.nod hLp.st.typ (hLp.kds hjm hkl) hLp.st.g (HSV.out.next hLp.two) (hss x hxm) hil hLp.ty
          have hLp5 : ∀ w5, Below wr.heap.size wr w5 → Lp B w w1 w2 w5 cb tb w2.heap.size i κ p ks.length nv sv iv l x rs := fun w5 h => hLp.below h
          have HL5 : Aside _ := hLp5
          have HR3 : Aside _ := HR2
          clear hLp hLp0 hLp5 HR2 HR HD
          go_wp2_with fail
          refine HRu.mono ?_
          rintro e w5 ⟨hans, hB5⟩
          obtain ⟨s, c, q, rfl⟩ := hans.form
          have hL5 := HL5.out w5 hB5
          obtain ⟨s0, t0⟩ := hL5.st.str i hil
          have tz := hL5.st.tz
          have ty : w5.cell? ⟨cb, 1, none⟩ = some (.slice (some ⟨tb, 0, none⟩) l.length l.length) := hL5.st.typ
          have m0 : w5.cell? ⟨w.heap.size, 0, none⟩ = some (.int .i64 0) := (block_cells hL5.res).1 0
          have m1 : w5.cell? ⟨w.heap.size, 1, none⟩ = some (.int .i64 0) := (block_cells hL5.res).1 1
          have mz := (block_cells hL5.res).2
          have hl5 := hL5.lt
          have hs5 := hL5.st.lt
          have hi' : (i : Int) < (l.length : Int) := by omega
          have ht5 : tb < w5.heap.size := by omega
          have hc5 : cb < w5.heap.size := by omega
          have hr5 : w.heap.size < w5.heap.size := by omega
          have hne5 : ¬ tb = w.heap.size := by omega
          have HA : Aside _ := hans
          have HL : Aside _ := hL5
          clear HRu hB5 hL5 hans
          have HFIN : Aside (∀ o, Q (.returned (.agg #[.int .i64 c, .int .i64 q])) ((((w5.setCell ⟨tb, i, none⟩ (.string s)).setCell ⟨w.heap.size, 0, none⟩ (.int .i64 c)).setCell ⟨w.heap.size, 1, none⟩ (.int .i64 q)).alloc o)) := fun o => by
            have hf := HL.out.fin hil HA.out (fun t ht => rule_len HNO.out hE (fun k hk => by
              obtain ⟨r, hr, rfl⟩ := List.mem_map.1 hk
              obtain ⟨n', hn'⟩ := List.getElem?_of_mem hr
              exact (HL.out.did n' r hn').2.2.2.1) hah ht) o
            rw [HQ.out]
            have he : ckT env (.nd x ks) i = finR (Ck.rule env x i (rs.map fun r => (r.1, r.2.headD .tq))) (rs.map Prod.snd).flatten := by
              simp only [ckT]; rw [if_neg (by rw [hah]; simp), HR3.out]
              unfold finR
              dsimp only
              cases Ck.rule env x i (rs.map fun r => (r.1, r.2.headD .tq)) <;> rfl
            rw [he]
            exact hf
          clear HL HA HL5 HR3 HQ
          go_wp2_with fail
          try simp only [Exit.inBlock, Exit.then]
          refine bodyPost_ret (v := .agg #[.int .i64 c, .int .i64 q]) (by simp [results, Tryz.results51, go_sem, m0, m1, hr5, hne5, Nat.ne_of_lt hr5]) rfl ?_
          exact HFIN.out _
end Go.Proofs.YthdlfeejeboboaaGreatDoor
namespace Go.Proofs.YthdlfeejeboboaaGreatDoor
open Go.RowKit Ck
open T3.Tp (Ty enc cns met)
open Tr (flat wf)
set_option maxRecDepth 100000
set_option linter.unusedSimpArgs false

inductive Ex (l : List Tr.Nd) (N Th : List (List UInt8)) : List (List UInt8) → Int → Int → Prop
  | arg (h : envB N Th = false) : Ex l N Th [] 1 0
  | tree (h : envB N Th = true) (h1 : (chkN l).1 ≠ 0) : Ex l N Th [] ((chkN l).1 : Int) ((chkN l).2 : Int)
  | bad (h : envB N Th = true) (h1 : (chkN l).1 = 0) (ts : List Ty) (t : Tr.T) (h2 : N.length = ts.length) (h3 : Th = ts.map enc) (h4 : wf t) (h5 : l = flat t) (q : Int × Nat) (h6 : ckT (envOf N ts) t 0 = .error q) (h7 : q.1 ≠ 0) : Ex l N Th [] q.1 (q.2 : Int)
  | good (h : envB N Th = true) (h1 : (chkN l).1 = 0) (ts : List Ty) (t : Tr.T) (h2 : N.length = ts.length) (h3 : Th = ts.map enc) (h4 : wf t) (h5 : l = flat t) (a : List Ty) (h6 : ckT (envOf N ts) t 0 = .ok a) (h7 : ∀ u ∈ a, (enc u).length ≤ 64) (h8 : a.length = l.length) : Ex l N Th (a.map enc) 0 0
def ExEnd (w : World) (l : List Tr.Nd) (N Th : List (List UInt8)) (e : Ending) (w' : World) : Prop := Below w.heap.size w w' ∧ ∃ a n c r er at', e = .returned (.tuple #[.slice a n c, .int .i64 er, .int .i64 at']) ∧ Ex l N Th r er at' ∧ n = r.length ∧ T3.IsTexts w' (.slice a n c) r ∧ (∀ b o, a = some ⟨b, o, none⟩ → w.heap.size ≤ b) ∧ (a = none ∧ c = 0 ∨ ∃ b, a = some ⟨b, 0, none⟩ ∧ w.heap.size ≤ b ∧ c = n ∧ Rw w' b n)
theorem ExEnd.nil {w w' : World} {l : List Tr.Nd} {N Th : List (List UInt8)} {er at' : Int} (hB : Below w.heap.size w w') (h : Ex l N Th [] er at') : ExEnd w l N Th (.returned (.tuple #[.slice none 0 0, .int .i64 er, .int .i64 at'])) w' :=
  ⟨hB, none, 0, 0, [], er, at', rfl, h, rfl, .inl ⟨rfl, none, 0, rfl⟩, fun b o e => (by cases e), .inl ⟨rfl, rfl⟩⟩

theorem envOk_of {N : List (List UInt8)} {ts : List Ty} (h : ∀ t ∈ ts, (enc t).length ≤ 64) (hl : N.length = ts.length) : EnvOk (envOf N ts) := by
  intro n t hn
  have := look_last N ts hl N.length (Nat.le_refl _) n
  rw [List.take_of_length_le (by simp; omega)] at this
  unfold envOf at hn
  rw [hn] at this
  cases hj : lastAt N N.length n with
  | none => rw [hj] at this; simp at this
  | some j => rw [hj] at this; exact h t (List.mem_of_getElem? this.symm)
theorem tyTx : Tryz.prog.underlying 23 = some (.slice 9) := by kernel_rfl
theorem infTx : (Tryz.prog.info? 9).map (fun i => (i.zero, i.size, i.bytes)) = some (some (.string ⟨#[]⟩), 1, 16) := by kernel_rfl

theorem made_str (n k : Nat) (h : k < n) : (madeCells #[.string ⟨#[]⟩] n)[k]? = some (.string ⟨#[]⟩) := by
  simp [madeCells, h, Nat.mod_one]

set_option maxHeartbeats 4000000 in
theorem expr_any (l : List Tr.Nd) (hf : Fits l) (N Th : List (List UInt8)) (hN : N.length ≤ 1000) (hs : ∀ p ∈ N, p.length ≤ maxLen) (v vn vt : Value) (w : World) (hl : IsNodes w v l) (hn : T3.IsTexts w vn N) (ht : T3.IsTexts w vt Th) (hG : HasG w) (hg : 8 ≤ w.heap.size) :
    Calls Tryz.prog 19 #[v, vn, vt] w (ExEnd w l N Th) := by
  have henv := environment_any N Th hN hs vn vt w hn ht
  obtain ⟨a, c, rfl⟩ := hl.form
  cases hb : envB N Th with
  | false =>
    have henv' := henv.mono (R' := fun e w' => e = .returned (.tuple #[.nilFunc, .bool false]) ∧ Below w.heap.size w w') (fun e w' ⟨hB, h⟩ => by rw [if_neg (by rw [hb]; decide)] at h; exact ⟨h, hB⟩)
    have HX : Aside (Ex l N Th [] 1 0) := .arg hb
    clear henv hb hn ht
    go_enter Tryz.func19, Tryz.ntmps19
    go_wp2_with (go_at_call 49; refine henv'.mono ?_; rintro e w1 ⟨rfl, hB1⟩)
    refine bodyPost_ret (v := .tuple #[.slice none 0 0, .int .i64 1, .int .i64 0]) (by simp [results, Tryz.results19, go_sem]) rfl ?_
    exact ExEnd.nil hB1 HX.out
  | true =>
    have henv' := henv.mono (R' := fun e w' => ∃ sv ts, e = .returned (.tuple #[sv, .bool true]) ∧ N.length = ts.length ∧ Th = ts.map enc ∧ (∀ t ∈ ts, (enc t).length ≤ 64) ∧ (∀ a b, w'.heap.size ≤ a → w'.heap.size ≤ b → Scope a b w' sv (envOf N ts)) ∧ Below w.heap.size w w') (fun e w' ⟨hB, h⟩ => by
      rw [if_pos hb] at h
      obtain ⟨sv, ts, h1, h2, h3, h4, h5⟩ := h
      exact ⟨sv, ts, h1, h2, h3, h4, h5, hB⟩)
    clear henv hn ht
    by_cases h0 : (chkN l).1 = 0
    · obtain ⟨t, hw, he, hmay, hl4, _⟩ := chk_tree h0
      have hl0 : 0 < l.length := by rw [he]; exact Tr.flat_pos t
      have hmk := run_make_row' (P := Tryz.prog) 23 9 (.string ⟨#[]⟩) 16 tyTx infTx rfl .i64 .i64 l.length (by omega) (by omega)
      have hck : ∀ w1, Below w.heap.size w w1 → Calls Tryz.prog 50 #[.slice a l.length c] w1 fun e w' => e = .returned (.tuple #[.int .i64 0, .int .i64 ((chkN l).2 : Int)]) ∧ Below w1.heap.size w1 w' := fun w1 hB => by
        have := treeCheck_any l hf _ w1 (hl.below hB)
        rw [h0] at this
        exact this
      generalize ((chkN l).2 : Int) = q2 at hck
      have HP : Aside (∀ (w1 w2 : World) (sv : Value) (ts : List Ty), Below w.heap.size w w1 → Below w1.heap.size w1 w2 → N.length = ts.length → (∀ t ∈ ts, (enc t).length ≤ 64) → (∀ a b, w1.heap.size ≤ a → w1.heap.size ≤ b → Scope a b w1 sv (envOf N ts)) →
          Calls Tryz.prog 51 #[.pointer (some ⟨w2.heap.size + 1, 0, none⟩), sv] ((w2.alloc (.cells (madeCells #[.string ⟨#[]⟩] l.length) 9)).alloc (.cells #[.slice a l.length c, .slice (some ⟨w2.heap.size, 0, none⟩) l.length l.length, .int .i64 0] 96)) (PEnd (w2.heap.size + 2) ((w2.alloc (.cells (madeCells #[.string ⟨#[]⟩] l.length) 9)).alloc (.cells #[.slice a l.length c, .slice (some ⟨w2.heap.size, 0, none⟩) l.length l.length, .int .i64 0] 96)) (w2.heap.size + 1) w2.heap.size (.slice a l.length c) l 0 (ckT (envOf N ts) t 0))) := by
        intro w1 w2 sv ts hB1 hB2 hts h64 hsc
        have hz1 := hB1.size
        have hz2 := hB2.size
        obtain ⟨X, hX⟩ : ∃ X, X = w2.alloc (.cells (madeCells #[.string ⟨#[]⟩] l.length) 9) := ⟨_, rfl⟩
        have hXn : X.heap[w2.heap.size]? = some (.cells (madeCells #[.string ⟨#[]⟩] l.length) 9) := by rw [hX]; exact heap_alloc_new _ _
        have hXz : X.heap.size = w2.heap.size + 1 := by rw [hX]; simp
        have hBX : Below w2.heap.size w2 X := by rw [hX]; exact (Below.refl _ _).alloc (Nat.le_refl _) _
        rw [← hX]
        clear hX
        obtain ⟨Y, hY⟩ : ∃ Y, Y = X.alloc (.cells #[.slice a l.length c, .slice (some ⟨w2.heap.size, 0, none⟩) l.length l.length, .int .i64 0] 96) := ⟨_, rfl⟩
        have hYn : Y.heap[w2.heap.size + 1]? = some (.cells #[.slice a l.length c, .slice (some ⟨w2.heap.size, 0, none⟩) l.length l.length, .int .i64 0] 96) := by rw [hY, ← hXz]; exact heap_alloc_new _ _
        have hYz : Y.heap.size = w2.heap.size + 2 := by rw [hY]; simp; omega
        have hBY : Below X.heap.size X Y := by rw [hY]; exact (Below.refl _ _).alloc (Nat.le_refl _) _
        rw [← hY]
        clear hY
        have hYt : Y.heap[w2.heap.size]? = some (.cells (madeCells #[.string ⟨#[]⟩] l.length) 9) := (hBY.block _ (by omega)).trans hXn
        have hBw : Below w.heap.size w Y := bt (bt (bt hB1 hB2) hBX) hBY
        refine ckPart_any (w2.heap.size + 2) (w2.heap.size + 1) w2.heap.size (.slice a l.length c) l hmay hf.str hl4 (flat t).length t 0 [] (envOf N ts) Y sv (Nat.le_refl _) hw (by rw [List.drop_zero, List.append_nil]; exact he) (envOk_of h64 hts) ?_ ((hsc _ _ (by omega) (by omega)).next (below_two (bt (bt hB2 hBX) hBY) _ _))
        refine ⟨⟨(block_cells hYn).1 0, hl.below hBw⟩, (block_cells hYn).1 1, (block_cells hYn).1 2, (block_cells hYn).2, (block_cells hYt).2, fun k hk => ⟨⟨#[]⟩, ?_⟩, fun b o n c' e => ?_, by omega, hG.below hBw, by omega, by omega, ⟨_, hYt, by simp [size_madeCells]⟩⟩
        · rw [(block_cells hYt).1 k]
          exact made_str _ k hk
        · have hb2 : b < w.heap.size := by
            rcases hl with ⟨h, _⟩ | ⟨b1, o1, c1, h1, _, h2, _⟩
            · rw [h] at hl0; simp at hl0
            · rw [h1] at e; cases e; exact h2
          omega
      have HX : Aside (∀ ts, N.length = ts.length → Th = ts.map enc → (∀ q, ckT (envOf N ts) t 0 = .error q → q.1 ≠ 0 → Ex l N Th [] q.1 (q.2 : Int)) ∧ (∀ x, ckT (envOf N ts) t 0 = .ok x → (∀ u ∈ x, (enc u).length ≤ 64) → Ex l N Th (x.map enc) 0 0 ∧ x.length = l.length)) := fun ts e1 e2 =>
        ⟨fun q h1 h2 => .bad hb h0 ts t e1 e2 hw he q h1 h2, fun x h1 h2 => by
          have h8 : x.length = l.length := by rw [Ck.len_T t _ 0 x h1, he]
          exact ⟨.good hb h0 ts t e1 e2 hw he x h1 h2 h8, h8⟩⟩
      clear hb h0 he hw hmay hG hl
      go_enter Tryz.func19, Tryz.ntmps19
      go_wp2_with fail
      go_at_call 49
      refine henv'.mono ?_
      rintro e w1 ⟨sv, ts, rfl, e1, e2, e3, hsc, hB1⟩
      go_wp2_with fail
      go_at_call 50
      refine (hck w1 hB1).mono ?_
      rintro e w2 ⟨rfl, hB2⟩
      have HPP := HP.out w1 w2 sv ts hB1 hB2 e1 e3 hsc
      have HXX := HX.out ts e1 e2
      clear HP HX hck henv' hsc
      go_wp2_with fail
      refine HPP.mono ?_
      rintro e w3 ⟨hT3, hpe⟩
      have hz1 := hB1.size
      have hz2 := hB2.size
      have hz3 := hT3.size
      simp only [World.size_alloc] at hz3
      have HB3 : Aside (Below w.heap.size w w3) := (balloc (balloc (bt hB1 hB2) _) _).trans ⟨hT3.os, hT3.tape, hT3.output, hT3.size, fun k hk => hT3.block k (by simp; omega) (by omega) (by omega)⟩
      clear HPP hB1 hB2 hT3 hmk
      cases hr : ckT (envOf N ts) t 0 with
      | error q =>
        rw [hr] at hpe
        obtain ⟨hq0, rfl⟩ := hpe
        obtain ⟨q1, q2'⟩ := q
        have HE : Aside (Ex l N Th [] q1 (q2' : Int)) := HXX.1 _ hr hq0
        have hq1 : (q1 != 0) = true := by simpa using hq0
        clear hr hq0 HXX e2
        unfold rf
        go_wp2_with fail
        go_quiet (fail)
        go_wp2_with fail
        refine bodyPost_ret (v := .tuple #[.slice none 0 0, .int .i64 q1, .int .i64 (q2' : Int)]) (by simp [results, Tryz.results19, go_sem]) rfl ?_
        exact ExEnd.nil (below_drewN (balloc HB3.out _) _) HE.out
      | ok x =>
        rw [hr] at hpe
        obtain ⟨⟨p, rfl⟩, hst, hcell, -⟩ := hpe
        obtain ⟨HE1, HE2⟩ := HXX.2 x hr (fun u hu => by obtain ⟨k, hk⟩ := List.getElem?_of_mem hu; exact (hcell k u hk).2)
        have HE : Aside (Ex l N Th (x.map enc) 0 0 ∧ x.length = l.length) := ⟨HE1, HE2⟩
        have HC : Aside (∀ k u, x[k]? = some u → w3.cell? ⟨w2.heap.size, k, none⟩ = some (.string (S (enc u)))) := fun k u hk => by have := (hcell k u hk).1; rwa [Nat.zero_add] at this
        have HRw : Aside (Rw w3 w2.heap.size l.length) := hst.rwo
        have ct1 : w3.cell? ⟨w2.heap.size + 1, 1, none⟩ = some (.slice (some ⟨w2.heap.size, 0, none⟩) l.length l.length) := hst.typ
        have hlt1 : w2.heap.size + 1 < w3.heap.size := by omega
        have hlt0 : w2.heap.size < w3.heap.size := by omega
        clear hr hcell hst HXX e2 HE1 HE2
        unfold rf
        go_wp2_with fail
        refine bodyPost_ret (v := .tuple #[.slice (some ⟨w2.heap.size, 0, none⟩) l.length l.length, .int .i64 0, .int .i64 0]) (by simp [results, Tryz.results19, go_sem]) rfl ?_
        obtain ⟨HE1, HE2⟩ := HE.out
        refine ⟨balloc HB3.out _, _, _, _, x.map enc, 0, 0, rfl, HE1, by simp [HE2], .inr ⟨w2.heap.size, 0, l.length, by simp [HE2], by simp [HE2], by simp; omega, fun j p hp => ?_⟩, fun b o e => (by cases e; omega), .inr ⟨w2.heap.size, rfl, by omega, rfl, HRw.out.same (Below.heap_alloc _ _ _ (by omega))⟩⟩
        rw [List.getElem?_map] at hp
        cases hu : x[j]? with
        | none => rw [hu] at hp; simp at hp
        | some u =>
          rw [hu] at hp
          simp at hp
          subst hp
          rw [Nat.zero_add, World.cell?_alloc_lt _ _ _ hlt0]
          exact HC.out j u hu
    · have h0' : (((chkN l).1 : Int) != 0) = true := by simpa using h0
      have hck : ∀ w1, Below w.heap.size w w1 → Calls Tryz.prog 50 #[.slice a l.length c] w1 fun e w' => e = .returned (.tuple #[.int .i64 ((chkN l).1 : Int), .int .i64 ((chkN l).2 : Int)]) ∧ Below w1.heap.size w1 w' := fun w1 hB => treeCheck_any l hf _ w1 (hl.below hB)
      have HX : Aside (Ex l N Th [] ((chkN l).1 : Int) ((chkN l).2 : Int)) := .tree hb h0
      generalize ((chkN l).1 : Int) = q1 at *
      generalize ((chkN l).2 : Int) = q2 at *
      clear hb h0 hl
      go_enter Tryz.func19, Tryz.ntmps19
      go_wp2_with fail
      go_at_call 49
      refine henv'.mono ?_
      rintro e w1 ⟨sv, ts, rfl, e1, e2, e3, hsc, hB1⟩
      clear e1 e2 e3 hsc
      go_wp2_with fail
      go_at_call 50
      refine (hck w1 hB1).mono ?_
      rintro e w2 ⟨rfl, hB2⟩
      go_wp2_with fail
      refine bodyPost_ret (v := .tuple #[.slice none 0 0, .int .i64 q1, .int .i64 q2]) (by simp [results, Tryz.results19, go_sem]) rfl ?_
      exact ExEnd.nil (bt hB1 hB2) HX.out
end Go.Proofs.YthdlfeejeboboaaGreatDoor
namespace Go.Proofs.YthdlfeejeboboaaGreatDoor
open Go.RowKit Ck
open T3.Tp (Ty enc cns met)
open Tr (flat wf)
set_option maxRecDepth 100000
set_option linter.unusedSimpArgs false

theorem encs_inj : ∀ {a b : List Ty}, a.map enc = b.map enc → a = b
  | [], [], _ => rfl
  | [], _ :: _, h => by simp at h
  | _ :: _, [], h => by simp at h
  | x :: a, y :: b, h => by
    simp only [List.map_cons, List.cons.injEq] at h
    rw [T3.Tp.enc_inj h.1, encs_inj h.2]
theorem tree_one {t t' : Tr.T} (h : wf t) (h' : wf t') (e : flat t = flat t') : t = t' := (Tr.flat_inj t t' [] [] h h' (by simpa using e)).1
theorem Ex.err {l : List Tr.Nd} {N Th : List (List UInt8)} {ts0 : List Ty} {t0 : Tr.T} {q : Int × Nat} (hE : envB N Th = true) (hT : Th = ts0.map enc) (hc : (chkN l).1 = 0) (hw : wf t0) (hl : l = flat t0) (h : ckT (envOf N ts0) t0 0 = .error q)
    {r : List (List UInt8)} {er at' : Int} (hx : Ex l N Th r er at') : r = [] ∧ er = q.1 ∧ at' = (q.2 : Int) := by
  cases hx with
  | arg h' => rw [hE] at h'; cases h'
  | tree _ h1 => exact absurd hc h1
  | bad _ _ ts t h2 h3 h4 h5 q' h6 h7 =>
    obtain rfl : ts = ts0 := encs_inj (h3.symm.trans hT)
    obtain rfl : t = t0 := tree_one h4 hw (h5.symm.trans hl)
    rw [h] at h6; cases h6; exact ⟨rfl, rfl, rfl⟩
  | good _ _ ts t h2 h3 h4 h5 a h6 =>
    obtain rfl : ts = ts0 := encs_inj (h3.symm.trans hT)
    obtain rfl : t = t0 := tree_one h4 hw (h5.symm.trans hl)
    rw [h] at h6; cases h6
theorem Ex.ok {l : List Tr.Nd} {N Th : List (List UInt8)} {ts0 : List Ty} {t0 : Tr.T} {a : List Ty} (hE : envB N Th = true) (hT : Th = ts0.map enc) (hc : (chkN l).1 = 0) (hw : wf t0) (hl : l = flat t0) (h : ckT (envOf N ts0) t0 0 = .ok a)
    {r : List (List UInt8)} {er at' : Int} (hx : Ex l N Th r er at') : r = a.map enc ∧ er = 0 ∧ at' = 0 := by
  cases hx with
  | arg h' => rw [hE] at h'; cases h'
  | tree _ h1 => exact absurd hc h1
  | bad _ _ ts t h2 h3 h4 h5 q' h6 h7 =>
    obtain rfl : ts = ts0 := encs_inj (h3.symm.trans hT)
    obtain rfl : t = t0 := tree_one h4 hw (h5.symm.trans hl)
    rw [h] at h6; cases h6
  | good _ _ ts t h2 h3 h4 h5 a h6 =>
    obtain rfl : ts = ts0 := encs_inj (h3.symm.trans hT)
    obtain rfl : t = t0 := tree_one h4 hw (h5.symm.trans hl)
    rw [h] at h6; cases h6; exact ⟨rfl, rfl, rfl⟩
theorem txs_lit (w : World) (ps : List (List UInt8)) (hm : ps.length ≤ 1000) : T3.IsTexts (w.alloc (.cells (T3.tcells ps).toArray 9)) (.slice (some ⟨w.heap.size, 0, none⟩) ps.length ps.length) ps := by
  have h := T3.own_lit w (T3.tcells ps) 9 (by unfold maxLen; simp [T3.tcells]; omega)
  rw [show (T3.tcells ps).length = ps.length by simp [T3.tcells]] at h
  exact T3.IsTexts.own h

theorem one_txs (w : World) (c : UInt8) : T3.IsTexts (w.alloc (.cells #[.string ⟨#[c]⟩] 9)) (.slice (some ⟨w.heap.size, 0, none⟩) 1 1) [[c]] := txs_lit w [[c]] (by simp)

theorem small_names {N : List (List UInt8)} (h : N.all (fun p => decide (p.length ≤ 1000)) = true) : ∀ p ∈ N, p.length ≤ maxLen := fun p hp => by
  have := of_decide_eq_true (List.all_eq_true.1 h p hp)
  unfold maxLen; omega
theorem one_two (w : World) (c d : UInt8) : T3.IsTexts ((w.alloc (.cells #[.string ⟨#[c]⟩] 9)).alloc (.cells #[.string ⟨#[d]⟩] 9)) (.slice (some ⟨w.heap.size, 0, none⟩) 1 1) [[c]] ∧ T3.IsTexts ((w.alloc (.cells #[.string ⟨#[c]⟩] 9)).alloc (.cells #[.string ⟨#[d]⟩] 9)) (.slice (some ⟨w.heap.size + 1, 0, none⟩) 1 1) [[d]] := by
  refine ⟨txs_below (one_txs w c) ((Below.refl _ _).alloc (Nat.le_refl _) _), ?_⟩
  have h := one_txs (w.alloc (.cells #[.string ⟨#[c]⟩] 9)) d
  rw [show (w.alloc (.cells #[.string ⟨#[c]⟩] 9)).heap.size = w.heap.size + 1 by simp] at h
  exact h

end Go.Proofs.YthdlfeejeboboaaGreatDoor
