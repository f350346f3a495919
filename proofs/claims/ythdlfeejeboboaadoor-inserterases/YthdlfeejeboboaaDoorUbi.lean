/- Insertion, plain: how large a part is. Package check: part. What the finder's walk through a part finds: a node with kids. What the program's Free answers. -/
import Derived.Test.YthdlfeejeboboaaDoorUbd
import Derived.Test.YthdlfeejeboboaaDoorUbh
import Derived.Test.YthdlfeejeboboaaDoorUar
import Derived.Deep.OwnRows
import Derived.Test.YthdlfeejeboboaaDoorUav
namespace Go.Proofs.YthdlfeejeboboaaDoor
set_option maxRecDepth 100000
set_option linter.unusedVariables false
set_option linter.unusedSimpArgs false
namespace In
open Ck
open T3.Tp (Ty enc cns met sta)
open Tr (T Nd nm flat flats cut32 wf)

theorem szP_lay (c : Nd) : ∀ p, szP (lay c p) = szP p
  | .pt a ah ks => by rw [lay, szP, szP]
theorem szPs_mod (c : Nd) : ∀ (ks : List PT) (k : Nat), szPs (ks.modify k (lay c)) = szPs ks
  | [], k => by simp
  | p :: r, 0 => by simp [szPs, szP_lay]
  | p :: r, k + 1 => by simp [szPs, szPs_mod c r k]
theorem plB_lay (c : Nd) : ∀ p, plB (lay c p) ↔ plB p
  | .pt a ah ks => by rw [lay, plB, plB]
theorem plBs_mod (c : Nd) : ∀ (ks : List PT) (k : Nat), plBs (ks.modify k (lay c)) ↔ plBs ks
  | [], k => by simp
  | p :: r, 0 => by simp [plBs, plB_lay]
  | p :: r, k + 1 => by simp [plBs, plBs_mod c r k]
theorem terms_mod (c : Nd) : ∀ (ks : List PT) (k : Nat), (terms (ks.modify k (lay c))).length ≤ (terms ks).length + 1
  | [], k => by simp [terms]
  | p :: r, 0 => by simp [terms, term_lay]
  | p :: r, k + 1 => by have := terms_mod c r k; simp [terms]; omega
theorem fold_size (x : Nd) (tk : List Ty) (kx : List Nd) : ∀ (ws : List (Nat × Ty × Int)) (st : List PT × List Si), szPs (ws.foldl (wish x tk kx) st).1 = szPs st.1 ∧ (plBs (ws.foldl (wish x tk kx) st).1 ↔ plBs st.1) ∧ (terms (ws.foldl (wish x tk kx) st).1).length + st.2.length ≤ (terms st.1).length + (ws.foldl (wish x tk kx) st).2.length
  | [], st => ⟨rfl, Iff.rfl, by simp⟩
  | w :: r, st => by
    rw [List.foldl_cons]
    obtain ⟨h1, h2, h3⟩ := fold_size x tk kx r (wish x tk kx st w)
    have k : szPs (wish x tk kx st w).1 = szPs st.1 ∧ (plBs (wish x tk kx st w).1 ↔ plBs st.1) ∧ (terms (wish x tk kx st w).1).length + st.2.length ≤ (terms st.1).length + (wish x tk kx st w).2.length := by
      unfold wish
      split
      · exact ⟨rfl, Iff.rfl, by omega⟩
      · refine ⟨szPs_mod _ _ _, plBs_mod _ _ _, ?_⟩
        have := terms_mod (castN (tk.getD w.1 .tq) w.2.1 (st.2.length + 1) (placeN x kx w).1 (placeN x kx w).2) st.1 w.1
        simp only [List.length_append, List.length_singleton]
        omega
    exact ⟨h1.trans k.1, h2.trans k.2.1, by have := k.2.2; omega⟩
mutual
theorem size_T (N : List (List UInt8)) (ts : List Ty) : ∀ (t : T) (L : List (List UInt8)) (i : Nat) (ss : List Si), szP (inT N ts L t i ss).1 = (flat t).length ∧ (i + (flat t).length ≤ 1000000 → plB (inT N ts L t i ss).1) ∧ (term (inT N ts L t i ss).1).length + ss.length ≤ (flat t).length + (inT N ts L t i ss).2.length
  | .nd x ks, L, i, ss => by
    obtain ⟨h1, h2, h3⟩ := size_L N ts ks L x 0 (i + 1) ss
    rw [inT]
    simp only
    obtain ⟨k1, k2, k3⟩ := fold_size x ((plcs ks (i + 1)).map fun p => ts.getD p .tq) (ks.map rootN) (wishes x (ts.getD i .tq) ((plcs ks (i + 1)).map fun p => ts.getD p .tq)) (inL N ts L x 0 ks (i + 1) ss)
    have hn := nodeP_len N L (ts.getD i .tq) x
    rw [szP, plB, term, flat, List.length_cons, k1, h1]
    refine ⟨rfl, fun h => ⟨by omega, k2.2 (h2 (by omega))⟩, ?_⟩
    rw [List.length_append]
    omega
theorem size_L (N : List (List UInt8)) (ts : List Ty) : ∀ (ks : List T) (L : List (List UInt8)) (x : Nd) (j i : Nat) (ss : List Si), szPs (inL N ts L x j ks i ss).1 = (flats ks).length ∧ (i + (flats ks).length ≤ 1000000 → plBs (inL N ts L x j ks i ss).1) ∧ (terms (inL N ts L x j ks i ss).1).length + ss.length ≤ (flats ks).length + (inL N ts L x j ks i ss).2.length
  | [], L, x, j, i, ss => by rw [inL]; simp [szPs, plBs, terms, flats]
  | t :: r, L, x, j, i, ss => by
    rw [inL]
    simp only
    obtain ⟨h1, h2, h3⟩ := size_T N ts t (inn x j L) i ss
    obtain ⟨k1, k2, k3⟩ := size_L N ts r L x (j + 1) (i + (flat t).length) (inT N ts (inn x j L) t i ss).2
    rw [szPs, plBs, terms, flats, List.length_append, List.length_append, h1, k1]
    exact ⟨rfl, fun h => ⟨h2 (by omega), k2 (by omega)⟩, by omega⟩
end
end In
end Go.Proofs.YthdlfeejeboboaaDoor
namespace Go.Proofs.YthdlfeejeboboaaDoor
open Go.RowKit Ck
open T3.Tp (Ty enc cns met)
open Tr (flat flats)
set_option maxRecDepth 100000
set_option linter.unusedSimpArgs false

/-- The next node is one on. -/
theorem St.bump {B : Nat} {w w1 : World} {cb tb i : Nat} {nv : Value} {l : List Tr.Nd} {o : Obj} (h : St B w cb tb nv l i) (hw : w1 = (w.alloc o).setCell ⟨cb, 2, none⟩ (.int .i64 ((i : Int) + 1))) : St B w1 cb tb nv l (i + 1) ∧ Two cb tb w w1 ∧ (∀ k, w1.cell? ⟨tb, k, none⟩ = w.cell? ⟨tb, k, none⟩) ∧ w1.heap.size = w.heap.size + 1 ∧ (∀ k, k ≠ cb → w1.heap[k]? = (w.alloc o).heap[k]?) := by
  have hl := h.lt
  have hA : Below w.heap.size w (w.alloc o) := (Below.refl _ _).alloc (Nat.le_refl _) o
  have hne : ∀ k, k ≠ cb → w1.heap[k]? = (w.alloc o).heap[k]? := fun k hk => by rw [hw]; exact Below.heap_setCell _ _ _ _ hk
  have hb : ∀ k, k ≠ cb → k < w.heap.size → w1.heap[k]? = w.heap[k]? := fun k hk hk2 => (hne k hk).trans (hA.block k hk2)
  have hz : w1.heap.size = w.heap.size + 1 := by rw [hw]; simp [World.setCell]
  have hc0 : ∀ q, (w.alloc o).cell? ⟨cb, q, none⟩ = w.cell? ⟨cb, q, none⟩ := fun q => hA.cell (p := ⟨cb, q, none⟩) (by show cb < _; omega)
  have hcq : ∀ q, q ≠ 2 → w1.cell? ⟨cb, q, none⟩ = w.cell? ⟨cb, q, none⟩ := fun q hq => by rw [hw]; exact (World.cell?_setCell_other (w := w.alloc o) (a := ⟨cb, 2, none⟩) (b := ⟨cb, q, none⟩) (v := .int .i64 ((i : Int) + 1)) (fun e => hq (by cases e; rfl))).trans (hc0 q)
  have hc2 : w1.cell? ⟨cb, 2, none⟩ = some (.int .i64 ((i : Int) + 1)) := by rw [hw]; exact World.cell?_setCell_same (w := w.alloc o) (a := ⟨cb, 2, none⟩) (v := .int .i64 ((i : Int) + 1)) ((hc0 2).trans h.nxt)
  have hcz : ∀ q, w1.frozen? ⟨cb, q, none⟩ = false := fun q => by
    have e : (w.alloc o).frozen? ⟨cb, q, none⟩ = w.frozen? ⟨cb, q, none⟩ := by unfold World.frozen?; rw [hA.block _ (by show cb < _; omega)]
    rw [hw, ← h.cz q, ← e]; simp [go_sem]
  have htb : ∀ q, w1.cell? ⟨tb, q, none⟩ = w.cell? ⟨tb, q, none⟩ := fun q => World.cell?_of_block (hb tb (Ne.symm h.ne) (by omega))
  have h2 : Two cb tb w w1 := ⟨by rw [hw]; rfl, by rw [hw]; rfl, by rw [hw]; rfl, by omega, fun k hk a _ => hb k a hk⟩
  refine ⟨⟨⟨(hcq 0 (by decide)).trans h.nod.1, ?_⟩, (hcq 1 (by decide)).trans h.typ, by rw [hc2]; rfl, hcz, fun q => ?_, fun j hj => ?_, h.off, h.ne, h.g.two h2 h.gl.1 h.gl.2, h.gl, by omega, h.rwo.same (hb tb (Ne.symm h.ne) (by omega))⟩, h2, htb, hz, hne⟩
  · rcases h.nod.2 with ⟨h1, h2'⟩ | ⟨b, o', c, h1, h2', h3, h4⟩
    · exact .inl ⟨h1, h2'⟩
    · obtain ⟨hb1, hb2, _⟩ := h.off b o' _ c h1
      exact .inr ⟨b, o', c, h1, h2', by omega, fun j x hx m u hu => (h2.cell (p := ⟨b, o' + j * 8 + m, none⟩) h3 hb1 hb2).trans (h4 j x hx m u hu)⟩
  · rw [← h.tz q]; unfold World.frozen?; rw [hb tb (Ne.symm h.ne) (by omega)]
  · obtain ⟨s, hs⟩ := h.str j hj; exact ⟨s, (htb j).trans hs⟩

theorem Two.res {a b : Nat} {w W : World} (h : Two a b w W) (p q : Value) : Two a b w ((W.setCell ⟨w.heap.size, 0, none⟩ p).setCell ⟨w.heap.size, 1, none⟩ q) :=
  ⟨h.os, h.tape, h.output, by simpa [World.setCell] using h.size, fun k hk ha hb => by rw [Below.heap_setCell _ _ _ _ (by show k ≠ w.heap.size; omega), Below.heap_setCell _ _ _ _ (by show k ≠ w.heap.size; omega)]; exact h.block k hk ha hb⟩
theorem made_cell (m q : Nat) (h : q < m) : (madeCells #[.int .i64 0] m)[q]? = some (.int .i64 0) := by simp [madeCells, h, Nat.mod_one]

/-- A part's types: its node's, then its kids'. -/
def finR (R : Rs Ty) (L : List Ty) : Rs (List Ty) := match R with | .error e => .error e | .ok t => .ok (t :: L)
theorem Lp.fin {B : Nat} {w w1 w2 w5 : World} {cb tb K i κ p m : Nat} {nv sv iv : Value} {l : List Tr.Nd} {x : Tr.Nd} {rs : List (Nat × List Ty)} (h : Lp B w w1 w2 w5 cb tb K i κ p m nv sv iv l x rs) (hil : i < l.length) {R : Rs Ty} {s : ByteArray} {c q : Int} (hA : Ans R (.returned (.tuple #[.string s, .agg #[.int .i64 c, .int .i64 q]]))) (h64 : ∀ t, R = .ok t → (enc t).length ≤ 64) (o : Obj) :
    PEnd B w cb tb nv l i (finR R (rs.map Prod.snd).flatten) (.returned (.agg #[.int .i64 c, .int .i64 q])) ((((w5.setCell ⟨tb, i, none⟩ (.string s)).setCell ⟨w.heap.size, 0, none⟩ (.int .i64 c)).setCell ⟨w.heap.size, 1, none⟩ (.int .i64 q)).alloc o) := by
  have hl := h.lt
  have hs := h.st.lt
  have hT : Two cb tb w (w5.setCell ⟨tb, i, none⟩ (.string s)) := h.two.setB _ _
  have hT2 : Two cb tb w ((((w5.setCell ⟨tb, i, none⟩ (.string s)).setCell ⟨w.heap.size, 0, none⟩ (.int .i64 c)).setCell ⟨w.heap.size, 1, none⟩ (.int .i64 q)).alloc o) := (hT.res _ _).below ((Below.refl _ _).alloc (Nat.le_refl _) o)
  refine ⟨hT2, ?_⟩
  cases R with
  | error e =>
    obtain ⟨he, s', hs'⟩ := hA
    simp [rf] at hs'
    obtain ⟨-, rfl, rfl⟩ := hs'
    exact ⟨he, rfl⟩
  | ok t =>
    obtain ⟨p', hp'⟩ := hA
    simp [rf] at hp'
    obtain ⟨rfl, rfl, rfl⟩ := hp'
    obtain ⟨s0, hs0⟩ := h.st.str i hil
    have hci : (w5.setCell ⟨tb, i, none⟩ (.string (S (enc t)))).cell? ⟨tb, i, none⟩ = some (.string (S (enc t))) := World.cell?_setCell_same (w := w5) (a := ⟨tb, i, none⟩) (v := .string (S (enc t))) hs0
    have hco : ∀ k, k ≠ i → (w5.setCell ⟨tb, i, none⟩ (.string (S (enc t)))).cell? ⟨tb, k, none⟩ = w5.cell? ⟨tb, k, none⟩ := fun k hk => World.cell?_setCell_other (w := w5) (a := ⟨tb, i, none⟩) (b := ⟨tb, k, none⟩) (v := .string (S (enc t))) (fun e => hk (by cases e; rfl))
    have hKt : Kt w5 (w5.setCell ⟨tb, i, none⟩ (.string (S (enc t)))) cb tb i 5 t := ⟨(Two.refl cb tb w5).setB _ _, Below.heap_setCell _ _ _ _ h.st.ne, fun _ => hci, fun h' => absurd (.inl rfl) h', hco, fun z => by simp [go_sem], fun n hn => hn.set _ _⟩
    have hSA := (h.st.kt hKt).keep (two_set2 _ w.heap.size (.int .i64 0) (.int .i64 q)) hl.1 hl.1
    have hSF := hSA.below ((Below.refl _ _).alloc (Nat.le_refl _) o)
    have hcell : ∀ k, ((((w5.setCell ⟨tb, i, none⟩ (.string (S (enc t)))).setCell ⟨w.heap.size, 0, none⟩ (.int .i64 0)).setCell ⟨w.heap.size, 1, none⟩ (.int .i64 q)).alloc o).cell? ⟨tb, k, none⟩ = (w5.setCell ⟨tb, i, none⟩ (.string (S (enc t)))).cell? ⟨tb, k, none⟩ := fun k => by
      have hz : (((w5.setCell ⟨tb, i, none⟩ (.string (S (enc t)))).setCell ⟨w.heap.size, 0, none⟩ (.int .i64 0)).setCell ⟨w.heap.size, 1, none⟩ (.int .i64 q)).heap.size = w5.heap.size := by simp [World.setCell]
      refine (World.cell?_of_block (Below.heap_alloc _ _ _ (by show tb < _; omega))).trans (cell_set2 (by omega))
    have hpos := h.pos
    refine ⟨⟨_, rfl⟩, by rw [show i + (t :: (rs.map Prod.snd).flatten).length = p by rw [List.length_cons]; omega]; exact hSF, fun k u hu => ?_, fun k hk => ?_⟩
    · cases k with
      | zero => simp at hu; subst hu; exact ⟨(hcell i).trans hci, h64 _ rfl⟩
      | succ k =>
        simp only [List.getElem?_cons_succ] at hu
        have := h.tys k u hu
        rw [show i + (k + 1) = i + 1 + k by omega]
        exact ⟨(hcell _).trans ((hco _ (by omega)).trans this.1), this.2⟩
    · have hk' : k < i ∨ p ≤ k := by rcases hk with h1 | h1; exact .inl h1; exact .inr (by rw [List.length_cons] at h1; omega)
      exact (hcell k).trans ((hco k (by rcases hk' with h1 | h1 <;> omega)).trans (h.els k hk'))

set_option maxHeartbeats 8000000 in
theorem ckPart_any (B cb tb : Nat) (nv : Value) (l : List Tr.Nd) (hmay : ∀ x ∈ l, Tr.mayB x = true) (hss : ∀ x ∈ l, x.s.size ≤ maxLen) (hl4 : l.length ≤ 4096) : ∀ (N : Nat) (t : Tr.T) (i : Nat) (rest : List Tr.Nd) (env : Env) (w : World) (sv : Value), (flat t).length ≤ N → Tr.wf t → l.drop i = flat t ++ rest → EnvOk env → St B w cb tb nv l i → Scope cb tb w sv env →
    Calls Tryd.prog 21 #[.pointer (some ⟨cb, 0, none⟩), sv] w (PEnd B w cb tb nv l i (ckT env t i))
  | 0, .nd x ks, _, _, _, _, _, hN, _, _, _, _, _ => by simp [flat] at hN
  | N + 1, .nd x ks, i, rest, env, w, sv, hN, hw, hd, hE, hSt, hS => by
    have hx : l[i]? = some x := by
      have h := congrArg (fun m => m[0]?) hd
      simp only [List.getElem?_drop, flat, List.cons_append, Nat.add_zero, List.getElem?_cons_zero] at h
      exact h
    have hd1 : l.drop (i + 1) = flats ks ++ rest := by
      have h := congrArg (List.drop 1) hd
      rw [List.drop_drop] at h
      simpa [flat] using h
    have hil : i < l.length := (List.getElem?_eq_some_iff.1 hx).1
    have hxm : x ∈ l := List.mem_of_getElem? hx
    obtain ⟨κ, hN0⟩ := nod_of (hmay x hxm)
    have hlt := hSt.lt
    have hkl : ks.length ≤ 4096 := by
      have e1 := congrArg List.length hd1
      have e2 : ks.length ≤ (flats ks).length := by
        clear hN hw hd hd1 e1
        induction ks with
        | nil => simp
        | cons a r ih => simp only [flats, List.length_append, List.length_cons]; have := Tr.flat_pos a; omega
      simp at e1; omega
    have hi64 : (i : Int) < 4096 := by omega
    obtain ⟨w1, hw1⟩ : ∃ w1, w1 = (w.alloc (.cells #[.int .i64 0, .int .i64 0] 61)).setCell ⟨cb, 2, none⟩ (.int .i64 ((i : Int) + 1)) := ⟨_, rfl⟩
    obtain ⟨hSt1, hT1, htb1, hz1, hne1⟩ := hSt.bump hw1
    have hKO := kidOf_any B w1 cb tb i (i + 1) κ nv sv l x env hN0 hx hSt1 (hS.next hT1) (hss x hxm)
    have hA : ∀ o, Below w.heap.size w (w.alloc o) := fun o => (Below.refl _ _).alloc (Nat.le_refl _) o
    have e2 : ∀ o, (w.alloc o).cell? ⟨cb, 2, none⟩ = some (.int .i64 (i : Int)) := fun o => ((hA o).cell (p := ⟨cb, 2, none⟩) (by show cb < _; omega)).trans hSt.nxt
    have ez : ∀ o q, (w.alloc o).frozen? ⟨cb, q, none⟩ = false := fun o q => by rw [← hSt.cz q]; unfold World.frozen?; rw [(hA o).block _ (by show cb < _; omega)]
    obtain ⟨Q, hQ⟩ : ∃ Q, Q = PEnd B w cb tb nv l i (ckT env (.nd x ks) i) := ⟨_, rfl⟩
    rw [← hQ]
    have HQ : Aside _ := hQ
    have hres1 : w1.heap[w.heap.size]? = some (.cells #[.int .i64 0, .int .i64 0] 61) := (hne1 _ (by omega)).trans (heap_alloc_new _ _)
    clear hQ hA
    go_enter Tryd.func21, Tryd.ntmps21
    go_upto_region 3 with fail
    rw [← hw1]
    clear hw1 e2 ez
    have hNk : x.kids = (ks.length : Int) := hw.1
    have IH := fun (t' : Tr.T) (i' : Nat) (rest' : List Tr.Nd) (env' : Env) (w' : World) (sv' : Value) (h : (flat t').length ≤ N) => ckPart_any B cb tb nv l hmay hss hl4 N t' i' rest' env' w' sv' h
    have HIH : Aside _ := IH
    clear IH
    go_wp2_with fail
    refine hKO.mono ?_
    rintro e w2 (⟨hah, rfl, hB2⟩ | ⟨hah, iv, rfl, hKb, hSi, hKt⟩)
    · have k1 := (hB2.block w.heap.size (by omega)).trans hres1
      have m0 : w2.cell? ⟨w.heap.size, 0, none⟩ = some (.int .i64 0) := (block_cells k1).1 0
      have m1 : w2.cell? ⟨w.heap.size, 1, none⟩ = some (.int .i64 0) := (block_cells k1).1 1
      have mz := (block_cells k1).2
      have HF : Aside (∀ p q, Q (.returned (.agg #[.int .i64 21, .int .i64 (i : Int)])) ((w2.setCell ⟨w.heap.size, 0, none⟩ p).setCell ⟨w.heap.size, 1, none⟩ q)) := fun p q => by
        rw [HQ.out]
        have he : ckT env (.nd x ks) i = .error (21, i) := by simp [ckT, hah]
        rw [he]
        exact ⟨(hT1.below hB2).res p q, by simp, rfl⟩
      clear hKO HQ HIH k1 hB2 hres1
      go_wp2_with fail
      try simp only [Exit.inBlock, Exit.then]
      refine bodyPost_ret (v := .agg #[.int .i64 21, .int .i64 i]) (by simp [results, Tryd.results21, go_sem, m0, m1]) rfl ?_
      exact HF.out _ _
    · have hSt2 := hSt1.kt hKt
      have hl2 := hSt2.lt
      have hzb := hKb.size
      obtain ⟨nb, no, nc, hnv, hnb, hnd⟩ := hSt2.nod.at hx
      have n0 : w2.cell? ⟨cb, 0, none⟩ = some (.slice (some ⟨nb, no, none⟩) l.length nc) := by rw [← hnv]; exact hSt2.nod.1
      have kidc : w2.cell? ⟨nb, no + i * 8 + 1, none⟩ = some (.int .i64 (ks.length : Int)) := by rw [← hNk]; exact hnd 1 _ rfl
      have hil' : (i : Int) < (l.length : Int) := by omega
      have hmk := run_make_row' (P := Tryd.prog) 65 3 (.int .i64 0) 8 tyInts info3 rfl .i64 .i64 ks.length (by omega) (by omega)
      obtain ⟨w3, hw3⟩ : ∃ w3, w3 = w2.alloc (.cells (madeCells #[.int .i64 0] ks.length) 3) := ⟨_, rfl⟩
      have hB3 : Below w2.heap.size w2 w3 := by rw [hw3]; exact (Below.refl _ _).alloc (Nat.le_refl _) _
      have hz3 : w3.heap.size = w2.heap.size + 1 := by rw [hw3]; simp
      have b3 : w3.heap[w2.heap.size]? = some (.cells (madeCells #[.int .i64 0] ks.length) 3) := by rw [hw3]; exact heap_alloc_new _ _
      have hLp0 : Lp B w w1 w2 w3 cb tb w2.heap.size i κ (i + 1) ks.length nv sv iv l x [] := by
        have hT3 : ∀ o, w3.cell? ⟨tb, o, none⟩ = w2.cell? ⟨tb, o, none⟩ := fun o => hB3.cell (p := ⟨tb, o, none⟩) (by show tb < _; omega)
        refine ⟨hSt2.below hB3, (hT1.trans hKt.two).below hB3, below_two hB3 cb tb, hKb.later hB3, (hB3.block _ (by omega)).trans ((hKt.two.block _ (by omega) (by omega) (by omega)).trans hres1), fun q hq => ⟨0, by rw [(block_cells b3).1 q]; exact made_cell _ q hq⟩, (block_cells b3).2, fun q r hr => by simp at hr, fun q t ht => by simp at ht, by simp, fun h => (hT3 i).trans (hKt.ty h), fun k hk => ?_, by omega⟩
        exact (hT3 k).trans ((hKt.else' k (by omega)).trans (htb1 k))
      have HSI : Aside (Scope cb tb w2 iv (Ck.inner x 1 env)) := hSi
      have HSV : Aside (Scope cb tb w sv env) := hS
      have HNO : Aside (Nod x κ) := hN0
      go_wp2_with fail
      rw [← hw3]
      clear hw3 hB3 b3 hnd hSt1 hSt2 hSt hKO hKt hKb hSi hS n0 kidc hmk hnb hres1 htb1 hne1 hT1 hN0
      go_loopg [47] ks.length (fun g tt wv => ∃ (j p : Nat) (rs : List (Nat × List Ty)), j + g = ks.length ∧ tt = .int .i64 (j : Int) ∧ Lp B w w1 w2 wv cb tb w2.heap.size i κ p ks.length nv sv iv l x rs ∧ rs.length = j ∧ Aside (ckL env x 0 ks (i + 1) = addR rs (ckL env x j (ks.drop j) p)) ∧ Aside (l.drop p = flats (ks.drop j) ++ rest))
      case atStart => exact ⟨0, i + 1, [], by omega, rfl, hLp0, rfl, (by show _ = _; rw [addR_nil]; rfl), hd1⟩
      case round =>
        obtain ⟨j, p, rs, hjg, rfl, hLp, hrj, HR, HD⟩ := hrel
        have hlp := hLp.lt
        have hstl := hLp.st.lt
        by_cases hj : j < ks.length
        · have hj' : (j : Int) < (ks.length : Int) := by omega
          obtain ⟨tj, htj⟩ : ∃ tj, ks[j]? = some tj := ⟨_, List.getElem?_eq_getElem hj⟩
          have hdj : ks.drop j = tj :: ks.drop (j + 1) := by
            rw [List.drop_eq_getElem_cons hj, (List.getElem?_eq_some_iff.1 htj).2]
          have hwj : Tr.wf tj := by
            have h := hw.2
            rw [← List.take_append_drop j ks, hdj] at h
            exact ((Tr.wfs_append _ _).1 h).2.1
          have hDj := HD.out
          rw [hdj] at hDj
          simp only [flats, List.append_assoc] at hDj
          have hp : p < l.length := by
            have e := congrArg List.length hDj
            have := Tr.flat_pos tj
            simp at e; omega
          have hlenj : (flat tj).length ≤ N := by
            have e : (flats ks).length = (flats (ks.take j)).length + ((flat tj).length + (flats (ks.drop (j + 1))).length) := by
              conv => lhs; rw [← List.take_append_drop j ks, hdj, Tr.flats_append]
              simp [flats]
            simp [flat] at hN; omega
          obtain ⟨w4, hw4⟩ : ∃ w4, w4 = wr.setCell ⟨w2.heap.size, j, none⟩ (.int .i64 (p : Int)) := ⟨_, rfl⟩
          obtain ⟨hL4, hK4⟩ := hLp.put (w3 := w4) (by omega) (by rw [hrj]; exact hw4)
          rw [hrj] at hK4
          obtain ⟨b0, b1, b2, -, -, -, b6, -⟩ := hL4.kb.cells
          have hl4' := hL4.lt
          obtain ⟨pv, hpv, hP⟩ : ∃ pv, ((x.kind = 8 ∧ j = 0 ∧ pv = sv) ∨ (¬ (x.kind = 8 ∧ j = 0) ∧ pv = iv)) ∧ ∀ w', Below w4.heap.size w4 w' → Calls Tryd.prog 21 #[.pointer (some ⟨cb, 0, none⟩), pv] w' (PEnd B w' cb tb nv l p (ckT (Ck.inner x j env) tj p)) := by
            by_cases h80 : x.kind = 8 ∧ j = 0
            · refine ⟨sv, .inl ⟨h80.1, h80.2, rfl⟩, fun w' hB => HIH.out tj p _ _ w' sv hlenj hwj hDj (inner_ok HNO.out hE hah j) (hL4.st.below hB) ?_⟩
              have e : Ck.inner x j env = env := by unfold Ck.inner; rw [if_neg (by rw [h80.1]; decide), if_neg (by rw [h80.1]; decide), if_neg (by rw [h80.2]; simp)]
              rw [e]
              exact HSV.out.next (hL4.two.below hB)
            · refine ⟨iv, .inr ⟨h80, rfl⟩, fun w' hB => HIH.out tj p _ _ w' iv hlenj hwj hDj (inner_ok HNO.out hE hah j) (hL4.st.below hB) ?_⟩
              have e : Ck.inner x j env = Ck.inner x 1 env := by
                unfold Ck.inner
                by_cases h8 : x.kind = 8
                · have hj1 : j = 1 := by
                    have hk2 : (ks.length : Int) = 2 := by
                      have h1 := HNO.out.kids (by have := HNO.out.kind; omega)
                      have h2 : κ = 8 := by have := HNO.out.kind; omega
                      subst h2
                      exact hNk.symm.trans h1
                    have : j ≠ 0 := fun h => h80 ⟨h8, h⟩
                    omega
                  rw [hj1]
                · simp [h8]
              rw [e]
              exact HSI.out.next (hL4.two2.below hB)
          have HC := kid1_any B w4 cb tb p (w1.heap.size + 2) w1.heap.size (w1.heap.size + 1) (w1.heap.size + 3) j nv sv iv pv l x.kind (ckT (Ck.inner x j env) tj p) b2 b0 b1 b6 (by omega) hpv hP
          rw [hz1] at HC
          have c2 : wr.cell? ⟨cb, 2, none⟩ = some (.int .i64 (p : Int)) := hLp.st.nxt
          obtain ⟨u0, hu0⟩ := hLp.row j hj
          have uz := hLp.rz
          have HR2 := HR.out
          rw [hdj] at HR2
          clear hP hpv b0 b1 b2 b6
          cases hr : ckT (Ck.inner x j env) tj p with
          | ok a =>
            rw [addR_ok hr] at HR2
            have hlen := len_T _ _ _ _ hr
            obtain ⟨a0, a', rfl⟩ := ckT_pos hr
            rw [hr] at HC
            have HR3 : Aside _ := HR2
            have HLN : Aside (∀ e w5, PEnd B w4 cb tb nv l p (.ok (a0 :: a')) e w5 → Lp B w w1 w2 w5 cb tb w2.heap.size i κ (p + (a0 :: a').length) ks.length nv sv iv l x (rs ++ [(p, a0 :: a')])) := fun e w5 h5 => hL4.step (by rw [hrj]; exact hK4) hp h5
            have HD3 : Aside (l.drop (p + (a0 :: a').length) = flats (ks.drop (j + 1)) ++ rest) := by
              show _ = _
              rw [hlen, ← List.drop_drop, hDj, List.drop_left]
            have HLEN : Aside ((a0 :: a').length = (flat tj).length) := hlen
            clear HR2 HR HD hDj hL4 hK4 hLp hLp0 hr hlen hdj htj hwj hlenj
            go_upto_region 11 with fail
            rw [← hw4]
            clear hw4 hu0 uz c2
            go_wp2_with fail
            refine HC.mono ?_
            intro e w5 h5
            have hLn := HLN.out e w5 h5
            obtain ⟨-, ⟨q, rfl⟩, -⟩ := h5
            have HLn : Aside (∀ o, Lp B w w1 w2 (w5.alloc o) cb tb w2.heap.size i κ (p + (a0 :: a').length) ks.length nv sv iv l x (rs ++ [(p, a0 :: a')])) := fun o => hLn.below ((Below.refl _ _).alloc (Nat.le_refl _) o)
            clear HC HLN hLn
            unfold rf
            go_wp2_with fail
            go_roundg (gk - 1)
            case measure => omega
            case rel => exact ⟨j + 1, _, _, by omega, by go_num, HLn.out _, by simp [hrj], (by show _ = _; rw [HR3.out, HLEN.out]), HD3⟩
          | error q =>
            obtain ⟨q1, q2⟩ := q
            rw [addR_err hr] at HR2
            rw [hr] at HC
            have hres4 := hL4.res
            have HF : Aside (∀ e w5, PEnd B w4 cb tb nv l p (.error (q1, q2)) e w5 → (w5.cell? ⟨w.heap.size, 0, none⟩ = some (.int .i64 0) ∧ w5.cell? ⟨w.heap.size, 1, none⟩ = some (.int .i64 0)) ∧ (∀ z, w5.frozen? ⟨w.heap.size, z, none⟩ = false) ∧ w.heap.size < w5.heap.size ∧ ∀ o y z, Q (.returned (.agg #[.int .i64 q1, .int .i64 q2])) (((w5.setCell ⟨w.heap.size, 0, none⟩ y).setCell ⟨w.heap.size, 1, none⟩ z).alloc o)) := fun e w5 h5 => by
              have k1 := (h5.1.block w.heap.size (by omega) (by omega) (by omega)).trans hres4
              refine ⟨⟨(block_cells k1).1 0, (block_cells k1).1 1⟩, (block_cells k1).2, by have := h5.1.size; omega, fun o y z => ?_⟩
              rw [HQ.out]
              have he : ckT env (.nd x ks) i = .error (q1, q2) := by simp only [ckT]; rw [if_neg (by rw [hah]; simp), HR2]
              rw [he]
              exact ⟨((hL4.two.trans h5.1).res y z).below ((Below.refl _ _).alloc (Nat.le_refl _) o), h5.2.1, rfl⟩
            clear HR2 HR HD hDj hL4 hK4 hLp hLp0 hr hdj htj hwj hlenj hres4
            go_upto_region 11 with fail
            rw [← hw4]
            clear hw4 hu0 uz c2
            go_wp2_with fail
            refine HC.mono ?_
            intro e w5 h5
            obtain ⟨⟨m0, m1⟩, mz, hlt5, hf⟩ := HF.out e w5 h5
            obtain ⟨-, hq0, rfl⟩ := h5
            have hq1 : (q1 != 0) = true := by simpa using hq0
            have HF2 : Aside _ := hf
            clear HC HF hf
            unfold rf
            simp only
            go_wp2_with fail
            try simp only [Exit.inBlock, Exit.then]
            refine bodyPost_ret (v := .agg #[.int .i64 q1, .int .i64 q2]) (by simp [results, Tryd.results21, go_sem, m0, m1, hlt5, Nat.ne_of_lt hlt5]) rfl ?_
            exact HF2.out _ _ _
        · have hj' : ¬ (j : Int) < (ks.length : Int) := by omega
          have HR2 := HR.out
          rw [List.drop_eq_nil_of_le (by omega), addR_end] at HR2
          have hjm : rs.length = ks.length := by omega
          have HRu := rule_any wr cb tb l.length i nv (.slice (some ⟨w2.heap.size, 0, none⟩) ks.length ks.length) sv l x κ env (rs.map fun r => (r.1, r.2.headD .tq)) HNO.out hx (by rw [List.length_map, hjm]; exact hNk) hLp.st.nod hLp.st.typ (hLp.kds hjm hkl) hLp.st.g (HSV.out.next hLp.two) (hss x hxm) hil hLp.ty
          have hLp5 : ∀ w5, Below wr.heap.size wr w5 → Lp B w w1 w2 w5 cb tb w2.heap.size i κ p ks.length nv sv iv l x rs := fun w5 h => hLp.below h
          have HL5 : Aside _ := hLp5
          have HR3 : Aside _ := HR2
          clear hLp hLp0 hLp5 HR2 HR HD
          go_wp2_with fail
          refine HRu.mono ?_
          rintro e w5 ⟨hans, hB5⟩
          obtain ⟨s, c, q, rfl⟩ := hans.form
          have hL5 := HL5.out w5 hB5
          obtain ⟨s0, t0⟩ := hL5.st.str i hil
          have tz := hL5.st.tz
          have ty : w5.cell? ⟨cb, 1, none⟩ = some (.slice (some ⟨tb, 0, none⟩) l.length l.length) := hL5.st.typ
          have m0 : w5.cell? ⟨w.heap.size, 0, none⟩ = some (.int .i64 0) := (block_cells hL5.res).1 0
          have m1 : w5.cell? ⟨w.heap.size, 1, none⟩ = some (.int .i64 0) := (block_cells hL5.res).1 1
          have mz := (block_cells hL5.res).2
          have hl5 := hL5.lt
          have hs5 := hL5.st.lt
          have hi' : (i : Int) < (l.length : Int) := by omega
          have ht5 : tb < w5.heap.size := by omega
          have hc5 : cb < w5.heap.size := by omega
          have hr5 : w.heap.size < w5.heap.size := by omega
          have hne5 : ¬ tb = w.heap.size := by omega
          have HA : Aside _ := hans
          have HL : Aside _ := hL5
          clear HRu hB5 hL5 hans
          have HFIN : Aside (∀ o, Q (.returned (.agg #[.int .i64 c, .int .i64 q])) ((((w5.setCell ⟨tb, i, none⟩ (.string s)).setCell ⟨w.heap.size, 0, none⟩ (.int .i64 c)).setCell ⟨w.heap.size, 1, none⟩ (.int .i64 q)).alloc o)) := fun o => by
            have hf := HL.out.fin hil HA.out (fun t ht => rule_len HNO.out hE (fun k hk => by
              obtain ⟨r, hr, rfl⟩ := List.mem_map.1 hk
              obtain ⟨n', hn'⟩ := List.getElem?_of_mem hr
              exact (HL.out.did n' r hn').2.2.2.1) hah ht) o
            rw [HQ.out]
            have he : ckT env (.nd x ks) i = finR (Ck.rule env x i (rs.map fun r => (r.1, r.2.headD .tq))) (rs.map Prod.snd).flatten := by
              simp only [ckT]; rw [if_neg (by rw [hah]; simp), HR3.out]
              unfold finR
              dsimp only
              cases Ck.rule env x i (rs.map fun r => (r.1, r.2.headD .tq)) <;> rfl
            rw [he]
            exact hf
          clear HL HA HL5 HR3 HQ
          go_wp2_with fail
          try simp only [Exit.inBlock, Exit.then]
          refine bodyPost_ret (v := .agg #[.int .i64 c, .int .i64 q]) (by simp [results, Tryd.results21, go_sem, m0, m1, hr5, hne5, Nat.ne_of_lt hr5]) rfl ?_
          exact HFIN.out _
end Go.Proofs.YthdlfeejeboboaaDoor
namespace Go.Proofs.YthdlfeejeboboaaDoor
open Go.RowKit Go.Maps
open Go.WideMaps Go.WideElems
set_option maxRecDepth 100000
set_option linter.unusedSimpArgs false

namespace Tr
theorem flats_len : ∀ ts : List T, ts.length ≤ (flats ts).length
  | [] => by simp
  | t :: r => by have := flats_len r; have := flat_pos t; simp [flats]; omega
theorem binds_len (x : Nd) (j : Nat) : (binds x j).length ≤ 2 := by
  unfold binds
  split
  · simp
  · split
    · simp
    · split <;> simp
theorem binds_name {x : Nd} (hm : mayB x = true) (j : Nat) : ∀ n ∈ binds x j, n.length ≤ 32 := by
  intro n hn
  have hs := mayB_s hm
  unfold sB at hs
  unfold binds at hn
  split at hn
  · rename_i h; rw [h] at hs; simp at hn; subst hn; exact name_len hs
  · split at hn
    · rename_i h; rw [h] at hs
      have hs' : (nameB (cut32 (nm x)).1 && nameB (cut32 (nm x)).2.1) = true := hs
      simp only [Bool.and_eq_true] at hs'
      simp at hn
      rcases hn with rfl | rfl
      · exact name_len hs'.1
      · exact name_len hs'.2
    · split at hn
      · rename_i h; rw [h.1] at hs; simp at hn; subst hn; exact name_len hs
      · simp at hn
theorem let_kids {x : Nd} (hm : mayB x = true) (h : x.kind = 8) : x.kids = 2 := by
  have hf : fitB x = true := by
    unfold mayB at hm
    simp only [Bool.and_eq_true] at hm
    exact hm.1.1.1.1
  unfold fitB at hf
  rw [h] at hf
  have hf' : (true && x.kids == 2) = true := hf
  simpa using hf'
theorem count_take {ls : List (List UInt8)} {i : Nat} {u : List UInt8} (h : ls[i]? = some u) (b : List (List UInt8)) (n : List UInt8) :
    (ls.take (i + 1) ++ b).count n = if n = u then (ls.take i ++ b).count u + 1 else (ls.take i ++ b).count n := by
  rw [List.take_add_one, h]
  by_cases e : n = u
  · subst e; simp [List.count_append]; omega
  · simp [List.count_append, e, List.count_cons]; intro h2; exact absurd h2.symm e
theorem count_drop {ls : List (List UInt8)} {i : Nat} {u : List UInt8} (h : ls[i]? = some u) (b : List (List UInt8)) (n : List UInt8) :
    0 < (ls.drop i ++ b).count u ∧ (ls.drop (i + 1) ++ b).count n = if n = u then (ls.drop i ++ b).count u - 1 else (ls.drop i ++ b).count n := by
  obtain ⟨hi, he⟩ := List.getElem?_eq_some_iff.1 h
  have hd := List.drop_eq_getElem_cons hi
  rw [he] at hd
  rw [hd]
  clear hd he hi h
  generalize ls.drop (i + 1) = d
  constructor
  · simp
  · by_cases e : n = u
    · subst e; simp [List.count_append]
    · simp [List.count_append, e, List.count_cons]; intro h2; exact absurd h2.symm e
end Tr

theorem IsTexts.below {w w' : World} {v : Value} {ps : List (List UInt8)} (h : IsTexts w v ps) (hB : Below w.heap.size w w') : IsTexts w' v ps := by
  rcases h with h | ⟨b, o, c, rfl, h1, h2, h3⟩
  · exact .inl h
  · exact .inr ⟨b, o, c, rfl, h1, Nat.lt_of_lt_of_le h2 hB.size, fun j p hp => (hB.cell (p := ⟨b, o + j, none⟩) h2).trans (h3 j p hp)⟩

/-- A list of texts that lies apart from the finder. -/
def Tx3 (w : World) (nv : Value) (ps : List (List UInt8)) (fb bm tm : Nat) (fv : Value) : Prop :=
  IsTexts w nv ps ∧ (ps ≠ [] → ∃ b o n c, nv = .slice (some ⟨b, o, none⟩) n c ∧ b < w.heap.size ∧ b ≠ fb ∧ b ≠ bm ∧ b ≠ tm ∧ some b ≠ fv.ownBlock)
theorem Tx3.kf {w w' : World} {nv : Value} {ps : List (List UInt8)} {fb bm tm : Nat} {fv fv' : Value} (h : Tx3 w nv ps fb bm tm fv) (hk : KF w w' fb bm tm fv fv') : Tx3 w' nv ps fb bm tm fv' := by
  obtain ⟨h1, h2⟩ := h
  by_cases hp : ps = []
  · subst hp
    obtain ⟨a, c, rfl⟩ := h1.form
    exact ⟨.inl ⟨rfl, _, _, rfl⟩, fun h => absurd rfl h⟩
  · obtain ⟨b, o, n, c, rfl, e1, e2, e3, e4, e5⟩ := h2 hp
    refine ⟨h1.kf hk (fun b' o' n' c' h => ?_), fun _ => ⟨b, o, n, c, rfl, Nat.lt_of_lt_of_le e1 hk.size, e2, e3, e4, ?_⟩⟩
    · simp only [Value.slice.injEq, Option.some.injEq, Addr.mk.injEq] at h
      obtain ⟨⟨rfl, _⟩, _⟩ := h
      exact ⟨e2, e3, e4, e5⟩
    · rcases hk.row with e | e
      · rw [e]; exact e5
      · intro e'; have := e b e'.symm; omega
end Go.Proofs.YthdlfeejeboboaaDoor
namespace Go.Proofs.YthdlfeejeboboaaDoor
open Go.RowKit Go.Maps
open Go.WideMaps Go.WideElems
set_option maxRecDepth 100000
set_option linter.unusedSimpArgs false

/-- A list that Check takes is a tree. -/
theorem chk_tree {l : List Tr.Nd} (h : (chkN l).1 = 0) : ∃ t, Tr.wf t ∧ l = Tr.flat t ∧ (∀ x ∈ l, Tr.mayB x = true) ∧ l.length ≤ 4096 ∧ Tr.high t ≤ 64 := by
  by_cases hm : l.length = 0 ∨ 4096 < l.length
  · rw [chkN_many hm] at h; simp at h
  rw [chkN_ck hm] at h
  have hr := Tr.ck_ref Tr.mayB (fun x hx => Tr.mayB_kids hx) l [1] 0 0 (by simp)
  rw [hr] at h
  split at h
  · simp at h
  · rename_i hbad
    obtain ⟨hmay, _⟩ := Tr.bad_end hbad
    split at h
    · rename_i hgo
      rw [Tr.go_gs] at hgo
      obtain ⟨t, hw, he⟩ := Tr.whole (l := l) (by simpa [Tr.kd] using hgo)
      refine ⟨t, hw, he, hmay, by omega, ?_⟩
      have hd := Tr.dps_flat t [] 0 [] hw
      rw [List.append_nil, ← he] at hd
      have hdd : Tr.dps (l.map (·.kids)) [1] = Tr.dpT 1 t := by
        have h0 : Tr.dps [] [0] = [] := rfl
        simpa [h0, Tr.kd] using hd
      rw [hdd] at h
      cases hde : Tr.deep (Tr.dpT 1 t) 0 with
      | some j => rw [hde] at h; simp [Tr.fin2] at h
      | none =>
        have key : ∀ (ds : List Nat) (i a : Nat), Tr.deep ds i = none → a ≤ 64 → Tr.mx ds a ≤ 64 := by
          intro ds
          induction ds with
          | nil => intro i a _ ha; exact ha
          | cons d ds ih =>
            intro i a hd ha
            rw [Tr.deep] at hd
            split at hd
            · simp at hd
            · rw [Tr.mx]; exact ih _ _ hd (by omega)
        have := key _ 0 0 hde (by omega)
        rw [Tr.mx_dpT] at this
        omega
    · simp at h

theorem own_mono {w : World} {base base' e size n : Nat} {v : Value} {xs : List Value} (h : w.ownsRow base e size v n xs) (hb : base' ≤ base) : w.ownsRow base' e size v n xs := by
  obtain ⟨h1, h2 | ⟨g, cap, cur, h2, h3, r⟩⟩ := h
  · exact ⟨h1, .inl h2⟩
  · exact ⟨h1, .inr ⟨g, cap, cur, h2, Nat.le_trans hb h3, r⟩⟩
/-- The free names of a list, as the program tells them. -/
def freeN (l : List Tr.Nd) (ns : List (List UInt8)) : Prop := ((chkN l).1 ≠ 0 ∧ ns = []) ∨ ∃ t, (chkN l).1 = 0 ∧ Tr.wf t ∧ l = Tr.flat t ∧ ns = Tr.free t

end Go.Proofs.YthdlfeejeboboaaDoor
