/- Package check: part. The document's checker: inner. -/
import Derived.Test.YthihnkgjkmaplaaGreatDoorUav
import Derived.Deep.OwnRows
import Derived.Test.YthihnkgjkmaplaaGreatDoorUay
namespace Go.Proofs.YthihnkgjkmaplaaGreatDoor
open Go.RowKit Ck
open T3.Tp (Ty enc cns met)
open Tr (flat flats)
set_option maxRecDepth 100000
set_option linter.unusedSimpArgs false

/-- The next node is one on. -/
theorem St.bump {B : Nat} {w w1 : World} {cb tb i : Nat} {nv : Value} {l : List Tr.Nd} {o : Obj} (h : St B w cb tb nv l i) (hw : w1 = (w.alloc o).setCell ⟨cb, 2, none⟩ (.int .i64 ((i : Int) + 1))) : St B w1 cb tb nv l (i + 1) ∧ Two cb tb w w1 ∧ (∀ k, w1.cell? ⟨tb, k, none⟩ = w.cell? ⟨tb, k, none⟩) ∧ w1.heap.size = w.heap.size + 1 ∧ (∀ k, k ≠ cb → w1.heap[k]? = (w.alloc o).heap[k]?) := by
  have hl := h.lt
  have hA : Below w.heap.size w (w.alloc o) := (Below.refl _ _).alloc (Nat.le_refl _) o
  have hne : ∀ k, k ≠ cb → w1.heap[k]? = (w.alloc o).heap[k]? := fun k hk => by rw [hw]; exact Below.heap_setCell _ _ _ _ hk
  have hb : ∀ k, k ≠ cb → k < w.heap.size → w1.heap[k]? = w.heap[k]? := fun k hk hk2 => (hne k hk).trans (hA.block k hk2)
  have hz : w1.heap.size = w.heap.size + 1 := by rw [hw]; simp [World.setCell]
  have hc0 : ∀ q, (w.alloc o).cell? ⟨cb, q, none⟩ = w.cell? ⟨cb, q, none⟩ := fun q => hA.cell (p := ⟨cb, q, none⟩) (by show cb < _; omega)
  have hcq : ∀ q, q ≠ 2 → w1.cell? ⟨cb, q, none⟩ = w.cell? ⟨cb, q, none⟩ := fun q hq => by rw [hw]; exact (World.cell?_setCell_other (w := w.alloc o) (a := ⟨cb, 2, none⟩) (b := ⟨cb, q, none⟩) (v := .int .i64 ((i : Int) + 1)) (fun e => hq (by cases e; rfl))).trans (hc0 q)
  have hc2 : w1.cell? ⟨cb, 2, none⟩ = some (.int .i64 ((i : Int) + 1)) := by rw [hw]; exact World.cell?_setCell_same (w := w.alloc o) (a := ⟨cb, 2, none⟩) (v := .int .i64 ((i : Int) + 1)) ((hc0 2).trans h.nxt)
  have hcz : ∀ q, w1.frozen? ⟨cb, q, none⟩ = false := fun q => by
    have e : (w.alloc o).frozen? ⟨cb, q, none⟩ = w.frozen? ⟨cb, q, none⟩ := by unfold World.frozen?; rw [hA.block _ (by show cb < _; omega)]
    rw [hw, ← h.cz q, ← e]; simp [go_sem]
  have htb : ∀ q, w1.cell? ⟨tb, q, none⟩ = w.cell? ⟨tb, q, none⟩ := fun q => World.cell?_of_block (hb tb (Ne.symm h.ne) (by omega))
  have h2 : Two cb tb w w1 := ⟨by rw [hw]; rfl, by rw [hw]; rfl, by rw [hw]; rfl, by omega, fun k hk a _ => hb k a hk⟩
  refine ⟨⟨⟨(hcq 0 (by decide)).trans h.nod.1, ?_⟩, (hcq 1 (by decide)).trans h.typ, by rw [hc2]; rfl, hcz, fun q => ?_, fun j hj => ?_, h.off, h.ne, h.g.two h2 h.gl.1 h.gl.2, h.gl, by omega, h.rwo.same (hb tb (Ne.symm h.ne) (by omega))⟩, h2, htb, hz, hne⟩
  · rcases h.nod.2 with ⟨h1, h2'⟩ | ⟨b, o', c, h1, h2', h3, h4⟩
    · exact .inl ⟨h1, h2'⟩
    · obtain ⟨hb1, hb2, _⟩ := h.off b o' _ c h1
      exact .inr ⟨b, o', c, h1, h2', by omega, fun j x hx m u hu => (h2.cell (p := ⟨b, o' + j * 8 + m, none⟩) h3 hb1 hb2).trans (h4 j x hx m u hu)⟩
  · rw [← h.tz q]; unfold World.frozen?; rw [hb tb (Ne.symm h.ne) (by omega)]
  · obtain ⟨s, hs⟩ := h.str j hj; exact ⟨s, (htb j).trans hs⟩

theorem Two.res {a b : Nat} {w W : World} (h : Two a b w W) (p q : Value) : Two a b w ((W.setCell ⟨w.heap.size, 0, none⟩ p).setCell ⟨w.heap.size, 1, none⟩ q) :=
  ⟨h.os, h.tape, h.output, by simpa [World.setCell] using h.size, fun k hk ha hb => by rw [Below.heap_setCell _ _ _ _ (by show k ≠ w.heap.size; omega), Below.heap_setCell _ _ _ _ (by show k ≠ w.heap.size; omega)]; exact h.block k hk ha hb⟩
theorem made_cell (m q : Nat) (h : q < m) : (madeCells #[.int .i64 0] m)[q]? = some (.int .i64 0) := by simp [madeCells, h, Nat.mod_one]

/-- A part's types: its node's, then its kids'. -/
def finR (R : Rs Ty) (L : List Ty) : Rs (List Ty) := match R with | .error e => .error e | .ok t => .ok (t :: L)
theorem Lp.fin {B : Nat} {w w1 w2 w5 : World} {cb tb K i κ p m : Nat} {nv sv iv : Value} {l : List Tr.Nd} {x : Tr.Nd} {rs : List (Nat × List Ty)} (h : Lp B w w1 w2 w5 cb tb K i κ p m nv sv iv l x rs) (hil : i < l.length) {R : Rs Ty} {s : ByteArray} {c q : Int} (hA : Ans R (.returned (.tuple #[.string s, .agg #[.int .i64 c, .int .i64 q]]))) (h64 : ∀ t, R = .ok t → (enc t).length ≤ 64) (o : Obj) :
    PEnd B w cb tb nv l i (finR R (rs.map Prod.snd).flatten) (.returned (.agg #[.int .i64 c, .int .i64 q])) ((((w5.setCell ⟨tb, i, none⟩ (.string s)).setCell ⟨w.heap.size, 0, none⟩ (.int .i64 c)).setCell ⟨w.heap.size, 1, none⟩ (.int .i64 q)).alloc o) := by
  have hl := h.lt
  have hs := h.st.lt
  have hT : Two cb tb w (w5.setCell ⟨tb, i, none⟩ (.string s)) := h.two.setB _ _
  have hT2 : Two cb tb w ((((w5.setCell ⟨tb, i, none⟩ (.string s)).setCell ⟨w.heap.size, 0, none⟩ (.int .i64 c)).setCell ⟨w.heap.size, 1, none⟩ (.int .i64 q)).alloc o) := (hT.res _ _).below ((Below.refl _ _).alloc (Nat.le_refl _) o)
  refine ⟨hT2, ?_⟩
  cases R with
  | error e =>
    obtain ⟨he, s', hs'⟩ := hA
    simp [rf] at hs'
    obtain ⟨-, rfl, rfl⟩ := hs'
    exact ⟨he, rfl⟩
  | ok t =>
    obtain ⟨p', hp'⟩ := hA
    simp [rf] at hp'
    obtain ⟨rfl, rfl, rfl⟩ := hp'
    obtain ⟨s0, hs0⟩ := h.st.str i hil
    have hci : (w5.setCell ⟨tb, i, none⟩ (.string (S (enc t)))).cell? ⟨tb, i, none⟩ = some (.string (S (enc t))) := World.cell?_setCell_same (w := w5) (a := ⟨tb, i, none⟩) (v := .string (S (enc t))) hs0
    have hco : ∀ k, k ≠ i → (w5.setCell ⟨tb, i, none⟩ (.string (S (enc t)))).cell? ⟨tb, k, none⟩ = w5.cell? ⟨tb, k, none⟩ := fun k hk => World.cell?_setCell_other (w := w5) (a := ⟨tb, i, none⟩) (b := ⟨tb, k, none⟩) (v := .string (S (enc t))) (fun e => hk (by cases e; rfl))
    have hKt : Kt w5 (w5.setCell ⟨tb, i, none⟩ (.string (S (enc t)))) cb tb i 5 t := ⟨(Two.refl cb tb w5).setB _ _, Below.heap_setCell _ _ _ _ h.st.ne, fun _ => hci, fun h' => absurd (.inl rfl) h', hco, fun z => by simp [go_sem], fun n hn => hn.set _ _⟩
    have hSA := (h.st.kt hKt).keep (two_set2 _ w.heap.size (.int .i64 0) (.int .i64 q)) hl.1 hl.1
    have hSF := hSA.below ((Below.refl _ _).alloc (Nat.le_refl _) o)
    have hcell : ∀ k, ((((w5.setCell ⟨tb, i, none⟩ (.string (S (enc t)))).setCell ⟨w.heap.size, 0, none⟩ (.int .i64 0)).setCell ⟨w.heap.size, 1, none⟩ (.int .i64 q)).alloc o).cell? ⟨tb, k, none⟩ = (w5.setCell ⟨tb, i, none⟩ (.string (S (enc t)))).cell? ⟨tb, k, none⟩ := fun k => by
      have hz : (((w5.setCell ⟨tb, i, none⟩ (.string (S (enc t)))).setCell ⟨w.heap.size, 0, none⟩ (.int .i64 0)).setCell ⟨w.heap.size, 1, none⟩ (.int .i64 q)).heap.size = w5.heap.size := by simp [World.setCell]
      refine (World.cell?_of_block (Below.heap_alloc _ _ _ (by show tb < _; omega))).trans (cell_set2 (by omega))
    have hpos := h.pos
    refine ⟨⟨_, rfl⟩, by rw [show i + (t :: (rs.map Prod.snd).flatten).length = p by rw [List.length_cons]; omega]; exact hSF, fun k u hu => ?_, fun k hk => ?_⟩
    · cases k with
      | zero => simp at hu; subst hu; exact ⟨(hcell i).trans hci, h64 _ rfl⟩
      | succ k =>
        simp only [List.getElem?_cons_succ] at hu
        have := h.tys k u hu
        rw [show i + (k + 1) = i + 1 + k by omega]
        exact ⟨(hcell _).trans ((hco _ (by omega)).trans this.1), this.2⟩
    · have hk' : k < i ∨ p ≤ k := by rcases hk with h1 | h1; exact .inl h1; exact .inr (by rw [List.length_cons] at h1; omega)
      exact (hcell k).trans ((hco k (by rcases hk' with h1 | h1 <;> omega)).trans (h.els k hk'))

set_option maxHeartbeats 8000000 in
theorem ckPart_any (B cb tb : Nat) (nv : Value) (l : List Tr.Nd) (hmay : ∀ x ∈ l, Tr.mayB x = true) (hss : ∀ x ∈ l, x.s.size ≤ maxLen) (hl4 : l.length ≤ 4096) : ∀ (N : Nat) (t : Tr.T) (i : Nat) (rest : List Tr.Nd) (env : Env) (w : World) (sv : Value), (flat t).length ≤ N → Tr.wf t → l.drop i = flat t ++ rest → EnvOk env → St B w cb tb nv l i → Scope cb tb w sv env →
    Calls Tryz.prog 25 #[.pointer (some ⟨cb, 0, none⟩), sv] w (PEnd B w cb tb nv l i (ckT env t i))
  | 0, .nd x ks, _, _, _, _, _, hN, _, _, _, _, _ => by simp [flat] at hN
  | N + 1, .nd x ks, i, rest, env, w, sv, hN, hw, hd, hE, hSt, hS => by
    have hx : l[i]? = some x := by
      have h := congrArg (fun m => m[0]?) hd
      simp only [List.getElem?_drop, flat, List.cons_append, Nat.add_zero, List.getElem?_cons_zero] at h
      exact h
    have hd1 : l.drop (i + 1) = flats ks ++ rest := by
      have h := congrArg (List.drop 1) hd
      rw [List.drop_drop] at h
      simpa [flat] using h
    have hil : i < l.length := (List.getElem?_eq_some_iff.1 hx).1
    have hxm : x ∈ l := List.mem_of_getElem? hx
    obtain ⟨κ, hN0⟩ := nod_of (hmay x hxm)
    have hlt := hSt.lt
    have hkl : ks.length ≤ 4096 := by
      have e1 := congrArg List.length hd1
      have e2 : ks.length ≤ (flats ks).length := by
        clear hN hw hd hd1 e1
        induction ks with
        | nil => simp
        | cons a r ih => simp only [flats, List.length_append, List.length_cons]; have := Tr.flat_pos a; omega
      simp at e1; omega
    have hi64 : (i : Int) < 4096 := by omega
    obtain ⟨w1, hw1⟩ : ∃ w1, w1 = (w.alloc (.cells #[.int .i64 0, .int .i64 0] 76)).setCell ⟨cb, 2, none⟩ (.int .i64 ((i : Int) + 1)) := ⟨_, rfl⟩
    obtain ⟨hSt1, hT1, htb1, hz1, hne1⟩ := hSt.bump hw1
    have hKO := kidOf_any B w1 cb tb i (i + 1) κ nv sv l x env hN0 hx hSt1 (hS.next hT1) (hss x hxm)
    have hA : ∀ o, Below w.heap.size w (w.alloc o) := fun o => (Below.refl _ _).alloc (Nat.le_refl _) o
    have e2 : ∀ o, (w.alloc o).cell? ⟨cb, 2, none⟩ = some (.int .i64 (i : Int)) := fun o => ((hA o).cell (p := ⟨cb, 2, none⟩) (by show cb < _; omega)).trans hSt.nxt
    have ez : ∀ o q, (w.alloc o).frozen? ⟨cb, q, none⟩ = false := fun o q => by rw [← hSt.cz q]; unfold World.frozen?; rw [(hA o).block _ (by show cb < _; omega)]
    obtain ⟨Q, hQ⟩ : ∃ Q, Q = PEnd B w cb tb nv l i (ckT env (.nd x ks) i) := ⟨_, rfl⟩
    rw [← hQ]
    have HQ : Aside _ := hQ
    have hres1 : w1.heap[w.heap.size]? = some (.cells #[.int .i64 0, .int .i64 0] 76) := (hne1 _ (by omega)).trans (heap_alloc_new _ _)
    clear hQ hA
    go_enter Tryz.func25, Tryz.ntmps25
    go_upto_region 3 with fail
    rw [← hw1]
    clear hw1 e2 ez
    have hNk : x.kids = (ks.length : Int) := hw.1
    have IH := fun (t' : Tr.T) (i' : Nat) (rest' : List Tr.Nd) (env' : Env) (w' : World) (sv' : Value) (h : (flat t').length ≤ N) => ckPart_any B cb tb nv l hmay hss hl4 N t' i' rest' env' w' sv' h
    have HIH : Aside _ := IH
    clear IH
    go_wp2_with fail
    refine hKO.mono ?_
    rintro e w2 (⟨hah, rfl, hB2⟩ | ⟨hah, iv, rfl, hKb, hSi, hKt⟩)
    · have k1 := (hB2.block w.heap.size (by omega)).trans hres1
      have m0 : w2.cell? ⟨w.heap.size, 0, none⟩ = some (.int .i64 0) := (block_cells k1).1 0
      have m1 : w2.cell? ⟨w.heap.size, 1, none⟩ = some (.int .i64 0) := (block_cells k1).1 1
      have mz := (block_cells k1).2
      have HF : Aside (∀ p q, Q (.returned (.agg #[.int .i64 21, .int .i64 (i : Int)])) ((w2.setCell ⟨w.heap.size, 0, none⟩ p).setCell ⟨w.heap.size, 1, none⟩ q)) := fun p q => by
        rw [HQ.out]
        have he : ckT env (.nd x ks) i = .error (21, i) := by simp [ckT, hah]
        rw [he]
        exact ⟨(hT1.below hB2).res p q, by simp, rfl⟩
      clear hKO HQ HIH k1 hB2 hres1
      go_wp2_with fail
      try simp only [Exit.inBlock, Exit.then]
      refine bodyPost_ret (v := .agg #[.int .i64 21, .int .i64 i]) (by simp [results, Tryz.results25, go_sem, m0, m1]) rfl ?_
      exact HF.out _ _
    · have hSt2 := hSt1.kt hKt
      have hl2 := hSt2.lt
      have hzb := hKb.size
      obtain ⟨nb, no, nc, hnv, hnb, hnd⟩ := hSt2.nod.at hx
      have n0 : w2.cell? ⟨cb, 0, none⟩ = some (.slice (some ⟨nb, no, none⟩) l.length nc) := by rw [← hnv]; exact hSt2.nod.1
      have kidc : w2.cell? ⟨nb, no + i * 8 + 1, none⟩ = some (.int .i64 (ks.length : Int)) := by rw [← hNk]; exact hnd 1 _ rfl
      have hil' : (i : Int) < (l.length : Int) := by omega
      have hmk := run_make_row' (P := Tryz.prog) 93 3 (.int .i64 0) 8 tyInts info3 rfl .i64 .i64 ks.length (by omega) (by omega)
      obtain ⟨w3, hw3⟩ : ∃ w3, w3 = w2.alloc (.cells (madeCells #[.int .i64 0] ks.length) 3) := ⟨_, rfl⟩
      have hB3 : Below w2.heap.size w2 w3 := by rw [hw3]; exact (Below.refl _ _).alloc (Nat.le_refl _) _
      have hz3 : w3.heap.size = w2.heap.size + 1 := by rw [hw3]; simp
      have b3 : w3.heap[w2.heap.size]? = some (.cells (madeCells #[.int .i64 0] ks.length) 3) := by rw [hw3]; exact heap_alloc_new _ _
      have hLp0 : Lp B w w1 w2 w3 cb tb w2.heap.size i κ (i + 1) ks.length nv sv iv l x [] := by
        have hT3 : ∀ o, w3.cell? ⟨tb, o, none⟩ = w2.cell? ⟨tb, o, none⟩ := fun o => hB3.cell (p := ⟨tb, o, none⟩) (by show tb < _; omega)
        refine ⟨hSt2.below hB3, (hT1.trans hKt.two).below hB3, below_two hB3 cb tb, hKb.later hB3, (hB3.block _ (by omega)).trans ((hKt.two.block _ (by omega) (by omega) (by omega)).trans hres1), fun q hq => ⟨0, by rw [(block_cells b3).1 q]; exact made_cell _ q hq⟩, (block_cells b3).2, fun q r hr => by simp at hr, fun q t ht => by simp at ht, by simp, fun h => (hT3 i).trans (hKt.ty h), fun k hk => ?_, by omega⟩
        exact (hT3 k).trans ((hKt.else' k (by omega)).trans (htb1 k))
      have HSI : Aside (Scope cb tb w2 iv (Ck.inner x 1 env)) := hSi
      have HSV : Aside (Scope cb tb w sv env) := hS
      have HNO : Aside (Nod x κ) := hN0
      go_wp2_with fail
      rw [← hw3]
      clear hw3 hB3 b3 hnd hSt1 hSt2 hSt hKO hKt hKb hSi hS n0 kidc hmk hnb hres1 htb1 hne1 hT1 hN0
      go_loopg [47] ks.length (fun g tt wv => ∃ (j p : Nat) (rs : List (Nat × List Ty)), j + g = ks.length ∧ tt = .int .i64 (j : Int) ∧ Lp B w w1 w2 wv cb tb w2.heap.size i κ p ks.length nv sv iv l x rs ∧ rs.length = j ∧ Aside (ckL env x 0 ks (i + 1) = addR rs (ckL env x j (ks.drop j) p)) ∧ Aside (l.drop p = flats (ks.drop j) ++ rest))
      case atStart => exact ⟨0, i + 1, [], by omega, rfl, hLp0, rfl, (by show _ = _; rw [addR_nil]; rfl), hd1⟩
      case round =>
        obtain ⟨j, p, rs, hjg, rfl, hLp, hrj, HR, HD⟩ := hrel
        have hlp := hLp.lt
        have hstl := hLp.st.lt
        by_cases hj : j < ks.length
        · have hj' : (j : Int) < (ks.length : Int) := by omega
          obtain ⟨tj, htj⟩ : ∃ tj, ks[j]? = some tj := ⟨_, List.getElem?_eq_getElem hj⟩
          have hdj : ks.drop j = tj :: ks.drop (j + 1) := by
            rw [List.drop_eq_getElem_cons hj, (List.getElem?_eq_some_iff.1 htj).2]
          have hwj : Tr.wf tj := by
            have h := hw.2
            rw [← List.take_append_drop j ks, hdj] at h
            exact ((Tr.wfs_append _ _).1 h).2.1
          have hDj := HD.out
          rw [hdj] at hDj
          simp only [flats, List.append_assoc] at hDj
          have hp : p < l.length := by
            have e := congrArg List.length hDj
            have := Tr.flat_pos tj
            simp at e; omega
          have hlenj : (flat tj).length ≤ N := by
            have e : (flats ks).length = (flats (ks.take j)).length + ((flat tj).length + (flats (ks.drop (j + 1))).length) := by
              conv => lhs; rw [← List.take_append_drop j ks, hdj, Tr.flats_append]
              simp [flats]
            simp [flat] at hN; omega
          obtain ⟨w4, hw4⟩ : ∃ w4, w4 = wr.setCell ⟨w2.heap.size, j, none⟩ (.int .i64 (p : Int)) := ⟨_, rfl⟩
          obtain ⟨hL4, hK4⟩ := hLp.put (w3 := w4) (by omega) (by rw [hrj]; exact hw4)
          rw [hrj] at hK4
          obtain ⟨b0, b1, b2, -, -, -, b6, -⟩ := hL4.kb.cells
          have hl4' := hL4.lt
          obtain ⟨pv, hpv, hP⟩ : ∃ pv, ((x.kind = 8 ∧ j = 0 ∧ pv = sv) ∨ (¬ (x.kind = 8 ∧ j = 0) ∧ pv = iv)) ∧ ∀ w', Below w4.heap.size w4 w' → Calls Tryz.prog 25 #[.pointer (some ⟨cb, 0, none⟩), pv] w' (PEnd B w' cb tb nv l p (ckT (Ck.inner x j env) tj p)) := by
            by_cases h80 : x.kind = 8 ∧ j = 0
            · refine ⟨sv, .inl ⟨h80.1, h80.2, rfl⟩, fun w' hB => HIH.out tj p _ _ w' sv hlenj hwj hDj (inner_ok HNO.out hE hah j) (hL4.st.below hB) ?_⟩
              have e : Ck.inner x j env = env := by unfold Ck.inner; rw [if_neg (by rw [h80.1]; decide), if_neg (by rw [h80.1]; decide), if_neg (by rw [h80.2]; simp)]
              rw [e]
              exact HSV.out.next (hL4.two.below hB)
            · refine ⟨iv, .inr ⟨h80, rfl⟩, fun w' hB => HIH.out tj p _ _ w' iv hlenj hwj hDj (inner_ok HNO.out hE hah j) (hL4.st.below hB) ?_⟩
              have e : Ck.inner x j env = Ck.inner x 1 env := by
                unfold Ck.inner
                by_cases h8 : x.kind = 8
                · have hj1 : j = 1 := by
                    have hk2 : (ks.length : Int) = 2 := by
                      have h1 := HNO.out.kids (by have := HNO.out.kind; omega)
                      have h2 : κ = 8 := by have := HNO.out.kind; omega
                      subst h2
                      exact hNk.symm.trans h1
                    have : j ≠ 0 := fun h => h80 ⟨h8, h⟩
                    omega
                  rw [hj1]
                · simp [h8]
              rw [e]
              exact HSI.out.next (hL4.two2.below hB)
          have HC := kid1_any B w4 cb tb p (w1.heap.size + 2) w1.heap.size (w1.heap.size + 1) (w1.heap.size + 3) j nv sv iv pv l x.kind (ckT (Ck.inner x j env) tj p) b2 b0 b1 b6 (by omega) hpv hP
          rw [hz1] at HC
          have c2 : wr.cell? ⟨cb, 2, none⟩ = some (.int .i64 (p : Int)) := hLp.st.nxt
          obtain ⟨u0, hu0⟩ := hLp.row j hj
          have uz := hLp.rz
          have HR2 := HR.out
          rw [hdj] at HR2
          clear hP hpv b0 b1 b2 b6
          cases hr : ckT (Ck.inner x j env) tj p with
          | ok a =>
            rw [addR_ok hr] at HR2
            have hlen := len_T _ _ _ _ hr
            obtain ⟨a0, a', rfl⟩ := ckT_pos hr
            rw [hr] at HC
            have HR3 : Aside _ := HR2
            have HLN : Aside (∀ e w5, PEnd B w4 cb tb nv l p (.ok (a0 :: a')) e w5 → Lp B w w1 w2 w5 cb tb w2.heap.size i κ (p + (a0 :: a').length) ks.length nv sv iv l x (rs ++ [(p, a0 :: a')])) := fun e w5 h5 => hL4.step (by rw [hrj]; exact hK4) hp h5
            have HD3 : Aside (l.drop (p + (a0 :: a').length) = flats (ks.drop (j + 1)) ++ rest) := by
              show _ = _
              rw [hlen, ← List.drop_drop, hDj, List.drop_left]
            have HLEN : Aside ((a0 :: a').length = (flat tj).length) := hlen
            clear HR2 HR HD hDj hL4 hK4 hLp hLp0 hr hlen hdj htj hwj hlenj
            go_upto_region 11 with fail
            rw [← hw4]
            clear hw4 hu0 uz c2
            go_wp2_with fail
            refine HC.mono ?_
            intro e w5 h5
            have hLn := HLN.out e w5 h5
            obtain ⟨-, ⟨q, rfl⟩, -⟩ := h5
            have HLn : Aside (∀ o, Lp B w w1 w2 (w5.alloc o) cb tb w2.heap.size i κ (p + (a0 :: a').length) ks.length nv sv iv l x (rs ++ [(p, a0 :: a')])) := fun o => hLn.below ((Below.refl _ _).alloc (Nat.le_refl _) o)
            clear HC HLN hLn
            unfold rf
            go_wp2_with fail
            go_roundg (gk - 1)
            case measure => omega
            case rel => exact ⟨j + 1, _, _, by omega, by go_num, HLn.out _, by simp [hrj], (by show _ = _; rw [HR3.out, HLEN.out]), HD3⟩
          | error q =>
            obtain ⟨q1, q2⟩ := q
            rw [addR_err hr] at HR2
            rw [hr] at HC
            have hres4 := hL4.res
            have HF : Aside (∀ e w5, PEnd B w4 cb tb nv l p (.error (q1, q2)) e w5 → (w5.cell? ⟨w.heap.size, 0, none⟩ = some (.int .i64 0) ∧ w5.cell? ⟨w.heap.size, 1, none⟩ = some (.int .i64 0)) ∧ (∀ z, w5.frozen? ⟨w.heap.size, z, none⟩ = false) ∧ w.heap.size < w5.heap.size ∧ ∀ o y z, Q (.returned (.agg #[.int .i64 q1, .int .i64 q2])) (((w5.setCell ⟨w.heap.size, 0, none⟩ y).setCell ⟨w.heap.size, 1, none⟩ z).alloc o)) := fun e w5 h5 => by
              have k1 := (h5.1.block w.heap.size (by omega) (by omega) (by omega)).trans hres4
              refine ⟨⟨(block_cells k1).1 0, (block_cells k1).1 1⟩, (block_cells k1).2, by have := h5.1.size; omega, fun o y z => ?_⟩
              rw [HQ.out]
              have he : ckT env (.nd x ks) i = .error (q1, q2) := by simp only [ckT]; rw [if_neg (by rw [hah]; simp), HR2]
              rw [he]
              exact ⟨((hL4.two.trans h5.1).res y z).below ((Below.refl _ _).alloc (Nat.le_refl _) o), h5.2.1, rfl⟩
            clear HR2 HR HD hDj hL4 hK4 hLp hLp0 hr hdj htj hwj hlenj hres4
            go_upto_region 11 with fail
            rw [← hw4]
            clear hw4 hu0 uz c2
            go_wp2_with fail
            refine HC.mono ?_
            intro e w5 h5
            obtain ⟨⟨m0, m1⟩, mz, hlt5, hf⟩ := HF.out e w5 h5
            obtain ⟨-, hq0, rfl⟩ := h5
            have hq1 : (q1 != 0) = true := by simpa using hq0
            have HF2 : Aside _ := hf
            clear HC HF hf
            unfold rf
            simp only
            go_wp2_with fail
            try simp only [Exit.inBlock, Exit.then]
            refine bodyPost_ret (v := .agg #[.int .i64 q1, .int .i64 q2]) (by simp [results, Tryz.results25, go_sem, m0, m1, hlt5, Nat.ne_of_lt hlt5]) rfl ?_
            exact HF2.out _ _ _
        · have hj' : ¬ (j : Int) < (ks.length : Int) := by omega
          have HR2 := HR.out
          rw [List.drop_eq_nil_of_le (by omega), addR_end] at HR2
          have hjm : rs.length = ks.length := by omega
          have HRu := rule_any wr cb tb l.length i nv (.slice (some ⟨w2.heap.size, 0, none⟩) ks.length ks.length) sv l x κ env (rs.map fun r => (r.1, r.2.headD .tq)) HNO.out hx (by rw [List.length_map, hjm]; exact hNk) hLp.st.nod hLp.st.typ (hLp.kds hjm hkl) hLp.st.g (HSV.out.next hLp.two) (hss x hxm) hil hLp.ty
          have hLp5 : ∀ w5, Below wr.heap.size wr w5 → Lp B w w1 w2 w5 cb tb w2.heap.size i κ p ks.length nv sv iv l x rs := fun w5 h => hLp.below h
          have HL5 : Aside _ := hLp5
          have HR3 : Aside _ := HR2
          clear hLp hLp0 hLp5 HR2 HR HD
          go_wp2_with fail
          refine HRu.mono ?_
          rintro e w5 ⟨hans, hB5⟩
          obtain ⟨s, c, q, rfl⟩ := hans.form
          have hL5 := HL5.out w5 hB5
          obtain ⟨s0, t0⟩ := hL5.st.str i hil
          have tz := hL5.st.tz
          have ty : w5.cell? ⟨cb, 1, none⟩ = some (.slice (some ⟨tb, 0, none⟩) l.length l.length) := hL5.st.typ
          have m0 : w5.cell? ⟨w.heap.size, 0, none⟩ = some (.int .i64 0) := (block_cells hL5.res).1 0
          have m1 : w5.cell? ⟨w.heap.size, 1, none⟩ = some (.int .i64 0) := (block_cells hL5.res).1 1
          have mz := (block_cells hL5.res).2
          have hl5 := hL5.lt
          have hs5 := hL5.st.lt
          have hi' : (i : Int) < (l.length : Int) := by omega
          have ht5 : tb < w5.heap.size := by omega
          have hc5 : cb < w5.heap.size := by omega
          have hr5 : w.heap.size < w5.heap.size := by omega
          have hne5 : ¬ tb = w.heap.size := by omega
          have HA : Aside _ := hans
          have HL : Aside _ := hL5
          clear HRu hB5 hL5 hans
          have HFIN : Aside (∀ o, Q (.returned (.agg #[.int .i64 c, .int .i64 q])) ((((w5.setCell ⟨tb, i, none⟩ (.string s)).setCell ⟨w.heap.size, 0, none⟩ (.int .i64 c)).setCell ⟨w.heap.size, 1, none⟩ (.int .i64 q)).alloc o)) := fun o => by
            have hf := HL.out.fin hil HA.out (fun t ht => rule_len HNO.out hE (fun k hk => by
              obtain ⟨r, hr, rfl⟩ := List.mem_map.1 hk
              obtain ⟨n', hn'⟩ := List.getElem?_of_mem hr
              exact (HL.out.did n' r hn').2.2.2.1) hah ht) o
            rw [HQ.out]
            have he : ckT env (.nd x ks) i = finR (Ck.rule env x i (rs.map fun r => (r.1, r.2.headD .tq))) (rs.map Prod.snd).flatten := by
              simp only [ckT]; rw [if_neg (by rw [hah]; simp), HR3.out]
              unfold finR
              dsimp only
              cases Ck.rule env x i (rs.map fun r => (r.1, r.2.headD .tq)) <;> rfl
            rw [he]
            exact hf
          clear HL HA HL5 HR3 HQ
          go_wp2_with fail
          try simp only [Exit.inBlock, Exit.then]
          refine bodyPost_ret (v := .agg #[.int .i64 c, .int .i64 q]) (by simp [results, Tryz.results25, go_sem, m0, m1, hr5, hne5, Nat.ne_of_lt hr5]) rfl ?_
          exact HFIN.out _
end Go.Proofs.YthihnkgjkmaplaaGreatDoor
namespace Go.Proofs.YthihnkgjkmaplaaGreatDoor
open Go.RowKit Ck
open T3.Tp (Ty enc cns met)
set_option maxRecDepth 100000
set_option linter.unusedSimpArgs false

/-- The cells of an environment, the oldest name first. -/
def ecells (env : Env) : List Value := env.reverse.flatMap fun p => [.string (S p.1), .string (S (enc p.2))]
theorem ecells_len (env : Env) : (ecells env).length = env.length * 2 := by
  unfold ecells
  induction env with
  | nil => rfl
  | cons p r ih => simp [List.flatMap_append] at ih ⊢; omega
theorem ecells_cons (p : List UInt8 × Ty) (env : Env) : ecells (p :: env) = ecells env ++ [.string (S p.1), .string (S (enc p.2))] := by simp [ecells, List.flatMap_append]
theorem ecells_one (env : Env) : ∀ v ∈ ecells env, v.oneCell' = true := by
  intro v hv
  simp only [ecells, List.mem_flatMap] at hv
  obtain ⟨p, _, hp⟩ := hv
  simp at hp
  rcases hp with rfl | rfl <;> rfl
/-- An environment in a row of its names and types. -/
def IsEnv (w : World) (v : Value) (env : Env) : Prop :=
  ∃ a c, v = .slice a env.length c ∧ (env ≠ [] → ∃ b o, a = some ⟨b, o, none⟩ ∧ b < w.heap.size ∧ ∀ j u, (ecells env)[j]? = some u → w.cell? ⟨b, o + j, none⟩ = some u)

theorem infoB : (Tryz.prog.info? 98).map (fun i => (i.zero, i.size, i.bytes)) = some (some (.agg #[.string ⟨#[]⟩, .string ⟨#[]⟩]), 2, 32) := by kernel_rfl
theorem infoB2 : (Tryz.prog.info? 98).map (·.size) = some 2 := by kernel_rfl
theorem tyBinds : Tryz.prog.underlying 96 = some (.slice 98) := by kernel_rfl
theorem make_env (n : Nat) (hn : n ≤ 5000) (W : World) : (Instr.makeSlice 96 (.int .i64 (n : Int)) (.int .i64 (n : Int))).run Tryz.prog W = .ok (.slice (some ⟨W.heap.size, 0, none⟩) n n) (W.alloc (.cells (madeCells #[.string ⟨#[]⟩, .string ⟨#[]⟩] (n * 2)) 98)) := by
  obtain ⟨i, hi, hz, hs, hb⟩ := info_parts infoB
  have := run_make (P := Tryz.prog) W 96 98 i _ tyBinds hi hz .i64 .i64 n n (by omega) (by omega) (by rw [hb]; omega) (by omega)
  have hcell : (Value.agg #[.string ⟨#[]⟩, .string ⟨#[]⟩]).cells = #[.string ⟨#[]⟩, .string ⟨#[]⟩] := by first | rfl | decide | simp [Value.cells]
  rw [hs, hcell] at this
  simpa using this

theorem copy_env (W2 : World) (g n c : Nat) (a : Option Addr) (cur cs : List Value) (hg : W2.heap[g]? = some (.cells cur.toArray 98 (0, 0))) (hcl : cs.length = n * 2) (hcu : cur.length = n * 2) (h1 : ∀ v ∈ cs, v.oneCell' = true)
    (hsrc : 0 < n → ∃ b o, a = some ⟨b, o, none⟩ ∧ ∀ j u, cs[j]? = some u → W2.cell? ⟨b, o + j, none⟩ = some u) :
    ∃ W3, (Builtin.copy_ #[96, 96] 3 #[.slice (some ⟨g, 0, none⟩) n n, .slice a n c]).run Tryz.prog W2 = .ok (.int .i64 (n : Int)) W3 ∧ W3.heap[g]? = some (.cells cs.toArray 98 (0, 0)) ∧ Below g W2 W3 := by
  by_cases h0 : n = 0
  · subst h0
    have e1 : cs = [] := List.eq_nil_of_length_eq_zero (by omega)
    have e2 : cur = [] := List.eq_nil_of_length_eq_zero (by omega)
    subst e1 e2
    exact ⟨W2, run_copy_none_wide (P := Tryz.prog) W2 _ _ 3 98 2 _ _ 0 0 0 c tyBinds infoB2 rfl, hg, Below.refl _ _⟩
  · obtain ⟨b, o, rfl, hc⟩ := hsrc (by omega)
    have hmm : Nat.min n n = n := Nat.min_self n
    have hrun := run_copy_wide (P := Tryz.prog) W2 96 96 3 98 2 g 0 n n ⟨b, o, none⟩ n c cur.toArray 98 cs tyBinds infoB2 hg (by rw [hcl, hmm]) (fun j u hu => by
      have := hc j u hu
      by_cases hj : j = 0
      · subst hj; simpa [Addr.add] using this
      · simpa [Addr.add, hj] using this) (by simp; omega) h1
    rw [hmm] at hrun
    have e3 : cur.drop cs.length = [] := List.drop_eq_nil_of_le (by omega)
    simp only [List.take_zero, List.nil_append, Nat.zero_add, List.toList_toArray, e3, List.append_nil] at hrun
    exact ⟨_, hrun, setRow_heap W2 g _ _ 98 _ hg, below_setRow (Below.refl _ _) (Nat.le_refl _) _⟩

set_option maxHeartbeats 2000000 in
theorem inner_plain (w : World) (cb : Nat) (x : Tr.Nd) (k : Int) (v : Value) (env : Env) (hl : env.length ≤ 5000) (hv : IsEnv w v env) (h5 : x.kind ≠ 5) (h6 : x.kind ≠ 6) (h8 : x.kind ≠ 8 ∨ k ≠ 1) :
    Calls Tryz.prog 92 #[.pointer (some ⟨cb, 0, none⟩), .agg #[.int .i8 x.kind, .int .i64 x.kids, .int .i64 x.n, .string x.s, .string x.t, .string x.u, .int .i64 x.ln, .int .i64 x.co], .int .i64 k, v] w fun e w' => ∃ g c, e = .returned (.slice (some ⟨g, 0, none⟩) env.length c) ∧ env.length ≤ c ∧ w.heap.size ≤ g ∧ IsEnv w' (.slice (some ⟨g, 0, none⟩) env.length c) env ∧ Below w.heap.size w w' := by
  obtain ⟨a, c, rfl, hv⟩ := hv
  have hmk := make_env env.length hl
  have e5 : (x.kind == 5) = false := by simpa using h5
  have e6 : (x.kind == 6) = false := by simpa using h6
  obtain ⟨n, hn⟩ : ∃ n, n = env.length := ⟨_, rfl⟩
  obtain ⟨cs, hcs⟩ : ∃ cs, cs = ecells env := ⟨_, rfl⟩
  have hcl : cs.length = n * 2 := by rw [hcs, hn]; exact ecells_len env
  have hc1 : ∀ v ∈ cs, v.oneCell' = true := by rw [hcs]; exact ecells_one env
  have HE : Aside (n = env.length ∧ cs = ecells env) := ⟨hn, hcs⟩
  have hsrc : 0 < n → ∃ b o, a = some ⟨b, o, none⟩ ∧ b < w.heap.size ∧ ∀ j u, cs[j]? = some u → w.cell? ⟨b, o + j, none⟩ = some u := by
    intro h0
    rw [hcs]
    exact hv (fun e => by rw [e] at hn; simp at hn; omega)
  rw [← hn] at hmk
  show Calls _ _ #[_, _, _, .slice a env.length c] _ _
  rw [← hn]
  clear hv hn hcs
  obtain ⟨W1, hW1⟩ : ∃ W1, W1 = w.alloc (.cells #[.int .i8 x.kind, .int .i64 x.kids, .int .i64 x.n, .string x.s, .string x.t, .string x.u, .int .i64 x.ln, .int .i64 x.co] 64) := ⟨_, rfl⟩
  obtain ⟨W2, hW2⟩ : ∃ W2, W2 = W1.alloc (.cells (madeCells #[.string ⟨#[]⟩, .string ⟨#[]⟩] (n * 2)) 98) := ⟨_, rfl⟩
  have z1 : W1.heap.size = w.heap.size + 1 := by rw [hW1]; simp
  have hB2 : Below w.heap.size w W2 := by rw [hW2, hW1]; exact ((Below.refl _ _).alloc (Nat.le_refl _) _).alloc (by simp) _
  have hx2 : W2.heap[w.heap.size]? = some (.cells #[.int .i8 x.kind, .int .i64 x.kids, .int .i64 x.n, .string x.s, .string x.t, .string x.u, .int .i64 x.ln, .int .i64 x.co] 64) := by rw [hW2, hW1]; exact (Below.heap_alloc _ _ _ (by simp)).trans (heap_alloc_new _ _)
  have hm2 : W2.heap[w.heap.size + 1]? = some (.cells (madeCells #[.string ⟨#[]⟩, .string ⟨#[]⟩] (n * 2)).toList.toArray 98 (0, 0)) := by rw [hW2, ← z1]; simpa using heap_alloc_new W1 _
  have hB1 : Below (w.heap.size + 1) W2 W2 := Below.refl _ _
  go_enter Tryz.func92, Tryz.ntmps92
  go_upto_region 2 with fail
  rw [← hW1]
  rw [← hW2]
  clear hmk hW1 hW2
  obtain ⟨w3, hrun, hg3, hB3⟩ := copy_env W2 (w.heap.size + 1) n c a _ cs hm2 hcl (by simp [size_madeCells]) hc1 (fun h0 => by
    obtain ⟨b, o, rfl, hb, hc⟩ := hsrc h0
    exact ⟨b, o, rfl, fun j u hu => (hB2.cell (p := ⟨b, o + j, none⟩) hb).trans (hc j u hu)⟩)
  have p0 : w3.cell? ⟨w.heap.size, 0, none⟩ = some (.int .i8 x.kind) := (block_cells ((hB3.block _ (by omega)).trans hx2)).1 0
  have HG : Aside (w3.heap[w.heap.size + 1]? = some (.cells cs.toArray 98 (0, 0))) := hg3
  have hBw : Below w.heap.size w w3 := hB2.trans (hB3.mono (by omega))
  clear hsrc hg3 hm2 hx2 hB3 hB2 hB1 hc1 hcl
  have HFin : Aside (IsEnv w3 (.slice (some ⟨w.heap.size + 1, 0, none⟩) n n) env) := by
    refine ⟨_, n, by rw [HE.out.1], fun _ => ⟨w.heap.size + 1, 0, rfl, (Array.getElem?_eq_some_iff.1 HG.out).1, fun j u hu => ?_⟩⟩
    rw [Nat.zero_add, (block_cells HG.out).1 j]
    rw [← HE.out.2] at hu
    simpa using hu
  by_cases hk8 : x.kind = 8
  · have hk1 : k ≠ 1 := h8.resolve_left (fun h => h hk8)
    have e8 : (x.kind == 8) = true := by simpa using hk8
    have ek : (k == 1) = false := by simpa using hk1
    clear h8 hk8 hk1 h5 h6 HE HG
    go_wp2_with fail
    go_ret
    exact ⟨_, _, rfl, Nat.le_refl _, by omega, HFin.out, hBw⟩
  · have e8 : (x.kind == 8) = false := by simpa using hk8
    clear h8 hk8 h5 h6 HE HG
    go_wp2_with fail
    go_ret
    exact ⟨_, _, rfl, Nat.le_refl _, by omega, HFin.out, hBw⟩
end Go.Proofs.YthihnkgjkmaplaaGreatDoor
