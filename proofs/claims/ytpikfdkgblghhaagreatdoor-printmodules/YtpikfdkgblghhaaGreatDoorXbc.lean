/- Kid: a part that is asked for a rank; any tree. Any tree that may be is written; tree, source, Expr. The program's Expr, whole. The document's Asked, Names, Pieces of a node. -/
import Derived.Test.YtpikfdkgblghhaaGreatDoorXau
import Derived.Test.YtpikfdkgblghhaaGreatDoorXav
import Derived.Lib.UnsafeStr
import Derived.Test.YtpikfdkgblghhaaGreatDoorXaw
import Derived.Test.YtpikfdkgblghhaaGreatDoorXax
import Derived.Test.YtpikfdkgblghhaaGreatDoorXbb
import Derived.Test.YtpikfdkgblghhaaGreatDoorXao
import Derived.BigQuiet
namespace Go.Proofs.YtpikfdkgblghhaaGreatDoor
open Go.RowKit Pn
set_option maxRecDepth 100000
set_option linter.unusedSimpArgs false
set_option linter.unusedVariables false
namespace Pn
/-- The node that comes next is taken. -/
theorem St.next {w0 w : World} {pb : Nat} {L : List UInt8} {c : Value} {x : Tr.Nd} {l : List Tr.Nd} (h : St w0 w pb L c (x :: l)) :
    ∃ b o cp, c = .slice (some ⟨b, o, none⟩) (l.length + 1) cp ∧ l.length + 1 ≤ cp ∧ b < pb ∧ (∀ i u, (Tr.ncells x)[i]? = some u → w.cell? ⟨b, o + i, none⟩ = some u) ∧
      ∀ w1 W M c', St w1 W pb M c (x :: l) → (cp = 1 ∧ c' = .slice (some ⟨b, o, none⟩) l.length 0 ∨ cp ≠ 1 ∧ c' = .slice (some ⟨b, o + 8, none⟩) l.length (cp - 1)) → St w1 (W.setCell ⟨pb, 2, none⟩ c') pb M c' l := by
  obtain ⟨b, o, cp, rfl, h1, h2, h3⟩ : ∃ b o cp, c = .slice (some ⟨b, o, none⟩) (l.length + 1) cp ∧ l.length + 1 ≤ cp ∧ b < w.heap.size ∧ ∀ j y, (x :: l)[j]? = some y → ∀ i u, (Tr.ncells y)[i]? = some u → w.cell? ⟨b, o + j * 8 + i, none⟩ = some u := by
    rcases h.nodes with ⟨h0, _⟩ | ⟨b, o, cp, h1, h2, h3, h4⟩
    · cases h0
    · exact ⟨b, o, cp, by simpa using h1, by simpa using h2, h3, h4⟩
  have hb := h.low b o _ _ rfl
  refine ⟨b, o, cp, rfl, h1, hb, fun i u hu => by simpa using h3 0 x rfl i u hu, ?_⟩
  intro w1 W M c' hS hcc
  have hW := Wrote.set W pb 2 c'
  have hne : b ≠ pb := by omega
  refine ⟨hS.pen.coming _, ?_, ?_, fun W' hB => hS.tab W' (hW.1.trans hB), hS.wr.trans hW⟩
  · rcases hcc with ⟨h5, h6⟩ | ⟨h5, h6⟩
    · have : l = [] := List.length_eq_zero_iff.1 (by omega)
      subst this
      exact .inl ⟨rfl, _, _, by simpa using h6⟩
    · refine .inr ⟨b, o + 8, cp - 1, h6, by omega, ?_, ?_⟩
      · have := hS.pen.lt
        have := hW.1.size
        have := hW.2.2
        omega
      · intro j y hy i u hu
        rcases hS.nodes with ⟨h0, _⟩ | ⟨b', o', cp', e1, e2, e3, e4⟩
        · cases h0
        · obtain ⟨rfl, rfl⟩ : b = b' ∧ o = o' := by
            have := e1
            simp at this
            exact ⟨this.1.1, this.1.2⟩
          have h5 := e4 (j + 1) y (by simpa using hy) i u hu
          rw [hW.1.cell (p := ⟨b, o + 8 + j * 8 + i, none⟩) hb, ← h5]
          congr 2
          omega
  · intro b' o' n' c'' e
    rcases hcc with ⟨h5, h6⟩ | ⟨h5, h6⟩
    · rw [h6] at e; simp at e; omega
    · rw [h6] at e; simp at e; omega
end Pn

set_option maxHeartbeats 4000000 in
theorem kid_any (x : Tr.Nd) (ks : List Tr.T) (hn : NodeOk x ks) (hg : GoodT (.nd x ks)) : KidOk (.nd x ks) := by
  intro a pb L c rest w0 w h0 ha0 ha6 hlen
  have htl := pr_len Lib.itoa (.nd x ks) (fun y hy => nice_len (hg.2 y hy))
  rw [show Tr.flat (.nd x ks) ++ rest = x :: (Tr.flats ks ++ rest) by simp [Tr.flat]] at h0
  rw [show (Tr.flat (.nd x ks)).length = (Tr.flats ks).length + 1 by simp [Tr.flat]] at hlen htl
  obtain ⟨b, o, cp, rfl, hcp, hbp, hcells, hnext⟩ := h0.next
  have h := h0.now
  have hlt := h0.pen.lt
  obtain ⟨c2, f2⟩ := h0.pen.cell2
  have f22 := f2 2
  have hfin : Aside (∀ w', Wrote w w' pb → Wrote w0 w' pb) := fun w' hW => h0.wr.trans hW
  have hrk := rankOf_any x.kind
  have hnd : ∀ M W cc, St w W pb M cc (Tr.flats ks ++ rest) → M.length ≤ L.length + 1 → Calls Tryz.prog 105 #[.pointer (some ⟨pb, 0, none⟩), Tr.agg x] W (Done w pb (M ++ pr Lib.itoa (.nd x ks)) rest) :=
    fun M W cc hW hM => hn pb M cc rest w W hW (by omega)
  have hput1 := fun cc wb W hW => put_st pb L cc (Tr.flats ks ++ rest) [[40]] wb W hW (by simp) (by simp; omega)
  have hput2 := fun cc W hW => put_st pb (L ++ [[40]].flatten ++ pr Lib.itoa (.nd x ks)) cc rest [[41]] w W hW (by simp) (by simp; omega)
  have HA : Aside (¬ rk x.kind < a → L ++ pr Lib.itoa (.nd x ks) = L ++ txt a (.nd x ks)) := by
    show _ → _
    intro hd
    show _ = L ++ br (decide (rk x.kind < a)) _
    rw [show decide (rk x.kind < a) = false by simpa using hd]; rfl
  have HB : Aside (rk x.kind < a → L ++ [[40]].flatten ++ pr Lib.itoa (.nd x ks) ++ [[41]].flatten = L ++ txt a (.nd x ks)) := by
    show _ → _
    intro hd
    show _ = L ++ br (decide (rk x.kind < a)) _
    rw [show decide (rk x.kind < a) = true by simpa using hd]
    simp [br]
  have p0 := hcells 0 _ rfl
  have p1 := hcells 1 _ rfl
  have p2 := hcells 2 _ rfl
  have p3 := hcells 3 _ rfl
  have p4 := hcells 4 _ rfl
  have p5 := hcells 5 _ rfl
  have p6 := hcells 6 _ rfl
  have p7 := hcells 7 _ rfl
  rw [Nat.add_zero] at p0
  have hLL : L.length ≤ L.length + 1 := by omega
  have hML : (L ++ [[40]].flatten).length ≤ L.length + 1 := by simp
  have hn1 : ((Tr.flats ks ++ rest).length : Int) + 1 - 1 = ((Tr.flats ks ++ rest).length : Int) := by omega
  have hn0 : (0 : Int) < ((Tr.flats ks ++ rest).length : Int) + 1 := by omega
  have hput2' : ∀ cc W, St w W pb (L ++ [[40]].flatten ++ pr Lib.itoa (.nd x ks)) cc rest → Calls Tryz.prog 67 #[.pointer (some ⟨pb, 0, none⟩), .slice (some ⟨W.heap.size, 0, none⟩) 1 1] (W.alloc (.cells #[.string (S [41])] 9)) fun e w' => e = .returned (.tuple #[]) ∧ St w w' pb (L ++ [[40]].flatten ++ pr Lib.itoa (.nd x ks) ++ [[41]].flatten) cc rest := hput2
  clear hcells h0 htl hlen f2 hg hn hput2
  obtain ⟨cc, hcc⟩ : ∃ cc, (cp = 1 ∧ cc = Value.slice (some ⟨b, o, none⟩) (Tr.flats ks ++ rest).length 0 ∨ cp ≠ 1 ∧ cc = Value.slice (some ⟨b, o + 8, none⟩) (Tr.flats ks ++ rest).length (cp - 1)) := by
    by_cases e : cp = 1
    · exact ⟨_, .inl ⟨e, rfl⟩⟩
    · exact ⟨_, .inr ⟨e, rfl⟩⟩
  have hSS := hnext w w L cc h hcc
  have h1 := hSS.alloc (.cells (Tr.ncells x).toArray 52)
  have hbx : ((w.setCell ⟨pb, 2, none⟩ cc).alloc (.cells (Tr.ncells x).toArray 52)).heap[w.heap.size]? = some (.cells (Tr.ncells x).toArray 52 (0, 0)) := by
    have := heap_alloc_new (w.setCell ⟨pb, 2, none⟩ cc) (.cells (Tr.ncells x).toArray 52)
    simpa [World.setCell] using this
  have hsz1 : ((w.setCell ⟨pb, 2, none⟩ cc).alloc (.cells (Tr.ncells x).toArray 52)).heap.size = w.heap.size + 1 := by simp [World.setCell]
  have hq1' : Calls Tryz.prog 67 #[.pointer (some ⟨pb, 0, none⟩), .slice (some ⟨((w.setCell ⟨pb, 2, none⟩ cc).alloc (.cells (Tr.ncells x).toArray 52)).heap.size, 0, none⟩) 1 1] (((w.setCell ⟨pb, 2, none⟩ cc).alloc (.cells (Tr.ncells x).toArray 52)).alloc (.cells #[.string (S [40])] 9)) fun e w' => e = .returned (.tuple #[]) ∧ St w w' pb (L ++ [[40]].flatten) cc (Tr.flats ks ++ rest) ∧ ∀ i, w'.cell? ⟨w.heap.size, i, none⟩ = (Tr.ncells x).toArray[i]? := by
    refine (hput1 cc _ _ h1.now).mono ?_
    rintro e w' ⟨rfl, hS⟩
    exact ⟨rfl, hS.from h1.wr, (block_cells (hS.wr.at hbx (by omega) (by decide))).1⟩
  rw [hsz1] at hq1'
  clear hSS hnext hput1 hbx hsz1 h
  generalize hN : (Tr.flats ks ++ rest).length = N at *
  generalize L ++ txt a (.nd x ks) = FF at *
  generalize pr Lib.itoa (.nd x ks) = P at *
  generalize L ++ [[40]].flatten ++ P ++ [[41]].flatten = GG at *
  obtain ⟨kind, kids, n, s, t, u, ln, co⟩ := x
  simp only at hrk HA HB
  simp only [Tr.agg] at hnd
  simp only [Tr.ncells] at h1 p0 p1 p2 p3 p4 p5 p6 p7 hq1'
  by_cases hd : rk kind < a
  · have HB' : Aside (GG = FF) := HB.out hd
    have hd' : decide (a ≤ rk kind) = false := by simp; omega
    generalize rk kind = r at *
    generalize L ++ [[40]].flatten = M1 at *
    clear HA HB h1
    rcases hcc with ⟨hc1, rfl⟩ | ⟨hc1, rfl⟩
    all_goals
      go_enter Tryz.func53, Tryz.ntmps53
      go_wp2_with fail
      refine (hrk _).mono ?_
      rintro e w1 ⟨rfl, hw1⟩
      replace hw1 := hw1.symm
      subst hw1
      go_wp2_with fail
      refine hq1'.mono ?_
      rintro e w3 ⟨rfl, hS3, hc3⟩
      have q0 := hc3 0
      have q1 := hc3 1
      have q2 := hc3 2
      have q3 := hc3 3
      have q4 := hc3 4
      have q5 := hc3 5
      have q6 := hc3 6
      have q7 := hc3 7
      simp only [List.getElem?_toArray, List.getElem?_cons_zero, List.getElem?_cons_succ] at q0 q1 q2 q3 q4 q5 q6 q7
      clear hc3
      go_wp2_with fail
      refine (hnd _ w3 _ hS3 hML).mono ?_
      rintro e w4 ⟨rfl, c4, hS4⟩
      go_wp2_with fail
      refine (hput2' c4 w4 hS4).mono ?_
      rintro e w5 ⟨rfl, hS5⟩
      go_wp2_with fail
      go_end0
      exact ⟨rfl, c4, HB'.out ▸ ⟨hS5.pen, hS5.nodes, hS5.low, hS5.tab, hfin.out _ hS5.wr⟩⟩
  · have HA' : Aside (L ++ P = FF) := HA.out hd
    have hd' : a ≤ rk kind := by omega
    generalize rk kind = r at *
    clear HA HB hq1' hput2'
    rcases hcc with ⟨hc1, rfl⟩ | ⟨hc1, rfl⟩
    all_goals
      go_enter Tryz.func53, Tryz.ntmps53
      go_wp2_with fail
      refine (hrk _).mono ?_
      rintro e w1 ⟨rfl, hw1⟩
      replace hw1 := hw1.symm
      subst hw1
      go_wp2_with fail
      refine (hnd _ _ _ h1 hLL).mono ?_
      rintro e w2 ⟨rfl, c3, hS⟩
      go_wp2_with fail
      go_end0
      exact ⟨rfl, c3, HA'.out ▸ ⟨hS.pen, hS.nodes, hS.low, hS.tab, hfin.out _ hS.wr⟩⟩
end Go.Proofs.YtpikfdkgblghhaaGreatDoor
namespace Go.Proofs.YtpikfdkgblghhaaGreatDoor
open Go.RowKit Pn
set_option maxRecDepth 100000
set_option linter.unusedSimpArgs false
set_option linter.unusedVariables false

theorem node_any (x : Tr.Nd) (ks : List Tr.T) (hg : GoodT (.nd x ks)) (hk : ∀ t ∈ ks, KidOk t) : NodeOk x ks := by
  have hf := (may_parts (good_nice hg).1.1).1
  have hr : 1 ≤ x.kind ∧ x.kind ≤ 29 := by
    unfold Tr.fitB at hf
    by_cases h21 : x.kind = 21
    · omega
    · rw [if_neg (by simpa using h21)] at hf
      split at hf
      · cases hf
      · rename_i h30
        simp only [Bool.and_eq_true] at hf
        have h1 := hf.1
        unfold Tr.arF at h1
        simp at h1 h30
        omega
  have hc : (x.kind = 1 ∨ x.kind = 2 ∨ x.kind = 3 ∨ x.kind = 4) ∨ x.kind = 5 ∨ x.kind = 6 ∨ x.kind = 7 ∨ x.kind = 8 ∨ x.kind = 9 ∨ (x.kind = 28 ∨ x.kind = 14 ∨ x.kind = 15 ∨ x.kind = 10 ∨ x.kind = 11 ∨ x.kind = 13 ∨ x.kind = 12) ∨ x.kind = 16 ∨ x.kind = 18 ∨ x.kind = 21 ∨ x.kind = 25 ∨ x.kind = 27 ∨ x.kind = 29 ∨ (x.kind = 26 ∨ x.kind = 17 ∨ x.kind = 19 ∨ x.kind = 20 ∨ x.kind = 22 ∨ x.kind = 23 ∨ x.kind = 24) := by omega
  rcases hc with h | h | h | h | h | h | h | h | h | h | h | h | h | h
  · exact node_leaf x ks h hg hk
  · exact node_fn x ks h hg hk
  · exact node_rec x ks h hg hk
  · exact node_call x ks h hg hk
  · exact node_let x ks h hg hk
  · exact node_if x ks h hg hk
  · exact node_infix x ks h hg hk
  · exact node_neg x ks h hg hk
  · exact node_pair x ks h hg hk
  · exact node_list x ks h hg hk
  · exact node_cons x ks h hg hk
  · exact node_get x ks h hg hk
  · exact node_as x ks h hg hk
  · exact node_word x ks h hg hk
theorem kidOk_any (n : Nat) : ∀ t : Tr.T, (Tr.flat t).length ≤ n → GoodT t → KidOk t := by
  induction n with
  | zero => intro t h; have := Tr.flat_pos t; omega
  | succ n ih =>
    rintro ⟨x, ks⟩ h hg
    refine kid_any x ks (node_any x ks hg ?_) hg
    have hgs := (good_nice hg).2.2
    have hn : (Tr.flats ks).length ≤ n := by simp [Tr.flat] at h; omega
    clear hg h
    induction ks with
    | nil => intro t ht; cases ht
    | cons a r ihr =>
      intro t ht
      have hl : (Tr.flats (a :: r)).length = (Tr.flat a).length + (Tr.flats r).length := by simp [Tr.flats]
      rcases List.mem_cons.1 ht with rfl | ht
      · exact ih t (by omega) hgs.cons.1
      · exact ihr hgs.cons.2 (by omega) t ht

set_option maxHeartbeats 2000000 in
/-- A whole tree is written behind what was written before. -/
theorem tree_st (pb : Nat) (L : List UInt8) (c v : Value) (t : Tr.T) (w : World) (hp : Pen w pb L c) (hT : TabK w pb) (hl : IsNodes w v (Tr.flat t)) (hv : Low v pb) (hg : GoodT t) (hlen : L.length + 2400 * (Tr.flat t).length ≤ 10000000000) :
    Calls Tryz.prog 26 #[.pointer (some ⟨pb, 0, none⟩), v] w fun e w' => e = .returned (.tuple #[]) ∧ ∃ c', Pen w' pb (L ++ pr Lib.itoa t) c' ∧ Wrote w w' pb := by
  obtain ⟨va, vc, rfl⟩ := hl.form
  have h1 : St w (w.setCell ⟨pb, 2, none⟩ _) pb L _ (Tr.flat t ++ []) := ⟨hp.coming (.slice va (Tr.flat t).length vc), by rw [List.append_nil]; exact nodes_low hl hv (Wrote.set _ _ _ _).1, hv, fun W hB => hT W ((Wrote.set _ _ _ _).1.trans hB), Wrote.set _ _ _ _⟩
  have hk := kidOk_any _ t (Nat.le_refl _) hg 0 pb L _ [] w _ h1 (by decide) (by decide) hlen
  have h0 : txt 0 t = pr Lib.itoa t := by
    show br (decide (rk (root t).kind < 0)) _ = _
    rw [show decide (rk (root t).kind < 0) = false by have := rk_bd (root t).kind; simp; omega]
    rfl
  rw [h0] at hk
  obtain ⟨c2, f2⟩ := hp.cell2
  have f22 := f2 2
  have hlt := hp.lt
  generalize pr Lib.itoa t = P at *
  clear h1 h0 hlen hg hl hp
  go_enter Tryz.func26, Tryz.ntmps26
  go_wp2_with fail
  refine hk.mono ?_
  rintro e w1 ⟨rfl, c1, hS⟩
  go_wp2_with fail
  go_end0
  exact ⟨rfl, c1, hS.pen, hS.wr⟩

set_option maxHeartbeats 2000000 in
theorem pnLen_any (b : Nat) (l : List UInt8) (c : Value) (w : World) (h : Pen w b l c) :
    Calls Tryz.prog 54 #[.pointer (some ⟨b, 0, none⟩)] w fun e w' => e = .returned (.int .i64 (l.length : Int)) ∧ w' = w := by
  obtain ⟨p, v, hb, hown⟩ : ∃ p v, w.heap[b]? = some (.cells #[p, v, c] 66 (0, 0)) ∧ w.ownsRowF b 5 1 v l.length (Lib.byteCells l) := by
    rcases h with ⟨v, h1, h2⟩ | ⟨v, h1, h2⟩
    · exact ⟨_, v, h1, h2⟩
    · exact ⟨_, v, h1, h2⟩
  have c1 : w.cell? ⟨b, 1, none⟩ = some v := by rw [Lib.cell_of_heap hb]; rfl
  obtain ⟨ao, cap, rfl⟩ : ∃ ao cap, v = .slice ao l.length cap := by
    rcases hown.2 with ⟨hv, h0⟩ | ⟨g, cap, cur, fz, hv, _⟩
    · exact ⟨_, _, by rw [hv, h0]⟩
    · exact ⟨_, _, hv⟩
  clear hown hb h
  go_enter Tryz.func54, Tryz.ntmps54
  go_wp2_with fail
  go_ret
  exact ⟨rfl, rfl⟩

set_option maxHeartbeats 2000000 in
theorem pnString_any (b : Nat) (l : List UInt8) (c : Value) (w : World) (h : Pen w b l c) :
    Calls Tryz.prog 55 #[.pointer (some ⟨b, 0, none⟩)] w fun e w' => e = .returned (.string (S l)) ∧ Below b w w' ∧ w.heap.size ≤ w'.heap.size := by
  obtain ⟨p, v, hbk, hown⟩ : ∃ p v, w.heap[b]? = some (.cells #[p, v, c] 66 (0, 0)) ∧ w.ownsRowF b 5 1 v l.length (Lib.byteCells l) := by
    rcases h with ⟨v, h1, h2⟩ | ⟨v, h1, h2⟩
    · exact ⟨_, v, h1, h2⟩
    · exact ⟨_, v, h1, h2⟩
  have mixed : Tryz.prog.follows Departure.mixedOrders = true := by kernel_rfl
  by_cases h0 : l = []
  · subst h0
    have hcase : (∃ q q' cap, v = .slice q 0 cap ∧ (Builtin.unsafeSliceData_ #[40] 156 #[.slice q 0 cap]).run Tryz.prog w.drew = .ok (.pointer q') w.drew) ∨ ∃ q q' cap o, v = .slice q 0 cap ∧ (Builtin.unsafeSliceData_ #[40] 156 #[.slice q 0 cap]).run Tryz.prog w.drew = .ok (.pointer q') (w.drew.alloc o) := by
      rcases hown.2 with ⟨hv, _⟩ | ⟨g, cap, cur, fz, hv, hbg, hg, hfz, hnc, hcm, hcs, htake⟩
      · exact .inl ⟨none, none, 0, hv, rfl⟩
      · by_cases hc0 : cap = 0
        · subst hc0
          have hgW : w.drew.heap[g]? = some (.cells cur 5 fz) := hg
          exact .inr ⟨_, _, _, _, hv, Lib.run_unsafeSliceData_zero _ _ _ 5 tyPu ⟨g, 0, none⟩ _ (5, cur.size) (by simp [World.shape?, hgW])⟩
        · exact .inl ⟨_, _, _, hv, Lib.run_unsafeSliceData_row _ _ _ _ _ _ hc0⟩
    rcases hcase with ⟨q, q', cap, rfl, hSD⟩ | ⟨q, q', cap, o, rfl, hSD⟩
    · have c1 : w.drew.cell? ⟨b, 1, none⟩ = some (.slice q 0 cap) := by
        have : w.drew.heap[b]? = some (.cells #[p, .slice q 0 cap, c] 66 (0, 0)) := hbk
        rw [Lib.cell_of_heap this]; rfl
      have HB : Aside (Below b w w.drew) := (Below.refl b w).drew
      have hUS : (Builtin.unsafeString_ #[156, 3] 9 #[.pointer q', .int .i64 0]).run Tryz.prog (w.drew) = .ok (.string .empty) (w.drew) := Lib.run_unsafeString_none _ _ _ _ _
      have hBF : Below b w (w.drew) := HB.out
      clear hown hbk h
      go_enter Tryz.func55, Tryz.ntmps55
      go_wp2
      go_region_o
      all_goals (go_wp2; go_ret; exact ⟨rfl, hBF, hBF.size⟩)
    · have c1 : w.drew.cell? ⟨b, 1, none⟩ = some (.slice q 0 cap) := by
        have : w.drew.heap[b]? = some (.cells #[p, .slice q 0 cap, c] 66 (0, 0)) := hbk
        rw [Lib.cell_of_heap this]; rfl
      have hlt : b < w.heap.size := (Array.getElem?_eq_some_iff.1 hbk).1
      have HB : Aside (Below b w (w.drew.alloc o)) := (Below.refl b w).drew.alloc (Nat.le_of_lt hlt) _
      have hUS : (Builtin.unsafeString_ #[156, 3] 9 #[.pointer q', .int .i64 0]).run Tryz.prog ((w.alloc o).drew) = .ok (.string .empty) ((w.alloc o).drew) := Lib.run_unsafeString_none _ _ _ _ _
      have hBF : Below b w ((w.alloc o).drew) := ((Below.refl b w).alloc (Nat.le_of_lt hlt) _).drew
      have c1' : w.cell? ⟨b, 1, none⟩ = some (.slice q 0 cap) := c1
      clear hown hbk h
      go_enter Tryz.func55, Tryz.ntmps55
      go_wp2
      go_region_o
      all_goals (go_wp2; go_ret; exact ⟨rfl, hBF, hBF.size⟩)
  · have hl0 : l.length ≠ 0 := by simpa using h0
    obtain ⟨g, cap, cur, fz, rfl, hbg, hg, hfz, hnc, hcm, hcs, htake⟩ : ∃ g cap cur fz, v = .slice (some ⟨g, 0, none⟩) l.length cap ∧ b ≤ g ∧ w.heap[g]? = some (.cells cur 5 fz) ∧ fz.2 ≤ l.length * 1 ∧ l.length ≤ cap ∧ cap ≤ maxLen ∧ cur.size = cap * 1 ∧ cur.toList.take (l.length * 1) = Lib.byteCells l := by
      rcases hown.2 with ⟨_, hz⟩ | ⟨g, cap, cur, fz, hv, r⟩
      · exact absurd hz hl0
      · exact ⟨g, cap, cur, fz, hv, r⟩
    have c1 : w.drew.cell? ⟨b, 1, none⟩ = some (.slice (some ⟨g, 0, none⟩) l.length cap) := by
      have : w.drew.heap[b]? = some (.cells #[p, .slice (some ⟨g, 0, none⟩) l.length cap, c] 66 (0, 0)) := hbk
      rw [Lib.cell_of_heap this]; rfl
    have hSD : (Builtin.unsafeSliceData_ #[40] 156 #[.slice (some ⟨g, 0, none⟩) l.length cap]).run Tryz.prog w.drew = .ok (.pointer (some ⟨g, 0, none⟩)) w.drew :=
      Lib.run_unsafeSliceData_row _ _ _ _ _ _ (by omega)
    have hUS : (Builtin.unsafeString_ #[156, 3] 9 #[.pointer (some ⟨g, 0, none⟩), .int .i64 l.length]).run Tryz.prog w.drew = .ok (.string (S l)) (w.drew.freeze ⟨g, 0, none⟩ l.length) := by
      refine Lib.run_unsafeString_row w.drew 156 3 9 5 tyPu (by kernel_rfl) g cur.size (by have hg' : w.drew.heap[g]? = some (.cells cur 5 fz) := hg; simp [World.shape?, hg']) l h0 (by omega) (by unfold maxLen at hcm; omega) ?_
      intro j x hx
      have := hown.cells (g := g) rfl j (.int .u8 x.toNat) (by simp [Lib.byteCells, hx])
      exact this
    have hBF : Below b w (w.drew.freeze ⟨g, 0, none⟩ l.length) := Lib.below_freeze (Below.drew (Below.refl b w)) (p := ⟨g, 0, none⟩) hbg _
    clear hown hbk h htake hcs hg
    go_enter Tryz.func55, Tryz.ntmps55
    go_wp2
    go_region_o
    all_goals (go_wp2; go_ret; exact ⟨rfl, hBF, hBF.size⟩)

namespace Pn
/-- What is answered where a text has been written. -/
def srcS (l : List UInt8) : List UInt8 := if 65536 < l.length then [] else l
def srcE (l : List UInt8) : Int := if 65536 < l.length then 10 else 0
end Pn
set_option maxHeartbeats 2000000 in
theorem source_any (b : Nat) (l : List UInt8) (c : Value) (w : World) (h : Pen w b l c) :
    Calls Tryz.prog 27 #[.pointer (some ⟨b, 0, none⟩)] w fun e w' => e = .returned (.tuple #[.string (S (srcS l)), .int .i64 (srcE l)]) ∧ Below b w w' := by
  have h1 := pnLen_any b l c w h
  have h2 := pnString_any b l c w h
  have hn : (l.length : Int) ≤ 9223372036854775807 ∨ True := .inr trivial
  by_cases hl : 65536 < l.length
  · have hl' : (65536 : Int) < (l.length : Int) := by omega
    have HS : Aside (srcS l = []) := by show _ = _; unfold srcS; rw [if_pos hl]
    have HE : Aside (srcE l = 10) := by show _ = _; unfold srcE; rw [if_pos hl]
    clear h2 h hn
    go_enter Tryz.func27, Tryz.ntmps27
    go_wp2_with (go_at_call 54; refine h1.mono ?_; rintro e w' ⟨rfl, hw'⟩; replace hw' := hw'.symm; subst hw')
    go_ret2
    exact ⟨by rw [HS.out, HE.out]; rfl, Below.refl _ _⟩
  · have hl' : decide ((65536 : Int) < (l.length : Int)) = false := by simp; omega
    have HS : Aside (srcS l = l) := by show _ = _; unfold srcS; rw [if_neg hl]
    have HE : Aside (srcE l = 0) := by show _ = _; unfold srcE; rw [if_neg hl]
    clear h hn
    go_enter Tryz.func27, Tryz.ntmps27
    go_wp2_with (first | (go_at_call 54; refine h1.mono ?_; rintro e w' ⟨rfl, hw'⟩; replace hw' := hw'.symm; subst hw') | (go_at_call 55; refine h2.mono ?_; rintro e w' ⟨rfl, hB, _⟩))
    go_ret2
    exact ⟨by rw [HS.out, HE.out]; rfl, hB⟩
end Go.Proofs.YtpikfdkgblghhaaGreatDoor
namespace Go.Proofs.YtpikfdkgblghhaaGreatDoor
open Go.RowKit Pn
set_option maxRecDepth 100000
set_option linter.unusedSimpArgs false
set_option linter.unusedVariables false
namespace Pn
/-- A list that Check takes is a tree. -/
theorem tree_of {l : List Tr.Nd} (h : (chkN l).1 = 0) : ∃ t, Tr.wf t ∧ l = Tr.flat t ∧ (∀ x ∈ l, Tr.mayB x = true) ∧ l.length ≤ 4096 ∧ Tr.high t ≤ 64 := by
  by_cases hm : l.length = 0 ∨ 4096 < l.length
  · rw [chkN_many hm] at h; simp at h
  rw [chkN_ck hm] at h
  have hr := Tr.ck_ref Tr.mayB (fun x hx => Tr.mayB_kids hx) l [1] 0 0 (by simp)
  rw [hr] at h
  split at h
  · simp at h
  · rename_i hbad
    obtain ⟨hmay, _⟩ := Tr.bad_end hbad
    split at h
    · rename_i hgo
      rw [Tr.go_gs] at hgo
      obtain ⟨t, hw, he⟩ := Tr.whole (l := l) (by simpa [Tr.kd] using hgo)
      refine ⟨t, hw, he, hmay, by omega, ?_⟩
      have hd := Tr.dps_flat t [] 0 [] hw
      rw [List.append_nil, ← he] at hd
      have hdd : Tr.dps (l.map (·.kids)) [1] = Tr.dpT 1 t := by
        have h0 : Tr.dps [] [0] = [] := rfl
        simpa [h0, Tr.kd] using hd
      rw [hdd] at h
      cases hde : Tr.deep (Tr.dpT 1 t) 0 with
      | some j => rw [hde] at h; simp [Tr.fin2] at h
      | none =>
        have key : ∀ (ds : List Nat) (i a : Nat), Tr.deep ds i = none → a ≤ 64 → Tr.mx ds a ≤ 64 := by
          intro ds
          induction ds with
          | nil => intro i a _ ha; exact ha
          | cons d ds ih =>
            intro i a hd ha
            rw [Tr.deep] at hd
            split at hd
            · simp at hd
            · rw [Tr.mx]; exact ih _ _ hd (by omega)
        have := key _ 0 0 hde (by omega)
        rw [Tr.mx_dpT] at this
        omega
    · simp at h


end Pn

namespace Pn
/-- A node as it lies in memory: its number and its text in their bounds. -/
def Held (x : Tr.Nd) : Prop := (-9223372036854775808 ≤ x.n ∧ x.n ≤ 9223372036854775807) ∧ x.s.size ≤ maxLen
theorem good_of {l : List Tr.Nd} {t : Tr.T} (hw : Tr.wf t) (hl : l = Tr.flat t) (hm : ∀ x ∈ l, Tr.mayB x = true) (hh : ∀ x ∈ l, Held x) : GoodT t :=
  ⟨hw, fun x hx => ⟨hm x (hl ▸ hx), (hh x (hl ▸ hx)).1, (hh x (hl ▸ hx)).2⟩⟩
/-- A pen that is new. -/
theorem pen_new (w : World) : Pen (w.alloc (.cells #[.pointer none, .slice none 0 0, .slice none 0 0] 66)) w.heap.size [] (.slice none 0 0) :=
  .inl ⟨_, heap_alloc_new _ _, World.ownsRowF_nil _ _ _ _⟩
theorem nodes_in {w : World} {v : Value} {l : List Tr.Nd} (h : IsNodes w v l) (h0 : l ≠ []) : Low v w.heap.size := by
  rcases h with ⟨h1, _⟩ | ⟨b, o, c, rfl, _, h2, _⟩
  · exact absurd h1 h0
  · intro b' o' n' c' e
    simp at e
    omega
end Pn

set_option maxHeartbeats 2000000 in
theorem pnExpr_bad (l : List Tr.Nd) (hf : Fits l) (v : Value) (w : World) (hl : IsNodes w v l) (hc : (chkN l).1 ≠ 0) :
    Calls Tryz.prog 9 #[v] w fun e w' => e = .returned (.tuple #[.string (S []), .int .i64 ((chkN l).1 : Int)]) ∧ Below w.heap.size w w' := by
  have hck := treeCheck_any l hf v w hl
  have hc' : (((chkN l).1 : Int) != 0) = true := by simpa using hc
  generalize ((chkN l).1 : Int) = r1 at *
  generalize ((chkN l).2 : Int) = r2 at *
  obtain ⟨va, vc, rfl⟩ := hl.form
  clear hc hl
  go_enter Tryz.func9, Tryz.ntmps9
  go_wp2_with (go_at_call 25; refine hck.mono ?_; rintro e w1 ⟨rfl, hB1⟩)
  go_ret2
  exact ⟨rfl, hB1⟩

set_option maxHeartbeats 2000000 in
theorem pnExpr_ok (l : List Tr.Nd) (hf : Fits l) (hh : ∀ x ∈ l, Held x) (v : Value) (w : World) (hl : IsNodes w v l) (hT : Tab w) (hc : (chkN l).1 = 0) (t : Tr.T) (hw : Tr.wf t) (ht : l = Tr.flat t) :
    Calls Tryz.prog 9 #[v] w fun e w' => e = .returned (.tuple #[.string (S (srcS (pr Lib.itoa t))), .int .i64 (srcE (pr Lib.itoa t))]) ∧ Below w.heap.size w w' := by
  have hck := treeCheck_any l hf v w hl
  obtain ⟨_, _, _, hm, hl4, _⟩ := tree_of hc
  have hg := good_of hw ht hm hh
  have hne : l ≠ [] := by rw [ht]; intro e; have := Tr.flat_pos t; rw [e] at this; simp at this
  have hlow := nodes_in hl hne
  rw [hc] at hck
  have hlt : (Tr.flat t).length ≤ 4096 := ht ▸ hl4
  have htr : ∀ W, Below w.heap.size w W → Calls Tryz.prog 26 #[.pointer (some ⟨W.heap.size, 0, none⟩), v] (W.alloc (.cells #[.pointer none, .slice none 0 0, .slice none 0 0] 66)) fun e w' => e = .returned (.tuple #[]) ∧ (∃ c', Pen w' W.heap.size (pr Lib.itoa t) c') ∧ Below w.heap.size w w' := by
    intro W hB
    have hBa : Below w.heap.size w (W.alloc (.cells #[.pointer none, .slice none 0 0, .slice none 0 0] 66)) := hB.alloc hB.size _
    have hTK : TabK (W.alloc (.cells #[.pointer none, .slice none 0 0, .slice none 0 0] 66)) W.heap.size := fun w2 h2 => hT.below (hBa.trans (h2.mono hB.size))
    have hlW : IsNodes (W.alloc (.cells #[.pointer none, .slice none 0 0, .slice none 0 0] 66)) v (Tr.flat t) := by rw [← ht]; exact hl.below hBa
    have hlo : Low v W.heap.size := fun b o n c e => Nat.lt_of_lt_of_le (hlow b o n c e) hB.size
    have hts := tree_st W.heap.size [] _ v t _ (pen_new W) hTK hlW hlo hg (by rw [List.length_nil]; omega)
    refine hts.mono ?_
    rintro e w' ⟨rfl, c', hP, hW⟩
    exact ⟨rfl, ⟨c', by simpa using hP⟩, hBa.trans (hW.1.mono hB.size)⟩
  have hsr := fun b c W h => source_any b (pr Lib.itoa t) c W h
  obtain ⟨va, vc, rfl⟩ := hl.form
  generalize srcS (pr Lib.itoa t) = q at *
  generalize srcE (pr Lib.itoa t) = qe at *
  generalize pr Lib.itoa t = P at *
  generalize ((chkN l).2 : Int) = r2 at *
  have hck' : Calls Tryz.prog 25 #[.slice va l.length vc] w fun e w' => e = .returned (.tuple #[.int .i64 0, .int .i64 r2]) ∧ Below w.heap.size w w' := hck
  clear hl hlow hne hg hm hl4 hlt hc hw ht hck hf hh hT
  generalize l.length = ln at *
  go_enter Tryz.func9, Tryz.ntmps9
  go_wp2_with (go_at_call 25; refine hck'.mono ?_; rintro e w1 ⟨rfl, hB1⟩)
  refine (htr w1 hB1).mono ?_
  rintro e w2 ⟨rfl, ⟨c', hP⟩, hB2⟩
  have hq := hsr _ _ _ hP
  have hsz := hB1.size
  generalize w1.heap.size = pb at *
  go_wp2_with fail
  refine hq.mono ?_
  rintro e w3 ⟨rfl, hB3⟩
  go_wp2_with fail
  go_ret2
  exact ⟨rfl, hB2.trans (hB3.mono hsz)⟩
end Go.Proofs.YtpikfdkgblghhaaGreatDoor
namespace Go.Proofs.YtpikfdkgblghhaaGreatDoor
open Go.RowKit Pn
set_option maxRecDepth 100000
set_option linter.unusedSimpArgs false
set_option linter.unusedVariables false

set_option maxHeartbeats 2000000 in
theorem refAsked_any (k : Int) (j : Nat) (hj : j ≤ 100000) (w : World) :
    Calls Tryz.prog 62 #[.int .i8 k, .int .i64 (j : Int)] w fun e w' => e = .returned (.int .i64 (askd k j)) ∧ w' = w := by
  have h0 : (0 : Int) ≤ (j : Int) := by omega
  have h1 : (j : Int) ≤ 100000 := by omega
  have i1 := IntWalk.i64_in (1 - (j : Int)) (by omega)
  have i2 := IntWalk.i64_in (2 + (j : Int)) (by omega)
  have i3 := IntWalk.i64_in (3 + (j : Int)) (by omega)
  have i4 := IntWalk.i64_in (5 * (j : Int)) (by omega)
  have i5 := IntWalk.i64_in (5 - 5 * (j : Int)) (by omega)
  go_enter Tryz.func62, Tryz.ntmps62
  go_wp2
  all_goals
    go_ret
    refine ⟨ret_int ?_, rfl⟩
    unfold askd
    simp_all

set_option maxHeartbeats 1000000 in
theorem pnNames_any (s : ByteArray) (hs : s.size ≤ maxLen) (hc : (Tr.cut32 s.data.toList).2.2 = true) (w : World) : Calls Tryz.prog 112 #[.string s] w fun e w' => e = .returned (.tuple #[.string (S (Tr.cut32 s.data.toList).1), .string (S (Tr.cut32 s.data.toList).2.1)]) ∧ Below w.heap.size w w' := by
  have h := twoNames_any s hs w
  have e1 : (two s.data.toList).1 = (Tr.cut32 s.data.toList).1 := by unfold two; rw [if_pos hc]
  have e2 : (two s.data.toList).2.1 = (Tr.cut32 s.data.toList).2.1 := by unfold two; rw [if_pos hc]
  rw [e1, e2] at h
  clear e1 e2 hc
  generalize S (Tr.cut32 s.data.toList).1 = s1 at *
  generalize S (Tr.cut32 s.data.toList).2.1 = s2 at *
  generalize (two s.data.toList).2.2 = b at *
  go_enter Tryz.func112, Tryz.ntmps112
  go_wp2_with fail
  refine h.mono ?_
  rintro e w1 ⟨rfl, hB⟩
  clear h
  go_wp2_with fail
  go_ret2
  exact ⟨rfl, hB⟩

namespace Pn
/-- What Pieces answers. -/
def PcEnd (x : Tr.Nd) (w : World) (e : Ending) (w' : World) : Prop := e = .returned (.tuple #[.string (S (pcA Lib.itoa x)), .string (S (pcB x.kind 1)), .string (S (pcC x))]) ∧ Below w.heap.size w w'
theorem pc_end {x : Tr.Nd} {w w' : World} {e : Ending} {a b c : ByteArray} (h : e = .returned (.tuple #[.string a, .string b, .string c])) (ha : a = S (pcA Lib.itoa x)) (hb : b = S (pcB x.kind 1)) (hc : c = S (pcC x)) (hB : Below w.heap.size w w') : PcEnd x w e w' := by
  subst ha hb hc; exact ⟨h, hB⟩
end Pn
end Go.Proofs.YtpikfdkgblghhaaGreatDoor
