/- The finder of free names: its block, its two maps, and what meet does. Package check: the closure that tells the environment around a whole tree. -/
import Derived.Test.YthihnkgjkmaplaaDoorUap
import Derived.Maps.AppendAt
import Derived.Test.YthihnkgjkmaplaaDoorUao
namespace Go.Proofs.YthihnkgjkmaplaaDoor
open Go.RowKit Go.Maps
open Go.WideMaps Go.WideElems
set_option maxRecDepth 100000
set_option linter.unusedSimpArgs false

theorem ty3 : Tryd.prog.underlying 3 = some (.int .i64) := by kernel_rfl
theorem tyCnt : Tryd.prog.underlying 61 = some (.map 9 3) := by kernel_rfl
theorem kz3 (w : World) : (zeroValue 3).run Tryd.prog w = .ok (.int .i64 0) w := by kernel_rfl

/-- Block b is a map that counts texts by f; it was written at most n times. -/
def Cnt (w : World) (b n : Nat) (f : List UInt8 → Nat) : Prop :=
  ∃ D : DataW Unit, w.ownsMap Tryd.prog 9 (plainElem Tryd.prog 3) b n D ∧ ∀ l, D.atKey (.string l) (.lit (.int .i64 0)) = .lit (.int .i64 (f l : Int))
theorem Cnt.lt {w : World} {b n : Nat} {f : List UInt8 → Nat} (h : Cnt w b n f) : b < w.heap.size := by obtain ⟨D, h, _⟩ := h; exact h.lt
theorem Cnt.kept {w w' : World} {b n : Nat} {f : List UInt8 → Nat} {r : Option Nat} (h : Cnt w b n f) (hg : w.grownBy w' r) (hne : some b ≠ r) : Cnt w' b n f := by
  obtain ⟨D, h1, h2⟩ := h; exact ⟨D, h1.kept hg hne, h2⟩
theorem Cnt.look {w : World} {b n : Nat} {f : List UInt8 → Nat} (h : Cnt w b n f) (s : ByteArray) (hs : s.size ≤ maxLen) :
    (Instr.lookup 61 (.map (some b)) (.string s) false).run Tryd.prog w = .ok (.int .i64 (f s.data.toList : Int)) w := by
  obtain ⟨D, h1, h2⟩ := h
  obtain ⟨c, hrun, hat, _⟩ := h1.lookup_int keyed9 tyCnt ty3 (kz3 w) (key := .string s) (kl := .string s.data.toList) (keyOf_string_mk ty9 hs)
  rw [h2] at hat
  rw [hrun]
  cases hat
  rfl
theorem Cnt.same {w : World} {b n : Nat} {f g : List UInt8 → Nat} (h : Cnt w b n f) (e : ∀ l, f l = g l) : Cnt w b n g := by
  obtain ⟨D, h1, h2⟩ := h; exact ⟨D, h1, fun l => by rw [h2, e]⟩
theorem Cnt.more {w : World} {b n m : Nat} {f : List UInt8 → Nat} (h : Cnt w b n f) (e : n ≤ m) : Cnt w b m f := by
  obtain ⟨D, h1, h2⟩ := h; exact ⟨D, h1.mono e, h2⟩
theorem Cnt.made (w : World) : Cnt (w.alloc (.map #[] 0)) w.heap.size 0 (fun _ => 0) := ⟨.map [], World.ownsMap_made w _ _ _, fun _ => rfl⟩

theorem wpList_count (w : World) {ops : Array Oper} {rest : List Oper} {o : Oper} {a : Act} {Q : Exit → Act → World → Prop}
    (hg : o.guard = none) (m x v : Operand) (hop : o.op = Op.mapUpdate 61 m x v) (b n : Nat) (f : List UInt8 → Nat) (hm : a.eval m = .map (some b)) (h : Cnt w b n f) (hn : n < 1000000) (s : ByteArray) (hs : s.size ≤ maxLen)
    (hx : a.eval x = .string s) (z : Int) (hv : a.eval v = .int .i64 z) (c : Nat) (hz : z = (c : Int)) (hc : c ≤ 1000000)
    (hK : ∀ w', Cnt w' b (n + 1) (fun l => if l = s.data.toList then c else f l) → w.grownBy w' (some b) → wpList Tryd.prog ops Q rest (a.put o.dst undef) w') :
    wpList Tryd.prog ops Q (o :: rest) a w := by
  obtain ⟨D, hD, hat⟩ := h
  subst hz
  refine wpList_mapUpdate_own w hg m x v 61 hop 9 3 keyed9 tyCnt (plainElem Tryd.prog 3) b n D hm hD (by unfold maxLen; omega) _ _ (.string s.data.toList) hx hv (keyOf_string_mk ty9 hs) (.lit (.int .i64 (c : Int))) [] (plainElem_int ty3 (by apply WalkArith.wf_i64; omega)) ?_
  intro w' h1 h2
  refine hK w' ⟨_, h1, fun l => ?_⟩ h2
  by_cases e : l = s.data.toList
  · subst e
    rw [atKey_put_same hD.isMap (by trivial)]
    simp
  · rw [atKey_put_other (by intro h; cases h; exact e rfl), hat]
    simp [e]

/-- The finder's block. -/
def Fn (w : World) (fb : Nat) (v : Value) (p : Nat) (bm tm : Nat) (fv : Value) : Prop :=
  w.heap[fb]? = some (.cells #[v, .int .i64 (p : Int), .map (some bm), .map (some tm), fv] 63 (0, 0))
theorem Fn.c {w : World} {fb : Nat} {v : Value} {p bm tm : Nat} {fv : Value} (h : Fn w fb v p bm tm fv) :
    w.cell? ⟨fb, 0, none⟩ = some v ∧ w.cell? ⟨fb, 1, none⟩ = some (.int .i64 (p : Int)) ∧ w.cell? ⟨fb, 2, none⟩ = some (.map (some bm)) ∧ w.cell? ⟨fb, 3, none⟩ = some (.map (some tm)) ∧ w.cell? ⟨fb, 4, none⟩ = some fv := by
  unfold Fn at h; simp [World.cell?, h]
theorem Fn.f {w : World} {fb : Nat} {v : Value} {p bm tm : Nat} {fv : Value} (h : Fn w fb v p bm tm fv) (o : Nat) : w.frozen? ⟨fb, o, none⟩ = false := by
  unfold Fn at h; simp [World.frozen?, h]
theorem Fn.lt {w : World} {fb : Nat} {v : Value} {p bm tm : Nat} {fv : Value} (h : Fn w fb v p bm tm fv) : fb < w.heap.size := by
  unfold Fn at h; exact (Array.getElem?_eq_some_iff.1 h).1
theorem Fn.setP {w : World} {fb : Nat} {v : Value} {p bm tm : Nat} {fv : Value} (h : Fn w fb v p bm tm fv) {x : Int} (k : Nat) (hx : x = k) : Fn (w.setCell ⟨fb, 1, none⟩ (.int .i64 x)) fb v k bm tm fv := by
  subst hx; unfold Fn at *; simp [World.setCell, Array.getElem?_modify, h]
theorem Fn.setF {w : World} {fb : Nat} {v : Value} {p bm tm : Nat} {fv : Value} (h : Fn w fb v p bm tm fv) (u : Value) : Fn (w.setCell ⟨fb, 4, none⟩ u) fb v p bm tm u := by
  unfold Fn at *; simp [World.setCell, Array.getElem?_modify, h]
theorem Fn.kept {w w' : World} {fb : Nat} {v : Value} {p bm tm : Nat} {fv : Value} {r : Option Nat} (h : Fn w fb v p bm tm fv) (hg : w.grownBy w' r) (hne : some fb ≠ r) : Fn w' fb v p bm tm fv := by
  unfold Fn at *; rw [hg.block fb (Array.getElem?_eq_some_iff.1 h).1 hne]; exact h

/-- What the finder holds at a place: the names bound above, the free ones found so far. -/
structure FS (w : World) (R fb bm tm : Nat) (v : Value) (p : Nat) (b acc : List (List UInt8)) (nb nt : Nat) (fv : Value) : Prop where
  blk : Fn w fb v p bm tm fv
  row : w.ownsRow R 9 1 fv acc.length (tcells acc)
  bnd : Cnt w bm nb (fun n => b.count n)
  told : ∃ f, Cnt w tm nt f ∧ ∀ n, f n ≤ nt ∧ (f n = 0 ↔ n ∉ acc)
  fR : fb < R
  bR : bm < R
  tR : tm < R
  n1 : fb ≠ bm
  n2 : fb ≠ tm
  n3 : bm ≠ tm
  lt : R ≤ w.heap.size
/-- What stays: all blocks but the finder's own; its list stays where it is, or lies in a new one. -/
structure KF (w w' : World) (fb bm tm : Nat) (fv fv' : Value) : Prop where
  os : w'.os = w.os
  tape : w'.tape = w.tape
  output : w'.output = w.output
  size : w.heap.size ≤ w'.heap.size
  block : ∀ k, k < w.heap.size → k ≠ fb → k ≠ bm → k ≠ tm → some k ≠ fv.ownBlock → w'.heap[k]? = w.heap[k]?
  row : fv'.ownBlock = fv.ownBlock ∨ ∀ k, fv'.ownBlock = some k → w.heap.size ≤ k
theorem KF.refl (w : World) (fb bm tm : Nat) (fv : Value) : KF w w fb bm tm fv fv := ⟨rfl, rfl, rfl, Nat.le_refl _, fun _ _ _ _ _ _ => rfl, .inl rfl⟩
theorem KF.trans {w w1 w2 : World} {fb bm tm : Nat} {fv fv1 fv2 : Value} (h : KF w w1 fb bm tm fv fv1) (k : KF w1 w2 fb bm tm fv1 fv2) : KF w w2 fb bm tm fv fv2 := by
  refine ⟨k.os.trans h.os, k.tape.trans h.tape, k.output.trans h.output, Nat.le_trans h.size k.size, fun i hi a1 a2 a3 a4 => ?_, ?_⟩
  · refine (k.block i (Nat.lt_of_lt_of_le hi h.size) a1 a2 a3 ?_).trans (h.block i hi a1 a2 a3 a4)
    rcases h.row with e | e
    · rw [e]; exact a4
    · intro e2; have := e i e2.symm; omega
  · rcases k.row with e | e
    · rcases h.row with e' | e'
      · exact .inl (e.trans e')
      · exact .inr (fun j hj => e' j (by rw [← e]; exact hj))
    · exact .inr (fun j hj => Nat.le_trans h.size (e j hj))
theorem KF.grown {w w' : World} {fb bm tm : Nat} {fv : Value} {r : Option Nat} (h : w.grownBy w' r) (hr : ∀ k, some k = r → k = fb ∨ k = bm ∨ k = tm) : KF w w' fb bm tm fv fv :=
  ⟨h.os, h.tape, h.output, h.size, fun k hk a1 a2 a3 _ => h.block k hk (fun e => (hr k e).elim a1 (fun e => e.elim a2 a3)), .inl rfl⟩
theorem KF.of {w w' : World} {fb bm tm : Nat} {fv : Value} (h : Below w.heap.size w w') : KF w w' fb bm tm fv fv := ⟨h.os, h.tape, h.output, h.size, fun k hk _ _ _ _ => h.block k hk, .inl rfl⟩
theorem KF.low {w w' : World} {fb bm tm R B0 : Nat} {fv fv' : Value} (h : KF w w' fb bm tm fv fv') (hB0 : B0 ≤ fb ∧ B0 ≤ bm ∧ B0 ≤ tm ∧ B0 ≤ R) (hw : B0 ≤ w.heap.size) (hr : ∀ k, fv.ownBlock = some k → R ≤ k) : Below B0 w w' :=
  ⟨h.os, h.tape, h.output, h.size, fun k hk => h.block k (by omega) (by omega) (by omega) (by omega) (fun e => by have := hr k e.symm; omega)⟩
theorem FS.rowR {w : World} {R fb bm tm : Nat} {v : Value} {p : Nat} {b acc : List (List UInt8)} {nb nt : Nat} {fv : Value} (h : FS w R fb bm tm v p b acc nb nt fv) : ∀ k, fv.ownBlock = some k → R ≤ k := fun k hk => (h.row.lt k hk).1
theorem FS.below {w w' : World} {R fb bm tm : Nat} {v : Value} {p : Nat} {b acc : List (List UInt8)} {nb nt : Nat} {fv : Value} (h : FS w R fb bm tm v p b acc nb nt fv) (hB : Below w.heap.size w w') : FS w' R fb bm tm v p b acc nb nt fv := by
  have hg : w.grownBy w' none := grown_of_below (grownBy_refl _ _) hB
  obtain ⟨h1, h2, h3, ⟨f, h4, h5⟩, a1, a2, a3, b1, b2, b3, h6⟩ := h
  exact ⟨h1.kept hg (by simp), own_below h2 hB, h3.kept hg (by simp), ⟨f, h4.kept hg (by simp), h5⟩, a1, a2, a3, b1, b2, b3, Nat.le_trans h6 hB.size⟩
theorem FS.more {w : World} {R fb bm tm : Nat} {v : Value} {p : Nat} {b acc : List (List UInt8)} {nb nt nb' nt' : Nat} {fv : Value} (h : FS w R fb bm tm v p b acc nb nt fv) (e1 : nb ≤ nb') (e2 : nt ≤ nt') : FS w R fb bm tm v p b acc nb' nt' fv := by
  obtain ⟨h0, h2, h3, ⟨f, h4, h5⟩, a1, a2, a3, b1, b2, b3, h6⟩ := h
  exact ⟨h0, h2, h3.more e1, ⟨f, h4.more e2, fun n => ⟨Nat.le_trans (h5 n).1 e2, (h5 n).2⟩⟩, a1, a2, a3, b1, b2, b3, h6⟩
theorem FS.same {w : World} {R fb bm tm : Nat} {v : Value} {p : Nat} {b b' acc : List (List UInt8)} {nb nt : Nat} {fv : Value} (h : FS w R fb bm tm v p b acc nb nt fv) (e : ∀ n, b.count n = b'.count n) : FS w R fb bm tm v p b' acc nb nt fv := by
  obtain ⟨h0, h2, h3, h4, a1, a2, a3, b1, b2, b3, h6⟩ := h
  exact ⟨h0, h2, h3.same e, h4, a1, a2, a3, b1, b2, b3, h6⟩
/-- The names bound are counted anew. -/
theorem FS.bump {w w' : World} {R fb bm tm : Nat} {v : Value} {p : Nat} {b b' acc : List (List UInt8)} {nb nt : Nat} {fv : Value} {g : List UInt8 → Nat} (h : FS w R fb bm tm v p b acc nb nt fv) (hc : Cnt w' bm (nb + 1) g) (hg : w.grownBy w' (some bm)) (e : ∀ n, g n = b'.count n) : FS w' R fb bm tm v p b' acc (nb + 1) nt fv := by
  obtain ⟨h1, h2, h3, ⟨f, h4, h5⟩, a1, a2, a3, b1, b2, b3, h6⟩ := h
  refine ⟨h1.kept hg (by simpa using b1), h2.kept hg ?_, hc.same e, ⟨f, h4.kept hg (by simpa using Ne.symm b3), h5⟩, a1, a2, a3, b1, b2, b3, Nat.le_trans h6 hg.size⟩
  cases hv : fv.ownBlock with
  | none => exact .inl rfl
  | some k => exact .inr (by have := (h2.lt k hv).1; simp; omega)

/-- A name that is met. -/
def Tr.met (b acc : List (List UInt8)) (n : List UInt8) : List (List UInt8) := Tr.add1 acc (if n ∈ b then none else some n)

set_option maxHeartbeats 2000000 in
theorem meet_any (w : World) (R fb bm tm : Nat) (v : Value) (p : Nat) (b acc : List (List UInt8)) (nb nt : Nat) (fv : Value) (h : FS w R fb bm tm v p b acc nb nt fv) (hnt : nt ≤ 100000) (hal : acc.length ≤ 100000) (s : ByteArray) (hs : s.size ≤ maxLen) :
    Calls Tryd.prog 43 #[.pointer (some ⟨fb, 0, none⟩), .string s] w fun e w' => e = .returned (.tuple #[]) ∧ ∃ fv', FS w' R fb bm tm v p b (Tr.met b acc s.data.toList) nb (nt + 1) fv' ∧ KF w w' fb bm tm fv fv' := by
  obtain ⟨i0, hi, hz0, hz1, hz2⟩ := info_parts info9
  have h0 := h
  obtain ⟨h1, h2, h3, ⟨f, h4, h5⟩, a1, a2, a3, b1, b2, b3, h6⟩ := h
  obtain ⟨c0, c1, c2, c3, c4⟩ := h1.c
  have lb := h3.look s hs
  have lt := h4.look s hs
  have f4 := h1.f 4
  have hbl := h1.lt
  obtain ⟨va, vc, rfl⟩ := own_len h2
  by_cases hb : s.data.toList ∈ b
  · have HR : Aside (Tr.met b acc s.data.toList = acc) := by show _ = _; unfold Tr.met; rw [if_pos hb]; rfl
    have hcp : 0 < b.count s.data.toList := List.count_pos_iff.2 hb
    have hcp' : (0 : Int) < ((b.count s.data.toList : Nat) : Int) := by omega
    generalize b.count s.data.toList = z at *
    have H0 := h0.more (Nat.le_refl nb) (Nat.le_succ nt)
    clear hb h2 h3 h4 h5 lt h0
    go_enter Tryd.func43, Tryd.ntmps43
    go_wp2_with fail
    refine bodyPost_ret (results_none rfl _ _ _) rfl ?_
    rw [HR.out]
    exact ⟨rfl, _, H0, KF.refl _ _ _ _ _⟩
  · have hcz : b.count s.data.toList = 0 := List.count_eq_zero.2 hb
    rw [hcz] at lb
    have hft := (h5 s.data.toList)
    have hfl := hft.1
    clear h0
    by_cases hac : s.data.toList ∈ acc
    · have HR : Aside (Tr.met b acc s.data.toList = acc) := by show _ = _; unfold Tr.met Tr.add1; rw [if_neg hb]; simp [hac]
      have hf0 : f s.data.toList ≠ 0 := fun e => (hft.2.1 e) hac
      have hf0' : ((f s.data.toList : Int) == 0) = false := by simpa using hf0
      have HT : Aside (∀ (w' : World), Cnt w' tm (nt + 1) (fun l => if l = s.data.toList then f s.data.toList + 1 else f l) → w.grownBy w' (some tm) → FS w' R fb bm tm v p b acc nb (nt + 1) (.slice va acc.length vc)) := by
        show ∀ (w' : World), Cnt w' tm (nt + 1) (fun l => if l = s.data.toList then f s.data.toList + 1 else f l) → w.grownBy w' (some tm) → FS w' R fb bm tm v p b acc nb (nt + 1) (.slice va acc.length vc)
        intro w' hc hg
        refine ⟨h1.kept hg (by simpa using b2), h2.kept hg ?_, h3.kept hg (by simpa using b3), ⟨_, hc, fun n => ?_⟩, a1, a2, a3, b1, b2, b3, Nat.le_trans h6 hg.size⟩
        · cases va with
          | none => exact .inl rfl
          | some k => exact .inr (by have := (h2.lt k.block rfl).1; simp [Value.ownBlock]; omega)
        · have hn := h5 n
          by_cases e : n = s.data.toList
          · subst e; simp [hac]; omega
          · simp only [if_neg e]; exact ⟨by omega, hn.2⟩
      clear hb hac hft hcz h3 h2 h5
      go_enter Tryd.func43, Tryd.ntmps43
      go_wp2_with (at_mapUpdate; refine wpList_count _ rfl _ _ _ rfl tm nt f rfl h4 (by omega) s hs rfl _ rfl (f s.data.toList + 1) (by simp) (by omega) ?_; intro w1 hc1 hg1)
      refine bodyPost_end (results_none rfl _ _ _) rfl ?_
      rw [HR.out]
      exact ⟨rfl, _, HT.out w1 hc1 hg1, KF.grown hg1 (fun k e => by cases e; exact .inr (.inr rfl))⟩
    · have HR : Aside (Tr.met b acc s.data.toList = acc ++ [s.data.toList]) := by show _ = _; unfold Tr.met Tr.add1; rw [if_neg hb]; simp [hac]
      have hf0 : f s.data.toList = 0 := hft.2.2 hac
      have HF0 : Aside (f s.data.toList = 0) := hf0
      rw [hf0] at lt
      clear hb hft hcz hf0 hfl
      have stepA : ∀ (v2 : Value) (w2 : World), w2.ownsRow R 9 1 v2 (acc.length + 1) (tcells acc ++ [.string s]) → w.grownBy w2 (Value.slice va acc.length vc).ownBlock → (v2.ownBlock = (Value.slice va acc.length vc).ownBlock ∨ v2.ownBlock = some (w.heap.size + 1)) →
          Fn w2 fb v p bm tm (.slice va acc.length vc) ∧ Fn (w2.setCell ⟨fb, 4, none⟩ v2) fb v p bm tm v2 ∧ (w2.setCell ⟨fb, 4, none⟩ v2).ownsRow R 9 1 v2 (acc.length + 1) (tcells acc ++ [.string s]) ∧ Cnt (w2.setCell ⟨fb, 4, none⟩ v2) bm nb (fun n => b.count n) ∧ Cnt (w2.setCell ⟨fb, 4, none⟩ v2) tm nt f ∧ KF w (w2.setCell ⟨fb, 4, none⟩ v2) fb bm tm (.slice va acc.length vc) v2 := by
        intro v2 w2 ho hg hloc
        have hne : ∀ k, k < R → some k ≠ (Value.slice va acc.length vc).ownBlock := fun k hk e => by have := (h2.lt k e.symm).1; omega
        have hg4 : w2.grownBy (w2.setCell ⟨fb, 4, none⟩ v2) (some fb) := grownBy_set (grownBy_refl _ _) _
        refine ⟨h1.kept hg (hne _ a1), (h1.kept hg (hne _ a1)).setF _, ?_, (h3.kept hg (hne _ a2)).kept hg4 (by simpa using Ne.symm b1), (h4.kept hg (hne _ a3)).kept hg4 (by simpa using Ne.symm b2), ?_⟩
        · refine ho.kept hg4 ?_
          cases hv : v2.ownBlock with
          | none => exact .inl rfl
          | some k => exact .inr (by have := (ho.lt k hv).1; simp; omega)
        · refine KF.trans (fv1 := v2) ⟨hg.os, hg.tape, hg.output, hg.size, fun k hk _ _ _ hne => hg.block k hk hne, ?_⟩ (KF.grown hg4 (fun k e => by cases e; exact .inl rfl))
          rcases hloc with e | e
          · exact .inl e
          · exact .inr (fun k hk => by rw [e] at hk; cases hk; omega)
      have HT : Aside (∀ (w3 w' : World) (v2 : Value), Fn w3 fb v p bm tm v2 → w3.ownsRow R 9 1 v2 (acc.length + 1) (tcells acc ++ [.string s]) → Cnt w3 bm nb (fun n => b.count n) → R ≤ w3.heap.size → Cnt w' tm (nt + 1) (fun l => if l = s.data.toList then 1 else f l) → w3.grownBy w' (some tm) → FS w' R fb bm tm v p b (acc ++ [s.data.toList]) nb (nt + 1) v2) := by
        show ∀ (w3 w' : World) (v2 : Value), Fn w3 fb v p bm tm v2 → w3.ownsRow R 9 1 v2 (acc.length + 1) (tcells acc ++ [.string s]) → Cnt w3 bm nb (fun n => b.count n) → R ≤ w3.heap.size → Cnt w' tm (nt + 1) (fun l => if l = s.data.toList then 1 else f l) → w3.grownBy w' (some tm) → FS w' R fb bm tm v p b (acc ++ [s.data.toList]) nb (nt + 1) v2
        intro w3 w' v2 k2 k3 k4 k6 hc hg
        refine ⟨k2.kept hg (by simpa using b2), ?_, k4.kept hg (by simpa using b3), ⟨_, hc, fun n => ?_⟩, a1, a2, a3, b1, b2, b3, Nat.le_trans k6 hg.size⟩
        · rw [List.length_append, tcells_append]
          refine World.ownsRow.kept k3 hg ?_
          cases hv : v2.ownBlock with
          | none => exact .inl rfl
          | some k => exact .inr (by have := (k3.lt k hv).1; simp; omega)
        · have hn := h5 n
          by_cases e : n = s.data.toList
          · subst e; simp
          · simp only [if_neg e]
            refine ⟨by omega, ?_⟩
            rw [hn.2]
            simp [e]
      clear h5 hac h3 h4
      go_enter Tryd.func43, Tryd.ntmps43
      go_wp2_with (first
        | (at_builtin; go_must (refine wpList_append_own_at _ rfl _ _ 23 rfl R 9 i0 (.string ⟨#[]⟩) 1 16 tyTexts hi hz0 hz1 hz2 rfl (by decide) (.slice va acc.length vc) _ _ rfl (h2.alloc _) ⟨w.heap.size, 0, none⟩ 1 1 [.string s] rfl rfl (cells_list_new _ [.string s] 9) (fun u hu => by simp at hu; subst hu; rfl) (by unfold maxLen; omega) (by omega) (by simp; omega) ?_); intro v2 w2 hown2 hg2 _ hloc; obtain ⟨va2, vc2, hv2⟩ := own_len hown2; subst hv2; obtain ⟨k1, k2, k3, k4, k5, k6⟩ := stepA _ w2 hown2 (grownBy_alloc_pre hg2) (by simpa using hloc); obtain ⟨e0, e1, e2, e3, e4⟩ := k1.c; have e5 := k1.f 4; have e6 := k5.look s hs; rw [HF0.out] at e6)
        | (at_mapUpdate; refine wpList_count _ rfl _ _ _ rfl tm nt f rfl k5 (by omega) s hs rfl _ rfl 1 rfl (by omega) ?_; intro w5 hc5 hg5))
      refine bodyPost_end (results_none rfl _ _ _) rfl ?_
      rw [HR.out]
      have hR2 : R ≤ w2.heap.size := Nat.le_trans h6 (grownBy_alloc_pre hg2).size
      exact ⟨rfl, _, HT.out _ w5 _ k2 k3 k4 (by simpa [World.setCell] using hR2) hc5 hg5, k6.trans (KF.grown hg5 (fun k e => by cases e; exact .inr (.inr rfl)))⟩
end Go.Proofs.YthihnkgjkmaplaaDoor
namespace Go.Proofs.YthihnkgjkmaplaaDoor
open Go.RowKit Go.Maps Ck
open Go.WideMaps Go.WideElems
open T3.Tp (Ty enc cns met)
set_option maxRecDepth 100000
set_option linter.unusedSimpArgs false

/-- Block b is a map that knows of texts the numbers that g tells. -/
def Idx (w : World) (b n : Nat) (g : List UInt8 → Option Nat) : Prop :=
  ∃ D : DataW Unit, w.ownsMap Tryd.prog 9 (plainElem Tryd.prog 3) b n D ∧ ∀ l, Maps.has D (.string l) = (g l).isSome ∧ D.atKey (.string l) (.lit (.int .i64 0)) = .lit (.int .i64 (((g l).getD 0 : Nat) : Int))

set_option maxHeartbeats 2000000 in
theorem env1_any (w : World) (M T b n : Nat) (g : List UInt8 → Option Nat) (ts : List Ty) (env : Env) (m : ByteArray) (hm : m.size ≤ maxLen) (hI : Idx w b n g) (h1 : w.cell? ⟨M, 0, none⟩ = some (.map (some b))) (vt : Value) (h2 : w.cell? ⟨T, 0, none⟩ = some vt)
    (hts : ∀ j t, ts[j]? = some t → ∃ tb k c, vt = .slice (some ⟨tb, k, none⟩) ts.length c ∧ w.cell? ⟨tb, k + j, none⟩ = some (.string (S (enc t)))) (hg : ∀ l j, g l = some j → j < ts.length) (hl : ∀ l, Ck.look env l = (g l).bind fun j => ts[j]?) :
    Calls Tryd.prog 31 #[.string m, .pointer (some ⟨M, 0, none⟩), .pointer (some ⟨T, 0, none⟩)] w fun e w2 => e = .returned (.tuple #[.string (lookS env m), .bool (lookB env m)]) ∧ w2 = w := by
  obtain ⟨D, hD, hat⟩ := hI
  obtain ⟨ha1, ha2⟩ := hat m.data.toList
  have hlk := hl m.data.toList
  cases hgm : g m.data.toList with
  | none =>
    rw [hgm] at ha1 ha2 hlk
    have e1 : lookS env m = ⟨#[]⟩ := by unfold lookS; rw [hlk]; rfl
    have e2 : lookB env m = false := by unfold lookB; rw [hlk]; rfl
    rw [e1, e2]
    have HA1 : Aside _ := ha1
    clear hat ha1 ha2 hlk hgm hg hl e1 e2 hts
    go_enter Tryd.func31, Tryd.ntmps31
    go_wp2_with (at_lookup; refine wpList_lookup_own_ok_int _ rfl _ _ 61 rfl 9 3 .i64 keyed9 tyCnt ty3 (kz3 _) b n D rfl hD _ _ rfl (keyOf_string_mk ty9 hm) ?_; intro c hc hwc; rw [HA1.out])
    go_ret2
    exact ⟨rfl, rfl⟩
  | some j =>
    rw [hgm] at ha1 ha2 hlk
    have hj := hg _ _ hgm
    obtain ⟨t, ht⟩ : ∃ t, ts[j]? = some t := ⟨_, List.getElem?_eq_getElem hj⟩
    have hlk2 : Ck.look env m.data.toList = some t := by rw [hlk]; exact ht
    have e1 : lookS env m = S (enc t) := by unfold lookS; rw [hlk2]
    have e2 : lookB env m = true := by unfold lookB; rw [hlk2]; rfl
    rw [e1, e2]
    obtain ⟨tb, k, c, rfl, hcell⟩ := hts j t ht
    have hj' : (j : Int) < (ts.length : Int) := by omega
    have HA1 : Aside _ := ha1
    have HA2 : Aside (∀ c : Int, D.atKey (.string m.data.toList) (.lit (.int .i64 0)) = .lit (.int .i64 c) → c = (j : Int)) := fun c hc => by rw [ha2] at hc; simp at hc; omega
    clear hat ha1 ha2 hlk hlk2 hgm hg hl e1 e2 hts ht
    generalize S (enc t) = st at *
    go_enter Tryd.func31, Tryd.ntmps31
    go_wp2_with (at_lookup; refine wpList_lookup_own_ok_int _ rfl _ _ 61 rfl 9 3 .i64 keyed9 tyCnt ty3 (kz3 _) b n D rfl hD _ _ rfl (keyOf_string_mk ty9 hm) ?_; intro c hc hwc; rw [HA1.out, HA2.out c hc])
    go_ret2
    exact ⟨rfl, rfl⟩
end Go.Proofs.YthihnkgjkmaplaaDoor
