/- What holds at the head of each round of TextLies' loop. -/
import Derived.Test.YtjddbiabkobfoaaDoorLiesD
import Derived.Test.YtjddbiabkobfoaaDoorTokensW
namespace Go.Proofs.YtjddbiabkobfoaaDoor
open Go.RowKit
set_option maxRecDepth 100000

structure LInv (w wr : World) (H P : Nat) (bs : List UInt8) (d : List (Tx.Tk × Nat)) (la : Option Addr) (lc : Nat) (k : Nat) (WW : List UInt8) (wv : Value) : Prop where
  below : Below w.heap.size w wr
  wh : w.heap.size ≤ H
  hp : H ≤ P
  size : P < wr.heap.size
  row : wr.ownsRow H 40 5 (.slice la d.length lc) d.length (tkCells bs d)
  rowlt : ∀ g, (Value.slice la d.length lc).ownBlock = some g → g < P
  plc : wr.heap[P]? = some (.cells #[.int .i64 (Tx.lnTo bs k + 1), .int .i64 ((k : Int) - Tx.stTo bs k + 1)] 29 (0, 0))
  own : wr.ownsRow (P + 1) 5 1 wv WW.length (bcells WW)

section
variable {w wr W : World} {H P : Nat} {bs : List UInt8} {d : List (Tx.Tk × Nat)} {la : Option Addr} {lc k : Nat} {WW : List UInt8} {wv : Value}
theorem LInv.lower (h : LInv w wr H P bs d la lc k WW wv) (hB : Below wr.heap.size wr W) : LInv w W H P bs d la lc k WW wv := by
  have h1 := h.below.size
  have h2 := h.size
  exact ⟨h.below.trans (hB.mono h1), h.wh, h.hp, Nat.lt_of_lt_of_le h2 hB.size, own_lower h.row hB, h.rowlt, (hB.block P h2).trans h.plc, own_lower h.own hB⟩
theorem LInv.drewN (h : LInv w wr H P bs d la lc k WW wv) (n : Nat) : LInv w (wr.drewN n) H P bs d la lc k WW wv :=
  h.lower ⟨rfl, rfl, rfl, Nat.le_refl _, fun _ _ => rfl⟩
theorem LInv.place (h : LInv w wr H P bs d la lc k WW wv) (k' : Nat) : LInv w ((wr.setCell ⟨P, 0, none⟩ (.int .i64 (Tx.lnTo bs k' + 1))).setCell ⟨P, 1, none⟩ (.int .i64 ((k' : Int) - Tx.stTo bs k' + 1))) H P bs d la lc k' WW wv := by
  have hgs := grownBy_set2 wr P (.int .i64 (Tx.lnTo bs k' + 1)) (.int .i64 ((k' : Int) - Tx.stTo bs k' + 1))
  have h1 := h.below.size
  have h2 := h.size
  have h3 := h.wh
  have h4 := h.hp
  refine ⟨h.below.grown hgs h1 (fun x e => by cases e; omega), h.wh, h.hp, Nat.lt_of_lt_of_le h2 hgs.size, own_grown h.row hgs (fun g hq e => by cases e; exact absurd (h.rowlt _ hq) (Nat.lt_irrefl _)), h.rowlt, set2_block h.plc, own_kept h.own hgs (fun x e => by cases e; omega)⟩
theorem LInv.more (h : LInv w wr H P bs d la lc k WW wv) (hg : wr.grownBy W wv.ownBlock) {XX : List UInt8} {v' : Value} (ho : W.ownsRow (P + 1) 5 1 v' XX.length (bcells XX)) : LInv w W H P bs d la lc k XX v' := by
  have h1 := h.below.size
  have h2 := h.size
  have h3 := h.wh
  have h4 := h.hp
  have hlt := fun g (hq : wv.ownBlock = some g) => (h.own.lt g hq).1
  refine ⟨h.below.grown hg h1 (fun x e => by have := hlt x e; omega), h.wh, h.hp, Nat.lt_of_lt_of_le h2 hg.size, own_grown h.row hg (fun g hq e => by have := h.rowlt g hq; have := hlt g e.symm; omega), h.rowlt, (hg.block P h2 (fun e => by have := hlt P e.symm; omega)).trans h.plc, ho⟩
theorem LInv.at (h : LInv w wr H P bs d la lc k WW wv) {i : Nat} {kd n : Int} {s : List UInt8} {x : Nat} (hd : d[i]? = some (⟨kd, n, s⟩, x)) : ∃ g, la = some ⟨g, 0, none⟩ ∧ wr.cell? ⟨g, i * 5, none⟩ = some (.int .i8 kd) ∧ wr.cell? ⟨g, i * 5 + 1, none⟩ = some (.int .i64 n) ∧ wr.cell? ⟨g, i * 5 + 2, none⟩ = some (.string ⟨s.toArray⟩) ∧ wr.cell? ⟨g, i * 5 + 3, none⟩ = some (.int .i64 (Tx.lnTo bs x + 1)) ∧ wr.cell? ⟨g, i * 5 + 4, none⟩ = some (.int .i64 ((x : Int) - Tx.stTo bs x + 1)) := by
  have hi : i < d.length := (List.getElem?_eq_some_iff.1 hd).1
  have hx : d[i] = (⟨kd, n, s⟩, x) := by rw [List.getElem?_eq_getElem hi] at hd; exact Option.some.inj hd
  have h5 := rows_prog h.row i hi
  rw [sayAt_at hi, hx] at h5
  exact h5
end

namespace Tx
theorem items_nil : Items [] := fun x hx => by cases hx
theorem items_snoc {l : List (List UInt8 × List UInt8 × Tk)} (h : Items l) {g p : List UInt8} {t : Tk} (hg : Gap g) (hf : Far p t) : Items (l ++ [(g, p, t)]) := by
  intro x hx
  rcases List.mem_append.1 hx with hx | hx
  · exact h x hx
  · simp at hx; subst hx; exact ⟨hg, hf⟩
theorem spread_snoc (l : List (List UInt8 × List UInt8 × Tk)) (g p : List UInt8) (t : Tk) : spread (l ++ [(g, p, t)]) = spread l ++ (g ++ p) := by simp [spread]
end Tx
namespace Tx
/-- How far the walk along the tokens has come: what was written of them, and what is left. -/
structure LSay (bs : List UInt8) (d : List (Tk × Nat)) (i k : Nat) (l l' : List (List UInt8 × List UInt8 × Tk)) : Prop where
  hik : i ≤ k
  hk : k ≤ bs.length
  hid : i ≤ d.length
  it : Items l
  it' : Items l'
  mp : l.map (·.2.2) = (d.take i).map (·.1)
  mp' : l'.map (·.2.2) = (d.take i).map (·.1)
  len : (spread l).length ≤ 11 * i + k
  len' : (spread l').length ≤ i + k
  tk : tk bs k = .ok (d.drop i)
theorem LSay.start {bs : List UInt8} {d : List (Tk × Nat)} (h : all bs = .ok d) : LSay bs d 0 0 [] [] := by
  rw [tk_all] at h
  exact ⟨Nat.le_refl _, Nat.zero_le _, Nat.zero_le _, items_nil, items_nil, by simp, by simp, by simp [spread], by simp [spread], by simpa using h⟩
theorem gap_one : Gap [32] := gap_blanks (by simp) (by intro c hc; simp at hc; subst hc; decide)
theorem LSay.next {bs : List UInt8} {d : List (Tk × Nat)} {i k : Nat} {l l' : List (List UInt8 × List UInt8 × Tk)} (h : LSay bs d i k l l') (hi : i < d.length) :
    ∃ t j, d[i]? = some (t, behind bs k) ∧ k ≤ behind bs k ∧ behind bs k < bs.length ∧ one bs (behind bs k) = .ok (t, j) ∧ behind bs k < j ∧ j ≤ bs.length ∧ SaidOf t (sub bs (behind bs k) j) ∧ (sub bs (behind bs k) j).length = j - behind bs k ∧
      ∀ gap, Gap gap → gap.length ≤ 11 → LSay bs d (i + 1) j (l ++ [(gap, sub bs (behind bs k) j, t)]) (l' ++ [([32], sub bs (behind bs k) j, t)]) := by
  have hd : d.drop i = d[i] :: d.drop (i + 1) := List.drop_eq_getElem_cons hi
  rcases tk_next h.hk h.tk with ⟨h0, _⟩ | ⟨t, j, r, e1, h1, h2, h3, h4, h5⟩
  · rw [hd] at h0; cases h0
  · rw [hd] at e1
    obtain ⟨e1, e2⟩ := List.cons.inj e1
    have hj := one_ok h1 h2
    have hsl := sub_length (bs := bs) (i := behind bs k) (j := j) (by omega) hj.2.1
    have hst := behind_stops h.hk
    have hf := far_of h1 h2 h4 h5
    have ht : d.take (i + 1) = d.take i ++ [(t, behind bs k)] := by rw [List.take_succ_eq_append_getElem hi, e1]
    refine ⟨t, j, by rw [List.getElem?_eq_getElem hi, e1], hst.1, h1, h2, by omega, hj.2.1, said_of h1 h2, hsl, fun gap hg hgl => ⟨by have := h.hik; have := hst.1; omega, hj.2.1, hi, items_snoc h.it hg hf, items_snoc h.it' gap_one hf, by simp [ht, h.mp], by simp [ht, h.mp'], ?_, ?_, by rw [h3, e2]⟩⟩
    · have := h.len; have := hst.1
      rw [spread_snoc, List.length_append, List.length_append, hsl]; omega
    · have := h.len'; have := hst.1
      rw [spread_snoc, List.length_append, List.length_append, hsl]; simp; omega
theorem LSay.done {bs : List UInt8} {d : List (Tk × Nat)} {k : Nat} {l l' : List (List UInt8 × List UInt8 × Tk)} (h : LSay bs d d.length k l l') (hl : bs.length ≤ 4096) :
    behind bs k = bs.length ∧ (spread l).length ≤ 65536 ∧ (spread l').length ≤ 65536 ∧ (∃ r, all (spread l) = .ok r ∧ r.map (·.1) = d.map (·.1)) ∧ ∃ r, all (spread l') = .ok r ∧ r.map (·.1) = d.map (·.1) := by
  have h1 := h.hik
  have h2 := h.hk
  have h3 := h.len
  have h4 := h.len'
  obtain ⟨r, hr, hm⟩ := all_spread h.it
  obtain ⟨r', hr', hm'⟩ := all_spread h.it'
  have e := h.mp
  have e' := h.mp'
  rw [List.take_length] at e e'
  refine ⟨?_, by omega, by omega, ⟨r, hr, hm.trans e⟩, r', hr', hm'.trans e'⟩
  rcases tk_next h.hk h.tk with ⟨_, h0⟩ | ⟨t, j, r, e1, _⟩
  · exact h0
  · simp at e1
end Tx
/-- Lists with the same tokens say the same, but for the places. -/
theorem same_say {cs bs : List UInt8} {a d : List (Tx.Tk × Nat)} (h : a.map (·.1) = d.map (·.1)) : a.length = d.length ∧ ∀ i, i < a.length → (sayAt cs a i).1 = (sayAt bs d i).1 ∧ (sayAt cs a i).2.1 = (sayAt bs d i).2.1 ∧ (sayAt cs a i).2.2.1 = (sayAt bs d i).2.2.1 := by
  have hl : a.length = d.length := by simpa using congrArg List.length h
  refine ⟨hl, fun i hi => ?_⟩
  have e : (a[i]).1 = (d[i]'(by omega)).1 := by
    have := congrArg (fun l => l[i]?) h
    simpa [hi, hl ▸ hi] using this
  rw [sayAt_at hi, sayAt_at (by omega)]
  simp [e]
end Go.Proofs.YtjddbiabkobfoaaDoor
