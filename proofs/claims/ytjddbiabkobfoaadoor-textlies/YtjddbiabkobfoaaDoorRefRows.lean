/- The lists of tokens, piece by piece. -/
import Derived.Test.YtjddbiabkobfoaaDoorRefBut
import Derived.Test.YtjddbiabkobfoaaDoorWorks
namespace Go.Proofs.YtjddbiabkobfoaaDoor
open Go.RowKit

theorem flat_get {α β : Type} (h : α → List β) (z : Nat) (hz : ∀ x, (h x).length = z) : ∀ (l : List α) (i r : Nat) (hi : i < l.length), r < z → (l.flatMap h)[i * z + r]? = (h (l[i]'hi))[r]?
  | [], i, r, hi, _ => by simp at hi
  | x :: l, 0, r, _, hr => by
    rw [List.flatMap_cons, List.getElem?_append_left (by rw [hz]; omega)]
    simp
  | x :: l, i + 1, r, hi, hr => by
    have e : (i + 1) * z + r = z + (i * z + r) := by rw [Nat.add_mul]; omega
    rw [List.flatMap_cons, List.getElem?_append_right (by rw [hz]; omega), hz, show (i + 1) * z + r - z = i * z + r by omega]
    exact flat_get h z hz l i r (by simpa using hi) hr
/-- What a list says at a place. -/
def sayAt (bs : List UInt8) (d : List (Tx.Tk × Nat)) (i : Nat) : Int × Int × ByteArray × Int × Int :=
  match d[i]? with
  | some x => (x.1.kind, x.1.n, ⟨x.1.s.toArray⟩, (Tx.lnTo bs x.2 : Int) + 1, (x.2 : Int) - (Tx.stTo bs x.2 : Int) + 1)
  | none => (0, 0, ⟨#[]⟩, 0, 0)
theorem sayAt_at {bs : List UInt8} {d : List (Tx.Tk × Nat)} {i : Nat} (h : i < d.length) : sayAt bs d i = ((d[i]).1.kind, (d[i]).1.n, ⟨(d[i]).1.s.toArray⟩, (Tx.lnTo bs (d[i]).2 : Int) + 1, ((d[i]).2 : Int) - (Tx.stTo bs (d[i]).2 : Int) + 1) := by
  unfold sayAt
  rw [List.getElem?_eq_getElem h]
theorem rows_doc {W : World} {base : Nat} {bs : List UInt8} {d : List (Tx.Tk × Nat)} {a : Option Addr} {c : Nat} (h : W.ownsRow base 44 7 (.slice a d.length c) d.length (rkCells bs d)) : Rows5 W 7 a d.length (sayAt bs d) := by
  intro i hi
  obtain ⟨g, cap, hv, -, -, hg⟩ := own_cells h (by omega)
  cases hv
  have hq : i * 7 + 7 ≤ d.length * 7 := by omega
  have hx := fun r (hr : r < 7) => (hg (i * 7 + r) (by omega)).trans (flat_get (rkOne bs) 7 (fun _ => rfl) d i r hi hr)
  rw [sayAt_at hi]
  exact ⟨g, rfl, hx 0 (by omega), hx 1 (by omega), hx 2 (by omega), hx 3 (by omega), hx 4 (by omega)⟩
theorem rows_prog {W : World} {base : Nat} {bs : List UInt8} {d : List (Tx.Tk × Nat)} {a : Option Addr} {c : Nat} (h : W.ownsRow base 40 5 (.slice a d.length c) d.length (tkCells bs d)) : Rows5 W 5 a d.length (sayAt bs d) := by
  intro i hi
  obtain ⟨g, cap, hv, -, -, hg⟩ := own_cells h (by omega)
  cases hv
  have hq : i * 5 + 5 ≤ d.length * 5 := by omega
  have hx := fun r (hr : r < 5) => (hg (i * 5 + r) (by omega)).trans (flat_get (fun x : Tx.Tk × Nat => (tokCells x.1.kind x.1.n x.1.s ((Tx.lnTo bs x.2 : Int) + 1) ((x.2 : Int) - (Tx.stTo bs x.2 : Int) + 1)).toList) 5 (fun _ => rfl) d i r hi hr)
  rw [sayAt_at hi]
  exact ⟨g, rfl, hx 0 (by omega), hx 1 (by omega), hx 2 (by omega), hx 3 (by omega), hx 4 (by omega)⟩
end Go.Proofs.YtjddbiabkobfoaaDoor
