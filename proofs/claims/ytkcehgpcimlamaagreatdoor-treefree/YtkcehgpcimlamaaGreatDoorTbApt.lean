/- Lists of texts that lie apart: what the bag finds. -/
import Derived.Test.YtkcehgpcimlamaaGreatDoorTbAdd
import Derived.Test.YtkcehgpcimlamaaGreatDoorTbBag
namespace Go.Proofs.YtkcehgpcimlamaaGreatDoor.Tb
open Go.RowKit

/-- The bag's lists of texts: row n is marked as far as m n; the rows lie apart from each other and from the bag. -/
structure Lain (w : World) (H B g N cT : Nat) (vs : List Value) (m : Nat → Nat) : Prop where
  bag : w.cell? ⟨B, 4, none⟩ = some (.slice (some ⟨g, 0, none⟩) N cT)
  num : vs.length = N
  few : N ≤ 300
  nBg : B ≠ g
  lB : B < w.heap.size
  lg : g < w.heap.size
  cell : ∀ (n : Nat) (v : Value), vs[n]? = some v → w.cell? ⟨g, n, none⟩ = some v
  row : ∀ (n : Nat) (v : Value), vs[n]? = some v → ∃ a l c xs, v = .slice a l c ∧ l ≤ 1000000 ∧ w.ownsRow H 9 1 v l xs ∧ (∀ j, j < m n → j < l → xs[j]? = some (.string (mk n j))) ∧ (∀ b, v.ownBlock = some b → b ≠ B ∧ b ≠ g)
  apart : ∀ (n k : Nat) (u v : Value) (b : Nat), vs[n]? = some u → vs[k]? = some v → n ≠ k → u.ownBlock = some b → v.ownBlock ≠ some b

theorem own_below {w w' : World} {H e n : Nat} {v : Value} {xs : List Value} (h : w.ownsRow H e 1 v n xs) (hB : Below w.heap.size w w') : w'.ownsRow H e 1 v n xs := by
  obtain ⟨h1, h2 | ⟨g, cap, cur, rfl, hg, hh, hr⟩⟩ := h
  · exact ⟨h1, .inl h2⟩
  · exact ⟨h1, .inr ⟨g, cap, cur, rfl, hg, (hB.block g (Array.getElem?_eq_some_iff.1 hh).1).trans hh, hr⟩⟩
theorem lain_below {w w' : World} {H B g N cT : Nat} {vs : List Value} {m : Nat → Nat} (h : Lain w H B g N cT vs m) (hB : Below w.heap.size w w') : Lain w' H B g N cT vs m :=
  ⟨(hB.cell (p := ⟨B, 4, none⟩) h.lB).trans h.bag, h.num, h.few, h.nBg, Nat.lt_of_lt_of_le h.lB hB.size, Nat.lt_of_lt_of_le h.lg hB.size, fun n v hv => (hB.cell (p := ⟨g, n, none⟩) h.lg).trans (h.cell n v hv),
    fun n v hv => by obtain ⟨a, l, c, xs, h1, h2, h3, h4⟩ := h.row n v hv; exact ⟨a, l, c, xs, h1, h2, own_below h3 hB, h4⟩, h.apart⟩

/-- One mark more. -/
theorem lain_mark {w : World} {H B g N cT : Nat} {vs : List Value} {m : Nat → Nat} (h : Lain w H B g N cT vs m) {n l c b : Nat} (hv : vs[n]? = some (.slice (some ⟨b, 0, none⟩) l c)) (hi : m n < l) :
    Lain (w.setCell ⟨b, m n, none⟩ (.string (mk n (m n)))) H B g N cT vs (fun k => if k = n then m n + 1 else m k) := by
  obtain ⟨a0, l0, c0, xs0, e0, -, -, -, hbb⟩ := h.row n _ hv
  obtain ⟨hbB, hbg⟩ := hbb b rfl
  have hset : ∀ k o, k ≠ b → (w.setCell ⟨b, m n, none⟩ (.string (mk n (m n)))).cell? ⟨k, o, none⟩ = w.cell? ⟨k, o, none⟩ := fun k o hk => World.cell?_of_block (Below.heap_setCell _ _ _ _ (by intro e; exact hk e))
  refine ⟨(hset B 4 (Ne.symm hbB)).trans h.bag, h.num, h.few, h.nBg, by simpa [World.setCell] using h.lB, by simpa [World.setCell] using h.lg, fun k v hk => (hset g k (Ne.symm hbg)).trans (h.cell k v hk), ?_, h.apart⟩
  intro k v hk
  obtain ⟨a, l', c', xs, h1, h2, h3, h4, h5⟩ := h.row k v hk
  by_cases hkn : k = n
  · subst hkn
    rw [hv] at hk
    obtain rfl := Option.some.inj hk
    obtain ⟨rfl, rfl, rfl⟩ : a = some ⟨b, 0, none⟩ ∧ l' = l ∧ c' = c := by simpa [eq_comm] using h1
    obtain ⟨hl, ⟨h0, _⟩ | ⟨g', cap, cur, e1, hg, hh, hr1, hr2, hr3, hr4⟩⟩ := h3
    · cases h0
    · obtain ⟨rfl, rfl⟩ : b = g' ∧ c' = cap := by simpa using e1
      refine ⟨_, _, _, xs.set (m k) (.string (mk k (m k))), rfl, h2, ⟨by simpa using hl, .inr ⟨b, c', cur.setIfInBounds (m k) (.string (mk k (m k))), rfl, hg, set_at hh _ _, hr1, hr2, by simpa using hr3, ?_⟩⟩, ?_, h5⟩
      · rw [Array.toList_setIfInBounds, List.take_set, hr4]
      · intro j hj hjl
        simp at hj
        by_cases hjm : j = m k
        · subst hjm
          rw [List.getElem?_set_self (by omega)]
        · rw [List.getElem?_set_ne (Ne.symm hjm)]
          exact h4 j (by omega) hjl
  · refine ⟨a, l', c', xs, h1, h2, own_set h3 (h.apart n k _ v b hv hk (Ne.symm hkn) rfl) _, ?_, h5⟩
    simpa [hkn] using h4

end Go.Proofs.YtkcehgpcimlamaaGreatDoor.Tb
