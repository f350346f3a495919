/- The bag with two lists of texts in it, made ready. -/
import Derived.Test.YtkcehgpcimlamaaGreatDoorTbAptw
namespace Go.Proofs.YtkcehgpcimlamaaGreatDoor.Tb
open Go.RowKit

/-- What apartTexts answers of rows that lie apart. -/
def ApartOk : Prop := ∀ (w : World) (H B g N cT : Nat) (vs : List Value), Lain w H B g N cT vs (fun _ => 0) → N ≤ cT → H ≤ w.heap.size → (∀ w', Below H w w' → Tab w') →
    Calls Tryz.prog 28 #[.pointer (some ⟨B, 0, none⟩)] w fun e w' => e = .returned (.bool true) ∧ Kp w w' H B

/-- A new bag's cells. -/
def bag0 : Array Value := #[.slice none 0 0, .slice none 0 0, .slice none 0 0, .slice none 0 0, .slice none 0 0, .slice none 0 0, .slice none 0 0, .slice none 0 0, .slice none 0 0, .slice none 0 0, .slice none 0 0, .slice none 0 0, .slice none 0 0, .slice none 0 0, .slice none 0 0, .slice none 0 0, .slice none 0 0, .slice none 0 0]

theorem own_two {w w' : World} {H e n B : Nat} {row : Option Nat} {v : Value} {xs : List Value} (h : w.ownsRow H e 1 v n xs) (hT : Two w w' B row) (hb : ∀ b, v.ownBlock = some b → b ≠ B ∧ some b ≠ row) : w'.ownsRow H e 1 v n xs := by
  obtain ⟨h1, h2 | ⟨g, cap, cur, rfl, hg, hh, hr⟩⟩ := h
  · exact ⟨h1, .inl h2⟩
  · obtain ⟨h3, h4⟩ := hb g rfl
    exact ⟨h1, .inr ⟨g, cap, cur, rfl, hg, (hT.block g (Array.getElem?_eq_some_iff.1 hh).1 h3 h4).trans hh, hr⟩⟩
theorem own_lt {w : World} {H e n : Nat} {v : Value} {xs : List Value} (h : w.ownsRow H e 1 v n xs) {b : Nat} (hb : v.ownBlock = some b) : H ≤ b ∧ b < w.heap.size := by
  obtain ⟨h1, ⟨rfl, _⟩ | ⟨g, cap, cur, rfl, hg, hh, hr⟩⟩ := h
  · simp [Value.ownBlock] at hb
  · obtain rfl : g = b := by simpa [Value.ownBlock] using hb
    exact ⟨hg, (Array.getElem?_eq_some_iff.1 hh).1⟩

theorem bare_of {w : World} {B : Nat} {x : Value} {C : Array Value} (hC : C = bag0.setIfInBounds 4 x) (h : w.heap[B]? = some (.cells C 47 (0, 0))) : Bare w B := by
  intro k hk h4
  have hb := (block_cells h).1 k
  rw [hb, hC, Array.getElem?_setIfInBounds_ne (Ne.symm h4)]
  have : bag0 = Array.replicate 18 (.slice none 0 0) := by rfl
  rw [this]
  simp [hk]

theorem set_set (x y : Value) : (bag0.setIfInBounds 4 x).setIfInBounds 4 y = bag0.setIfInBounds 4 y := by
  apply Array.ext
  · simp
  · intro i h1 h2
    simp

theorem ready {w7 w9 w10 : World} {H : Nat} {a b : Value} {la lb g1 c1 g2 c2 : Nat} {xa xb : List Value}
    (ha : w7.ownsRow H 9 1 a la xa) (hb : w7.ownsRow H 9 1 b lb xb) (hla : la ≤ 1000000) (hlb : lb ≤ 1000000) (hab : ∀ x, a.ownBlock = some x → b.ownBlock ≠ some x)
    (ea : ∃ p c, a = .slice p la c) (eb : ∃ p c, b = .slice p lb c)
    (h9 : (w7.alloc (.cells bag0 47)).heap.size ≤ g1) (t9 : Two (w7.alloc (.cells bag0 47)) w9 w7.heap.size none)
    (h10 : w10.heap[w7.heap.size]? = some (.cells ((bag0.setIfInBounds 4 (.slice (some ⟨g1, 0, none⟩) 1 c1)).setIfInBounds 4 (.slice (some ⟨g2, 0, none⟩) 2 c2)) 47 (0, 0)))
    (o10 : w10.ownsRow (w7.heap.size + 1) 25 1 (.slice (some ⟨g2, 0, none⟩) 2 c2) 2 [a, b]) (t10 : Two w9 w10 w7.heap.size (some g1)) :
    Lain w10 H w7.heap.size g2 2 c2 [a, b] (fun _ => 0) ∧ Bare w10 w7.heap.size ∧ 2 ≤ c2 := by
  have hs9 := t9.size
  simp at hs9 h9
  have hs10 := t10.size
  obtain ⟨hg2, hg2l⟩ := own_lt o10 (b := g2) rfl
  have keep : ∀ (v : Value) (l : Nat) (xs : List Value), w7.ownsRow H 9 1 v l xs → w10.ownsRow H 9 1 v l xs ∧ ∀ x, v.ownBlock = some x → x ≠ w7.heap.size ∧ x ≠ g2 := by
    intro v l xs hv
    have hlt : ∀ x, v.ownBlock = some x → x < w7.heap.size := fun x hx => (own_lt hv hx).2
    have h8 : (w7.alloc (.cells bag0 47)).ownsRow H 9 1 v l xs := hv.alloc _
    refine ⟨own_two (own_two h8 t9 ?_) t10 ?_, ?_⟩
    · intro x hx; have := hlt x hx; exact ⟨by omega, by simp⟩
    · intro x hx; have := hlt x hx; exact ⟨by omega, by simp; omega⟩
    · intro x hx; have := hlt x hx; exact ⟨by omega, by omega⟩
  have hcells := own_cells o10 (by decide)
  obtain ⟨g', cap', e1, hc, _, hcl⟩ := hcells
  obtain ⟨rfl, rfl⟩ : g2 = g' ∧ c2 = cap' := by simpa using e1
  refine ⟨⟨?_, rfl, by decide, by omega, by omega, hg2l, ?_, ?_, ?_⟩, bare_of (set_set _ _) h10, hc⟩
  · rw [(block_cells h10).1 4]
    simp [bag0]
  · intro n v hv
    have hn : n < 2 := (List.getElem?_eq_some_iff.1 hv).1
    rw [hcl n (by omega), hv]
  · intro n v hv
    have hn : n < 2 := (List.getElem?_eq_some_iff.1 hv).1
    rcases (show n = 0 ∨ n = 1 by omega) with rfl | rfl
    · obtain rfl : a = v := by simpa using hv
      obtain ⟨p, c, rfl⟩ := ea
      exact ⟨p, la, c, xa, rfl, hla, (keep _ _ _ ha).1, fun j hj => by omega, (keep _ _ _ ha).2⟩
    · obtain rfl : b = v := by simpa using hv
      obtain ⟨p, c, rfl⟩ := eb
      exact ⟨p, lb, c, xb, rfl, hlb, (keep _ _ _ hb).1, fun j hj => by omega, (keep _ _ _ hb).2⟩
  · intro n k u v x hu hv hnk hx
    have hn : n < 2 := (List.getElem?_eq_some_iff.1 hu).1
    have hk : k < 2 := (List.getElem?_eq_some_iff.1 hv).1
    rcases (show n = 0 ∧ k = 1 ∨ n = 1 ∧ k = 0 by omega) with ⟨rfl, rfl⟩ | ⟨rfl, rfl⟩
    · obtain rfl : a = u := by simpa using hu
      obtain rfl : b = v := by simpa using hv
      exact hab x hx
    · obtain rfl : b = u := by simpa using hu
      obtain rfl : a = v := by simpa using hv
      exact fun h => hab x h hx

end Go.Proofs.YtkcehgpcimlamaaGreatDoor.Tb
