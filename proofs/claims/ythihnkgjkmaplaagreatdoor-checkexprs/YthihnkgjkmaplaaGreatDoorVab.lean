/- Lists of texts that lie apart: what the bag finds. The walk of apartTexts. The bag with two lists of texts in it, made ready. Lists of texts that are gone on with: who owns which block. The code of apartTexts from a region on, taken out of the translation by a function. The walk of apartTexts: do all marks stand? -/
import Derived.Test.YthihnkgjkmaplaaGreatDoorVaa
namespace Go.Proofs.YthihnkgjkmaplaaGreatDoor.Tb
open Go.RowKit

/-- The bag's lists of texts: row n is marked as far as m n; the rows lie apart from each other and from the bag. -/
structure Lain (w : World) (H B g N cT : Nat) (vs : List Value) (m : Nat → Nat) : Prop where
  bag : w.cell? ⟨B, 4, none⟩ = some (.slice (some ⟨g, 0, none⟩) N cT)
  num : vs.length = N
  few : N ≤ 300
  nBg : B ≠ g
  lB : B < w.heap.size
  lg : g < w.heap.size
  cell : ∀ (n : Nat) (v : Value), vs[n]? = some v → w.cell? ⟨g, n, none⟩ = some v
  row : ∀ (n : Nat) (v : Value), vs[n]? = some v → ∃ a l c xs, v = .slice a l c ∧ l ≤ 1000000 ∧ w.ownsRow H 9 1 v l xs ∧ (∀ j, j < m n → j < l → xs[j]? = some (.string (mk n j))) ∧ (∀ b, v.ownBlock = some b → b ≠ B ∧ b ≠ g)
  apart : ∀ (n k : Nat) (u v : Value) (b : Nat), vs[n]? = some u → vs[k]? = some v → n ≠ k → u.ownBlock = some b → v.ownBlock ≠ some b

theorem own_below {w w' : World} {H e n : Nat} {v : Value} {xs : List Value} (h : w.ownsRow H e 1 v n xs) (hB : Below w.heap.size w w') : w'.ownsRow H e 1 v n xs := by
  obtain ⟨h1, h2 | ⟨g, cap, cur, rfl, hg, hh, hr⟩⟩ := h
  · exact ⟨h1, .inl h2⟩
  · exact ⟨h1, .inr ⟨g, cap, cur, rfl, hg, (hB.block g (Array.getElem?_eq_some_iff.1 hh).1).trans hh, hr⟩⟩
theorem lain_below {w w' : World} {H B g N cT : Nat} {vs : List Value} {m : Nat → Nat} (h : Lain w H B g N cT vs m) (hB : Below w.heap.size w w') : Lain w' H B g N cT vs m :=
  ⟨(hB.cell (p := ⟨B, 4, none⟩) h.lB).trans h.bag, h.num, h.few, h.nBg, Nat.lt_of_lt_of_le h.lB hB.size, Nat.lt_of_lt_of_le h.lg hB.size, fun n v hv => (hB.cell (p := ⟨g, n, none⟩) h.lg).trans (h.cell n v hv),
    fun n v hv => by obtain ⟨a, l, c, xs, h1, h2, h3, h4⟩ := h.row n v hv; exact ⟨a, l, c, xs, h1, h2, own_below h3 hB, h4⟩, h.apart⟩

/-- One mark more. -/
theorem lain_mark {w : World} {H B g N cT : Nat} {vs : List Value} {m : Nat → Nat} (h : Lain w H B g N cT vs m) {n l c b : Nat} (hv : vs[n]? = some (.slice (some ⟨b, 0, none⟩) l c)) (hi : m n < l) :
    Lain (w.setCell ⟨b, m n, none⟩ (.string (mk n (m n)))) H B g N cT vs (fun k => if k = n then m n + 1 else m k) := by
  obtain ⟨a0, l0, c0, xs0, e0, -, -, -, hbb⟩ := h.row n _ hv
  obtain ⟨hbB, hbg⟩ := hbb b rfl
  have hset : ∀ k o, k ≠ b → (w.setCell ⟨b, m n, none⟩ (.string (mk n (m n)))).cell? ⟨k, o, none⟩ = w.cell? ⟨k, o, none⟩ := fun k o hk => World.cell?_of_block (Below.heap_setCell _ _ _ _ (by intro e; exact hk e))
  refine ⟨(hset B 4 (Ne.symm hbB)).trans h.bag, h.num, h.few, h.nBg, by simpa [World.setCell] using h.lB, by simpa [World.setCell] using h.lg, fun k v hk => (hset g k (Ne.symm hbg)).trans (h.cell k v hk), ?_, h.apart⟩
  intro k v hk
  obtain ⟨a, l', c', xs, h1, h2, h3, h4, h5⟩ := h.row k v hk
  by_cases hkn : k = n
  · subst hkn
    rw [hv] at hk
    obtain rfl := Option.some.inj hk
    obtain ⟨rfl, rfl, rfl⟩ : a = some ⟨b, 0, none⟩ ∧ l' = l ∧ c' = c := by simpa [eq_comm] using h1
    obtain ⟨hl, ⟨h0, _⟩ | ⟨g', cap, cur, e1, hg, hh, hr1, hr2, hr3, hr4⟩⟩ := h3
    · cases h0
    · obtain ⟨rfl, rfl⟩ : b = g' ∧ c' = cap := by simpa using e1
      refine ⟨_, _, _, xs.set (m k) (.string (mk k (m k))), rfl, h2, ⟨by simpa using hl, .inr ⟨b, c', cur.setIfInBounds (m k) (.string (mk k (m k))), rfl, hg, set_at hh _ _, hr1, hr2, by simpa using hr3, ?_⟩⟩, ?_, h5⟩
      · rw [Array.toList_setIfInBounds, List.take_set, hr4]
      · intro j hj hjl
        simp at hj
        by_cases hjm : j = m k
        · subst hjm
          rw [List.getElem?_set_self (by omega)]
        · rw [List.getElem?_set_ne (Ne.symm hjm)]
          exact h4 j (by omega) hjl
  · refine ⟨a, l', c', xs, h1, h2, own_set h3 (h.apart n k _ v b hv hk (Ne.symm hkn) rfl) _, ?_, h5⟩
    simpa [hkn] using h4

end Go.Proofs.YthihnkgjkmaplaaGreatDoor.Tb
namespace Go.Proofs.YthihnkgjkmaplaaGreatDoor.Tb
open Go.RowKit

/-- What is kept all along. -/
structure Kp (w wr : World) (H B : Nat) : Prop where
  below : Below H w wr
  bag : wr.heap[B]? = w.heap[B]?

theorem kp_below {w a b : World} {H B : Nat} (h : Kp w a H B) (hB : Below a.heap.size a b) (hH : H ≤ a.heap.size) (hb : B < a.heap.size) : Kp w b H B :=
  ⟨h.below.trans (hB.mono hH), (hB.block B hb).trans h.bag⟩
theorem kp_set {w a : World} {H B b k : Nat} (h : Kp w a H B) (hb : H ≤ b) (hne : B ≠ b) (x : Value) : Kp w (a.setCell ⟨b, k, none⟩ x) H B :=
  ⟨h.below.setCell hb _, (Below.heap_setCell _ _ _ _ hne).trans h.bag⟩

theorem kp_drew {w a : World} {H B : Nat} (h : Kp w a H B) : Kp w a.drew H B := ⟨h.below.drew, h.bag⟩

/-- Of row n, that has a place i: where it lies. -/
theorem lain_at {w : World} {H B g N cT : Nat} {vs : List Value} {m : Nat → Nat} (h : Lain w H B g N cT vs m) {n : Nat} (hn : n < N) : ∃ a l c, vs[n]? = some (.slice a l c) ∧ w.cell? ⟨g, n, none⟩ = some (.slice a l c) ∧ l ≤ 1000000 ∧ ∀ i, i < l → ∃ b, a = some ⟨b, 0, none⟩ ∧ H ≤ b ∧ b ≠ B ∧ b ≠ g ∧ b < w.heap.size ∧ l ≤ c ∧ (∃ u, w.cell? ⟨b, i, none⟩ = some u) ∧ w.frozen? ⟨b, i, none⟩ = false := by
  have hl : n < vs.length := by rw [h.num]; exact hn
  have hv := List.getElem?_eq_getElem hl
  generalize vs[n] = v at hv
  obtain ⟨a, l, c, xs, rfl, h2, h3, h4, h5⟩ := h.row n v hv
  refine ⟨a, l, c, hv, h.cell n _ hv, h2, fun i hi => ?_⟩
  obtain ⟨hx, ⟨h0, h1⟩ | ⟨b, cap, cur, h0, hg, hh, hc, _, hs, ht⟩⟩ := h3
  · omega
  · obtain ⟨rfl, rfl⟩ : a = some ⟨b, 0, none⟩ ∧ c = cap := by simpa using h0
    refine ⟨b, rfl, hg, (h5 b rfl).1, (h5 b rfl).2, (Array.getElem?_eq_some_iff.1 hh).1, hc, ⟨cur[i]'(by omega), ?_⟩, (block_cells hh).2 i⟩
    rw [(block_cells hh).1 i]
    exact Array.getElem?_eq_getElem _

/-- The rows before row n are marked, row n as far as i, those behind not yet. -/
def Upto (wr : World) (H B g N cT : Nat) (vs : List Value) (n i : Nat) : Prop :=
  ∃ m : Nat → Nat, Lain wr H B g N cT vs m ∧ (∀ k a l c, k < n → vs[k]? = some (.slice a l c) → l ≤ m k) ∧ m n = i ∧ ∀ k, n < k → m k = 0
theorem upto_below {w w' : World} {H B g N cT : Nat} {vs : List Value} {n i : Nat} (h : Upto w H B g N cT vs n i) (hB : Below w.heap.size w w') : Upto w' H B g N cT vs n i := by
  obtain ⟨m, h1, h2⟩ := h
  exact ⟨m, lain_below h1 hB, h2⟩
theorem upto_drew {w : World} {H B g N cT : Nat} {vs : List Value} {n i : Nat} (h : Upto w H B g N cT vs n i) : Upto w.drew H B g N cT vs n i := upto_below h (Below.refl _ _).drew
theorem upto_mark {w : World} {H B g N cT : Nat} {vs : List Value} {n i : Nat} (h : Upto w H B g N cT vs n i) {l c b : Nat} (hv : vs[n]? = some (.slice (some ⟨b, 0, none⟩) l c)) (hi : i < l) :
    Upto (w.setCell ⟨b, i, none⟩ (.string (mk n i))) H B g N cT vs n (i + 1) := by
  obtain ⟨m, h1, h2, rfl, h4⟩ := h
  refine ⟨_, lain_mark h1 hv hi, ?_, by simp, ?_⟩
  · intro k a l c hk hvk
    rw [if_neg (by omega)]
    exact h2 k a l c hk hvk
  · intro k hk
    rw [if_neg (by omega)]
    exact h4 k hk
theorem upto_next {w : World} {H B g N cT : Nat} {vs : List Value} {n : Nat} {a : Option Addr} {l c : Nat} (h : Upto w H B g N cT vs n l) (hv : vs[n]? = some (.slice a l c)) : Upto w H B g N cT vs (n + 1) 0 := by
  obtain ⟨m, h1, h2, h3, h4⟩ := h
  refine ⟨m, h1, ?_, h4 _ (by omega), fun k hk => h4 k (by omega)⟩
  intro k a' l' c' hk hvk
  by_cases hkn : k = n
  · subst hkn
    rw [hv] at hvk
    obtain ⟨-, rfl, -⟩ : a = a' ∧ l = l' ∧ c = c' := by simpa using hvk
    omega
  · exact h2 k a' l' c' (by omega) hvk

end Go.Proofs.YthihnkgjkmaplaaGreatDoor.Tb
namespace Go.Proofs.YthihnkgjkmaplaaGreatDoor.Tb
open Go.RowKit

/-- What apartTexts answers of rows that lie apart. -/
def ApartOk : Prop := ∀ (w : World) (H B g N cT : Nat) (vs : List Value), Lain w H B g N cT vs (fun _ => 0) → N ≤ cT → H ≤ w.heap.size → (∀ w', Below H w w' → Tab w') →
    Calls Tryz.prog 31 #[.pointer (some ⟨B, 0, none⟩)] w fun e w' => e = .returned (.bool true) ∧ Kp w w' H B

/-- A new bag's cells. -/
def bag0 : Array Value := #[.slice none 0 0, .slice none 0 0, .slice none 0 0, .slice none 0 0, .slice none 0 0, .slice none 0 0, .slice none 0 0, .slice none 0 0, .slice none 0 0, .slice none 0 0, .slice none 0 0, .slice none 0 0, .slice none 0 0, .slice none 0 0, .slice none 0 0, .slice none 0 0, .slice none 0 0, .slice none 0 0]

theorem own_two {w w' : World} {H e n B : Nat} {row : Option Nat} {v : Value} {xs : List Value} (h : w.ownsRow H e 1 v n xs) (hT : Two w w' B row) (hb : ∀ b, v.ownBlock = some b → b ≠ B ∧ some b ≠ row) : w'.ownsRow H e 1 v n xs := by
  obtain ⟨h1, h2 | ⟨g, cap, cur, rfl, hg, hh, hr⟩⟩ := h
  · exact ⟨h1, .inl h2⟩
  · obtain ⟨h3, h4⟩ := hb g rfl
    exact ⟨h1, .inr ⟨g, cap, cur, rfl, hg, (hT.block g (Array.getElem?_eq_some_iff.1 hh).1 h3 h4).trans hh, hr⟩⟩
theorem own_lt {w : World} {H e n : Nat} {v : Value} {xs : List Value} (h : w.ownsRow H e 1 v n xs) {b : Nat} (hb : v.ownBlock = some b) : H ≤ b ∧ b < w.heap.size := by
  obtain ⟨h1, ⟨rfl, _⟩ | ⟨g, cap, cur, rfl, hg, hh, hr⟩⟩ := h
  · simp [Value.ownBlock] at hb
  · obtain rfl : g = b := by simpa [Value.ownBlock] using hb
    exact ⟨hg, (Array.getElem?_eq_some_iff.1 hh).1⟩

theorem bare_of {w : World} {B : Nat} {x : Value} {C : Array Value} (hC : C = bag0.setIfInBounds 4 x) (h : w.heap[B]? = some (.cells C 53 (0, 0))) : Bare w B := by
  intro k hk h4
  have hb := (block_cells h).1 k
  rw [hb, hC, Array.getElem?_setIfInBounds_ne (Ne.symm h4)]
  have : bag0 = Array.replicate 18 (.slice none 0 0) := by rfl
  rw [this]
  simp [hk]

theorem set_set (x y : Value) : (bag0.setIfInBounds 4 x).setIfInBounds 4 y = bag0.setIfInBounds 4 y := by
  apply Array.ext
  · simp
  · intro i h1 h2
    simp

theorem ready {w7 w9 w10 : World} {H : Nat} {a b : Value} {la lb g1 c1 g2 c2 : Nat} {xa xb : List Value}
    (ha : w7.ownsRow H 9 1 a la xa) (hb : w7.ownsRow H 9 1 b lb xb) (hla : la ≤ 1000000) (hlb : lb ≤ 1000000) (hab : ∀ x, a.ownBlock = some x → b.ownBlock ≠ some x)
    (ea : ∃ p c, a = .slice p la c) (eb : ∃ p c, b = .slice p lb c)
    (h9 : (w7.alloc (.cells bag0 53)).heap.size ≤ g1) (t9 : Two (w7.alloc (.cells bag0 53)) w9 w7.heap.size none)
    (h10 : w10.heap[w7.heap.size]? = some (.cells ((bag0.setIfInBounds 4 (.slice (some ⟨g1, 0, none⟩) 1 c1)).setIfInBounds 4 (.slice (some ⟨g2, 0, none⟩) 2 c2)) 53 (0, 0)))
    (o10 : w10.ownsRow (w7.heap.size + 1) 23 1 (.slice (some ⟨g2, 0, none⟩) 2 c2) 2 [a, b]) (t10 : Two w9 w10 w7.heap.size (some g1)) :
    Lain w10 H w7.heap.size g2 2 c2 [a, b] (fun _ => 0) ∧ Bare w10 w7.heap.size ∧ 2 ≤ c2 := by
  have hs9 := t9.size
  simp at hs9 h9
  have hs10 := t10.size
  obtain ⟨hg2, hg2l⟩ := own_lt o10 (b := g2) rfl
  have keep : ∀ (v : Value) (l : Nat) (xs : List Value), w7.ownsRow H 9 1 v l xs → w10.ownsRow H 9 1 v l xs ∧ ∀ x, v.ownBlock = some x → x ≠ w7.heap.size ∧ x ≠ g2 := by
    intro v l xs hv
    have hlt : ∀ x, v.ownBlock = some x → x < w7.heap.size := fun x hx => (own_lt hv hx).2
    have h8 : (w7.alloc (.cells bag0 53)).ownsRow H 9 1 v l xs := hv.alloc _
    refine ⟨own_two (own_two h8 t9 ?_) t10 ?_, ?_⟩
    · intro x hx; have := hlt x hx; exact ⟨by omega, by simp⟩
    · intro x hx; have := hlt x hx; exact ⟨by omega, by simp; omega⟩
    · intro x hx; have := hlt x hx; exact ⟨by omega, by omega⟩
  have hcells := own_cells o10 (by decide)
  obtain ⟨g', cap', e1, hc, _, hcl⟩ := hcells
  obtain ⟨rfl, rfl⟩ : g2 = g' ∧ c2 = cap' := by simpa using e1
  refine ⟨⟨?_, rfl, by decide, by omega, by omega, hg2l, ?_, ?_, ?_⟩, bare_of (set_set _ _) h10, hc⟩
  · rw [(block_cells h10).1 4]
    simp [bag0]
  · intro n v hv
    have hn : n < 2 := (List.getElem?_eq_some_iff.1 hv).1
    rw [hcl n (by omega), hv]
  · intro n v hv
    have hn : n < 2 := (List.getElem?_eq_some_iff.1 hv).1
    rcases (show n = 0 ∨ n = 1 by omega) with rfl | rfl
    · obtain rfl : a = v := by simpa using hv
      obtain ⟨p, c, rfl⟩ := ea
      exact ⟨p, la, c, xa, rfl, hla, (keep _ _ _ ha).1, fun j hj => by omega, (keep _ _ _ ha).2⟩
    · obtain rfl : b = v := by simpa using hv
      obtain ⟨p, c, rfl⟩ := eb
      exact ⟨p, lb, c, xb, rfl, hlb, (keep _ _ _ hb).1, fun j hj => by omega, (keep _ _ _ hb).2⟩
  · intro n k u v x hu hv hnk hx
    have hn : n < 2 := (List.getElem?_eq_some_iff.1 hu).1
    have hk : k < 2 := (List.getElem?_eq_some_iff.1 hv).1
    rcases (show n = 0 ∧ k = 1 ∨ n = 1 ∧ k = 0 by omega) with ⟨rfl, rfl⟩ | ⟨rfl, rfl⟩
    · obtain rfl : a = u := by simpa using hu
      obtain rfl : b = v := by simpa using hv
      exact hab x hx
    · obtain rfl : b = u := by simpa using hu
      obtain rfl : a = v := by simpa using hv
      exact fun h => hab x h hx

end Go.Proofs.YthihnkgjkmaplaaGreatDoor.Tb
namespace Go.Proofs.YthihnkgjkmaplaaGreatDoor.Tb
open Go.RowKit

/-- A block is handed to an owner. -/
def upd (ow : Nat → Nat) (g τ : Nat) : Nat → Nat := fun b => if b = g then τ else ow b
theorem upd_self (ow : Nat → Nat) (g τ : Nat) : upd ow g τ g = τ := by simp [upd]
theorem upd_keep {ow : Nat → Nat} {g τ b s x : Nat} (h : ow g = τ ∨ s ≤ g) (hb : b < s) (hx : ow b = x) : upd ow g τ b = x := by
  unfold upd
  by_cases e : b = g
  · rw [if_pos e]
    rcases h with h | h
    · rw [← h, ← e, hx]
    · omega
  · rw [if_neg e]; exact hx

theorem Stays.keep {w w' : World} {blk : Option Nat} {n b j : Nat} {u : Value} (h : Stays w w' blk n) (hc : w.cell? ⟨b, j, none⟩ = some u) (hk : some b ≠ blk ∨ j < n) : w'.cell? ⟨b, j, none⟩ = some u := by
  by_cases e : some b = blk
  · exact (h.cell b j e (hk.resolve_left (fun h => h e))).trans hc
  · exact (World.cell?_of_block (h.block b (World.block_lt_of_cell? w _ hc) e)).trans hc
theorem stays_below {w w' : World} (h : Below w.heap.size w w') : Stays w w' none 0 := ⟨h.os, h.tape, h.output, h.size, fun k hk _ => h.block k hk, fun k j e => by cases e⟩
theorem own_stay {w w' : World} {H e n m : Nat} {v : Value} {xs : List Value} {blk : Option Nat} (h : w.ownsRow H e 1 v n xs) (hs : Stays w w' blk m) (hb : ∀ b, v.ownBlock = some b → blk ≠ some b) : w'.ownsRow H e 1 v n xs := by
  obtain ⟨h1, h2 | ⟨g, cap, cur, rfl, hg, hh, hr⟩⟩ := h
  · exact ⟨h1, .inl h2⟩
  · exact ⟨h1, .inr ⟨g, cap, cur, rfl, hg, (hs.block g (Array.getElem?_eq_some_iff.1 hh).1 (fun e => hb g rfl e.symm)).trans hh, hr⟩⟩
theorem own_in {w : World} {H e n : Nat} {v : Value} {xs : List Value} (h : w.ownsRow H e 1 v n xs) {b : Nat} (hb : v.ownBlock = some b) : H ≤ b ∧ b < w.heap.size := by
  obtain ⟨h1, ⟨rfl, _⟩ | ⟨g, cap, cur, rfl, hg, hh, hr⟩⟩ := h
  · simp [Value.ownBlock] at hb
  · obtain rfl : g = b := by simpa [Value.ownBlock] using hb
    exact ⟨hg, (Array.getElem?_eq_some_iff.1 hh).1⟩
theorem kp_stay {w a a' : World} {H B m : Nat} {blk : Option Nat} (h : Kp w a H B) (hs : Stays a a' blk m) (hH : H ≤ a.heap.size) (hBl : B < a.heap.size) (hb : ∀ b, blk = some b → H ≤ b ∧ b ≠ B) : Kp w a' H B := by
  refine ⟨⟨hs.os.trans h.below.os, hs.tape.trans h.below.tape, hs.output.trans h.below.output, Nat.le_trans h.below.size hs.size, fun k hk => ?_⟩, ?_⟩
  · refine (hs.block k (by omega) ?_).trans (h.below.block k hk)
    intro e
    have := (hb k e.symm).1
    omega
  · refine (hs.block B hBl ?_).trans h.bag
    intro e
    exact (hb B e.symm).2 rfl

/-- The bag's lists, all marked, and what has been gone on with so far. -/
structure Gro (w : World) (ow : Nat → Nat) (H B g N cT : Nat) (vs : List Value) (q : Nat) (os ms : List Value) : Prop where
  bag : w.cell? ⟨B, 4, none⟩ = some (.slice (some ⟨g, 0, none⟩) N cT)
  tB : ow B = 0
  tg : ow g = 1
  lg : g < w.heap.size
  num : vs.length = N
  few : N ≤ 300
  cell : ∀ (k : Nat) (v : Value), vs[k]? = some v → w.cell? ⟨g, k, none⟩ = some v
  row : ∀ (k : Nat) (v : Value), vs[k]? = some v → ∃ a l c, v = .slice a l c ∧ l ≤ 1000000 ∧ (∀ b, v.ownBlock = some b → ow b = 10 + k ∧ b < w.heap.size) ∧ (∀ j, j < l → ∃ b, a = some ⟨b, 0, none⟩ ∧ l ≤ c ∧ w.cell? ⟨b, j, none⟩ = some (.string (mk k j)))
  own : ∀ (k : Nat) (v : Value), q ≤ k → vs[k]? = some v → ∃ a l c xs, v = .slice a l c ∧ w.ownsRow H 9 1 v l xs ∧ (∀ j, j < l → xs[j]? = some (.string (mk k j)))
  one : ∀ (k : Nat) (v : Value), os[k]? = some v → ∃ a l c, vs[k]? = some (.slice a l c) ∧ ∃ b c', v = .slice (some ⟨b, 0, none⟩) (l + 1) c' ∧ l + 1 ≤ c' ∧ ow b = 10 + k ∧ w.cell? ⟨b, l, none⟩ = some (.string (mk k l))
  more : ∀ (k : Nat) (v : Value), ms[k]? = some v → ∃ a l c, vs[k]? = some (.slice a l c) ∧ ∃ b c', v = .slice (some ⟨b, 0, none⟩) (l + 70) c' ∧ l + 70 ≤ c' ∧ ow b = 10 + k ∧ ∀ j, j < l + 70 → w.cell? ⟨b, j, none⟩ = some (.string (mk k j))

/-- Who may be gone on with, so that all that is known stays. -/
def May (vs os ms : List Value) (q len τ : Nat) : Prop :=
  τ = 2 ∨ τ = 3 ∨ ∃ n, τ = 10 + n ∧ n < q ∧ ms.length ≤ n ∧ ∀ a l c, vs[n]? = some (.slice a l c) → l ≤ len ∧ (n < os.length → l + 1 ≤ len)

theorem Gro.keep {w w' : World} {ow : Nat → Nat} {H B g N cT q q' len τ : Nat} {vs os ms : List Value} {blk : Option Nat} (h : Gro w ow H B g N cT vs q os ms) (hs : Stays w w' blk len) (hb : ∀ b, blk = some b → ow b = τ) (hq : q ≤ q') (hm : May vs os ms q' len τ) : Gro w' ow H B g N cT vs q' os ms := by
  have key : ∀ b j u, w.cell? ⟨b, j, none⟩ = some u → (ow b ≠ τ ∨ j < len) → w'.cell? ⟨b, j, none⟩ = some u := by
    intro b j u hc hk
    refine hs.keep hc ?_
    rcases hk with hk | hk
    · exact .inl (fun e => hk (hb b e.symm))
    · exact .inr hk
  have hlt : ∀ k v, vs[k]? = some v → ∀ a l c, v = .slice a l c → ∀ j, j < l → (10 + k ≠ τ ∨ j < len) := by
    intro k v hv a l c e j hj
    by_cases ht : 10 + k = τ
    · right
      rcases hm with h2 | h2 | ⟨n, h1, h2, h3, h4⟩
      · omega
      · omega
      · obtain rfl : n = k := by omega
        subst e
        have := (h4 a l c hv).1
        omega
    · exact .inl ht
  have ht0 : ow B ≠ τ := by rw [h.tB]; rcases hm with h2 | h2 | ⟨n, h1, _⟩ <;> omega
  have ht1 : ow g ≠ τ := by rw [h.tg]; rcases hm with h2 | h2 | ⟨n, h1, _⟩ <;> omega
  refine ⟨key _ _ _ h.bag (.inl ht0), h.tB, h.tg, Nat.lt_of_lt_of_le h.lg hs.size, h.num, h.few, fun k v hv => key _ _ _ (h.cell k v hv) (.inl ht1), ?_, ?_, ?_, ?_⟩
  · intro k v hv
    obtain ⟨a, l, c, e, h1, h2, h3⟩ := h.row k v hv
    refine ⟨a, l, c, e, h1, fun b hb => ⟨(h2 b hb).1, Nat.lt_of_lt_of_le (h2 b hb).2 hs.size⟩, fun j hj => ?_⟩
    obtain ⟨b, e2, h4, h5⟩ := h3 j hj
    refine ⟨b, e2, h4, key _ _ _ h5 ?_⟩
    have hob : ow b = 10 + k := (h2 b (by subst e; subst e2; rfl)).1
    rw [hob]
    exact hlt k v hv a l c e j hj
  · intro k v hk hv
    obtain ⟨a, l, c, xs, e, h1, h2⟩ := h.own k v (by omega) hv
    obtain ⟨_, _, _, _, _, h5, _⟩ := h.row k v hv
    refine ⟨a, l, c, xs, e, own_stay h1 hs ?_, h2⟩
    intro b hob e2
    have q1 := (h5 b hob).1
    have q2 := hb b e2
    rcases hm with h2 | h2 | ⟨n, h1, h2, _⟩ <;> omega
  · intro k v hv
    obtain ⟨a, l, c, e, b, c', e2, h1, h2, h3⟩ := h.one k v hv
    refine ⟨a, l, c, e, b, c', e2, h1, h2, key _ _ _ h3 ?_⟩
    rw [h2]
    by_cases ht : 10 + k = τ
    · right
      rcases hm with h2 | h2 | ⟨n, h1, h2, h3, h4⟩
      · omega
      · omega
      · obtain rfl : n = k := by omega
        have := (h4 a l c e).2 (List.getElem?_eq_some_iff.1 hv).1
        omega
    · exact .inl ht
  · intro k v hv
    obtain ⟨a, l, c, e, b, c', e2, h1, h2, h3⟩ := h.more k v hv
    refine ⟨a, l, c, e, b, c', e2, h1, h2, fun j hj => key _ _ _ (h3 j hj) ?_⟩
    rw [h2]
    left
    have hk := (List.getElem?_eq_some_iff.1 hv).1
    rcases hm with h2 | h2 | ⟨n, h1, h2, h3, h4⟩ <;> omega
theorem Gro.below {w w' : World} {ow : Nat → Nat} {H B g N cT q : Nat} {vs os ms : List Value} (h : Gro w ow H B g N cT vs q os ms) (hB : Below w.heap.size w w') : Gro w' ow H B g N cT vs q os ms :=
  h.keep (stays_below hB) (τ := 2) (fun b e => by cases e) (Nat.le_refl _) (.inl rfl)
theorem Gro.tag {w : World} {ow : Nat → Nat} {H B g N cT q : Nat} {vs os ms : List Value} (h : Gro w ow H B g N cT vs q os ms) {g2 τ : Nat} (hg : ow g2 = τ ∨ w.heap.size ≤ g2) : Gro w (upd ow g2 τ) H B g N cT vs q os ms := by
  refine ⟨h.bag, upd_keep hg (World.block_lt_of_cell? w _ h.bag) h.tB, upd_keep hg h.lg h.tg, h.lg, h.num, h.few, h.cell, ?_, h.own, ?_, ?_⟩
  · intro k v hv
    obtain ⟨a, l, c, e, h1, h2, h3⟩ := h.row k v hv
    exact ⟨a, l, c, e, h1, fun b hb => ⟨upd_keep hg (h2 b hb).2 (h2 b hb).1, (h2 b hb).2⟩, h3⟩
  · intro k v hv
    obtain ⟨a, l, c, e, b, c', e2, h1, h2, h3⟩ := h.one k v hv
    exact ⟨a, l, c, e, b, c', e2, h1, upd_keep hg (World.block_lt_of_cell? w _ h3) h2, h3⟩
  · intro k v hv
    obtain ⟨a, l, c, e, b, c', e2, h1, h2, h3⟩ := h.more k v hv
    exact ⟨a, l, c, e, b, c', e2, h1, upd_keep hg (World.block_lt_of_cell? w _ (h3 0 (by omega))) h2, h3⟩
theorem gro_addOne {w : World} {ow : Nat → Nat} {H B g N cT q l c' b : Nat} {vs os ms : List Value} {a : Option Addr} {c : Nat} (h : Gro w ow H B g N cT vs q os ms) (hv : vs[os.length]? = some (.slice a l c)) (hc : l + 1 ≤ c') (ho : ow b = 10 + os.length) (hm : w.cell? ⟨b, l, none⟩ = some (.string (mk os.length l))) :
    Gro w ow H B g N cT vs q (os ++ [.slice (some ⟨b, 0, none⟩) (l + 1) c']) ms := by
  refine ⟨h.bag, h.tB, h.tg, h.lg, h.num, h.few, h.cell, h.row, h.own, ?_, h.more⟩
  intro k v hk
  by_cases e : k < os.length
  · rw [List.getElem?_append_left e] at hk
    exact h.one k v hk
  · have hl := (List.getElem?_eq_some_iff.1 hk).1
    simp at hl
    obtain rfl : k = os.length := by omega
    simp at hk
    exact ⟨a, l, c, hv, b, c', hk.symm, hc, ho, hm⟩
theorem gro_addMore {w : World} {ow : Nat → Nat} {H B g N cT q l c' b : Nat} {vs os ms : List Value} {a : Option Addr} {c : Nat} (h : Gro w ow H B g N cT vs q os ms) (hv : vs[ms.length]? = some (.slice a l c)) (hc : l + 70 ≤ c') (ho : ow b = 10 + ms.length) (hm : ∀ j, j < l + 70 → w.cell? ⟨b, j, none⟩ = some (.string (mk ms.length j))) :
    Gro w ow H B g N cT vs q os (ms ++ [.slice (some ⟨b, 0, none⟩) (l + 70) c']) := by
  refine ⟨h.bag, h.tB, h.tg, h.lg, h.num, h.few, h.cell, h.row, h.own, h.one, ?_⟩
  intro k v hk
  by_cases e : k < ms.length
  · rw [List.getElem?_append_left e] at hk
    exact h.more k v hk
  · have hl := (List.getElem?_eq_some_iff.1 hk).1
    simp at hl
    obtain rfl : k = ms.length := by omega
    simp at hk
    exact ⟨a, l, c, hv, b, c', hk.symm, hc, ho, hm⟩

/-- A row and its owner. -/
structure Row (w : World) (ow : Nat → Nat) (H e τ : Nat) (v : Value) (n : Nat) (xs : List Value) : Prop where
  own : w.ownsRow H e 1 v n xs
  tag : ∀ b, v.ownBlock = some b → ow b = τ
theorem Row.keep {w w' : World} {ow : Nat → Nat} {H e τ σ n m : Nat} {v : Value} {xs : List Value} {blk : Option Nat} (h : Row w ow H e τ v n xs) (hs : Stays w w' blk m) (hb : ∀ b, blk = some b → ow b = σ) (hne : τ ≠ σ) : Row w' ow H e τ v n xs :=
  ⟨own_stay h.own hs (fun b h1 h2 => hne ((h.tag b h1).symm.trans (hb b h2))), h.tag⟩
theorem Row.below {w w' : World} {ow : Nat → Nat} {H e τ n : Nat} {v : Value} {xs : List Value} (h : Row w ow H e τ v n xs) (hB : Below w.heap.size w w') : Row w' ow H e τ v n xs := ⟨own_below h.own hB, h.tag⟩
theorem Row.upd {w : World} {ow : Nat → Nat} {H e τ n g2 σ : Nat} {v : Value} {xs : List Value} (h : Row w ow H e τ v n xs) (hg : ow g2 = σ ∨ w.heap.size ≤ g2) : Row w (upd ow g2 σ) H e τ v n xs :=
  ⟨h.own, fun b hb => upd_keep hg (own_in h.own hb).2 (h.tag b hb)⟩

/-- The lists as they lie when all are marked. -/
theorem gro_start {w : World} {H B g N cT : Nat} {vs : List Value} (h : Upto w H B g N cT vs N 0) : ∃ ow, Gro w ow H B g N cT vs 0 [] [] := by
  obtain ⟨m, hL, hm, _, _⟩ := h
  refine ⟨fun b => if b = B then 0 else if b = g then 1 else 10 + vs.findIdx (fun v => v.ownBlock == some b), hL.bag, by simp, ?_, hL.lg, hL.num, hL.few, hL.cell, ?_, ?_, ?_, ?_⟩
  · simp [Ne.symm hL.nBg]
  · intro k v hv
    obtain ⟨a, l, c, xs, e, h1, h2, h3, h4⟩ := hL.row k v hv
    have hk : k < N := by rw [← hL.num]; exact (List.getElem?_eq_some_iff.1 hv).1
    refine ⟨a, l, c, e, h1, fun b hb => ⟨?_, (own_in h2 hb).2⟩, fun j hj => ?_⟩
    · obtain ⟨q1, q2⟩ := h4 b hb
      rw [if_neg q1, if_neg q2]
      congr 1
      obtain ⟨hkl, hke⟩ := List.getElem?_eq_some_iff.1 hv
      rw [List.findIdx_eq hkl]
      refine ⟨by rw [hke, hb]; simp, fun j hj => ?_⟩
      have hjl : j < vs.length := by omega
      have := hL.apart k j v vs[j] b hv (List.getElem?_eq_getElem hjl) (by omega) hb
      simpa using this
    · have hlm := hm k a l c hk (by rw [hv, e])
      obtain ⟨b, cap, e2, hc, _, hcell⟩ := own_cells h2 (by omega)
      rw [e] at e2
      obtain ⟨rfl, rfl⟩ : a = some ⟨b, 0, none⟩ ∧ c = cap := by simpa using e2
      exact ⟨b, rfl, hc, by rw [hcell j (by omega)]; exact h3 j (by omega) hj⟩
  · intro k v _ hv
    obtain ⟨a, l, c, xs, e, h1, h2, h3, h4⟩ := hL.row k v hv
    have hk : k < N := by rw [← hL.num]; exact (List.getElem?_eq_some_iff.1 hv).1
    have hlm := hm k a l c hk (by rw [hv, e])
    exact ⟨a, l, c, xs, e, h2, fun j hj => h3 j (by omega) hj⟩
  · intro k v hv; simp at hv
  · intro k v hv; simp at hv
end Go.Proofs.YthihnkgjkmaplaaGreatDoor.Tb
namespace Go.Proofs.YthihnkgjkmaplaaGreatDoor.Tb
open Go.RowKit

/-- The code from this region on. -/
def tailAt (n : Nat) : Code → Option Code
  | .seq (.region m ops d) b => if m = n then some (.seq (.region m ops d) b) else tailAt n b
  | .seq a b => match tailAt n a with
    | some c => some c
    | none => tailAt n b
  | _ => none
noncomputable def reg38 (n : Nat) : Code := match Tryz.f31.body.bind (tailAt n) with
  | some (.seq a _) => a
  | _ => .skip
noncomputable def rest38 (n : Nat) : Code := match Tryz.f31.body.bind (tailAt n) with
  | some (.seq _ b) => b
  | _ => .skip

theorem own_form {w : World} {H e n : Nat} {v : Value} {xs : List Value} (h : w.ownsRow H e 1 v n xs) (hn : 0 < n) : ∃ b c, v = .slice (some ⟨b, 0, none⟩) n c ∧ n ≤ c ∧ ∀ j, j < n → w.cell? ⟨b, j, none⟩ = xs[j]? := by
  obtain ⟨b, c, e1, h1, _, h2⟩ := own_cells h hn
  exact ⟨b, c, e1, h1, fun j hj => h2 j (by omega)⟩
/-- A loop's statement at this region, and what follows. -/
def forAt (n : Nat) : Code → Option (Code × Code × Code)
  | .seq (.seq (.region m ops d) c) b => if m = n then some (.region m ops d, c, b) else forAt n b
  | .seq _ b => forAt n b
  | _ => none
noncomputable def set20 : Code := ((Tryz.f31.body.bind (forAt 20)).getD (.skip, .skip, .skip)).1
noncomputable def loop20 : Code := ((Tryz.f31.body.bind (forAt 20)).getD (.skip, .skip, .skip)).2.1
noncomputable def end20 : Code := ((Tryz.f31.body.bind (forAt 20)).getD (.skip, .skip, .skip)).2.2

/-- One more text, or list: all that is known stays. -/
theorem gro_step {w wr W w2 : World} {ow : Nat → Nat} {H B g N cT q i τ e g2 cap : Nat} {vs os ms ys : List Value} {v x : Value} (HG : Gro wr ow H B g N cT vs q os ms) (HK : Kp w wr H B) (R : Row wr ow H e τ v i ys) (hW : Below wr.heap.size wr W) (hst : Stays W w2 v.ownBlock i)
    (hown2 : w2.ownsRow H e 1 (.slice (some ⟨g2, 0, none⟩) (i + 1) cap) (i + 1) (ys ++ [x])) (hloc : v.ownBlock = some g2 ∨ (W.heap.size ≤ g2 ∧ g2 < w2.heap.size)) (hm : May vs os ms q i τ) (hH : H ≤ wr.heap.size) :
    Gro w2 (upd ow g2 τ) H B g N cT vs q os ms ∧ Kp w w2 H B ∧ Row w2 (upd ow g2 τ) H e τ (.slice (some ⟨g2, 0, none⟩) (i + 1) cap) (i + 1) (ys ++ [x]) ∧ H ≤ w2.heap.size ∧
      ∀ (e' σ k : Nat) (v' : Value) (zs : List Value), σ ≠ τ → Row wr ow H e' σ v' k zs → Row w2 (upd ow g2 τ) H e' σ v' k zs := by
  have G1 := HG.below hW
  have R1 := R.below hW
  have hg : ow g2 = τ ∨ W.heap.size ≤ g2 := hloc.imp (fun h => R.tag _ h) (fun h => h.1)
  have hsW := hW.size
  have hBl : B < wr.heap.size := World.block_lt_of_cell? wr _ HG.bag
  have ht0 : τ ≠ 0 := by rcases hm with h | h | ⟨n, h, _⟩ <;> omega
  have tags : ∀ b, v.ownBlock = some b → upd ow g2 τ b = τ := fun b hb => upd_keep hg (own_in R1.own hb).2 (R.tag b hb)
  refine ⟨(G1.tag hg).keep hst tags (Nat.le_refl _) hm, ?_, ⟨hown2, ?_⟩, ?_, ?_⟩
  · refine kp_stay (kp_below HK hW hH hBl) hst (by omega) (by omega) (fun b hb => ⟨(own_in R1.own hb).1, ?_⟩)
    rintro rfl
    have := R.tag b hb
    rw [HG.tB] at this
    omega
  · intro b hb
    obtain rfl : g2 = b := by simpa [Value.ownBlock] using hb
    exact upd_self _ _ _
  · have := hst.size; omega
  · intro e' σ k v' zs hne hR
    exact ((hR.below hW).upd hg).keep hst tags hne
theorem below_alloc (w : World) (o : Obj) : Below w.heap.size w (w.alloc o) := (Below.refl _ _).alloc (Nat.le_refl _) _
/-- A cell of a row. -/
theorem row_cell {w : World} {ow : Nat → Nat} {H e τ n b c : Nat} {xs : List Value} {x : Value} {j : Nat} (R : Row w ow H e τ (.slice (some ⟨b, 0, none⟩) n c) n xs) (hj : xs[j]? = some x) : w.cell? ⟨b, j, none⟩ = some x ∧ n ≤ c ∧ b < w.heap.size := by
  have hl := (List.getElem?_eq_some_iff.1 hj).1
  have hn : xs.length = n := by have := R.own.1; omega
  obtain ⟨b', c', e1, h1, _, h2⟩ := own_cells R.own (by omega)
  obtain ⟨rfl, rfl⟩ : b = b' ∧ c = c' := by simpa using e1
  have h3 := (h2 j (by omega)).trans hj
  exact ⟨h3, h1, World.block_lt_of_cell? w _ h3⟩
end Go.Proofs.YthihnkgjkmaplaaGreatDoor.Tb
namespace Go.Proofs.YthihnkgjkmaplaaGreatDoor.Tb
open Go.RowKit

set_option maxRecDepth 100000 in
set_option maxHeartbeats 10000000 in
theorem apart_c (w wc : World) (H B g N cT q oc mc : Nat) (oa ma : Option Addr) (vs os ms : List Value) (ow : Nat → Nat) (hG : Gro wc ow H B g N cT vs q os ms) (hK : Kp w wc H B) (_hNc : N ≤ cT) (hH : H ≤ w.heap.size) (hTab : ∀ w', Below H w w' → Tab w') (hol : Aside (os.length = N)) (hml : Aside (ms.length = N)) (RO : Row wc ow H 23 2 (.slice oa N oc) N os) (RM : Row wc ow H 23 3 (.slice ma N mc) N ms) (K1 : Act → World → Prop) (hk1 : ∀ a w', Code.wp Tryz.prog end20 (bodyPost Tryz.prog Tryz.f31 fun e w' => e = .returned (.bool true) ∧ Kp w w' H B) a w' → K1 a w') (K : Act → World → Prop) (hk : ∀ a w', Code.wp Tryz.prog loop20 (Exit.then K1 (bodyPost Tryz.prog Tryz.f31 fun e w' => e = .returned (.bool true) ∧ Kp w w' H B)) a w' → K a w') (x1 x2 x3 x4 x7 x8 x9 x10 x11 x12 x13 x14 x15 x16 x17 x18 x19 x20 x21 x22 x23 x24 x25 x26 x27 x28 x29 x30 x31 x32 x33 x34 x35 x36 x37 x38 x39 x40 x41 x42 x43 x44 x45 x46 x47 x48 x49 x50 x51 x52 x53 x54 x55 x56 x57 x58 x59 x60 x61 x62 x63 x64 x65 x66 x67 x68 x69 x70 x71 x72 x73 x74 x75 x76 x77 x78 x79 x80 x81 x82 x83 x84 x85 x86 x87 x88 x89 x90 x91 x92 x93 x94 x95 x96 x97 x98 x99 x100 x101 x102 x103 x104 x105 x106 x107 x108 x109 x110 x111 x112 x113 x114 x115 x116 x117 x118 x119 x120 x121 x122 x123 x124 x125 x126 x127 x128 x129 x130 x131 x132 x133 x134 x135 x136 x137 x138 x139 x140 x141 x142 x143 x144 x145 x146 x147 x148 x149 x150 x151 x152 x153 x154 x155 x156 x157 x158 x159 x160 x161 x162 x163 x164 x165 x166 x167 x168 x169 x170 x171 x172 x173 x174 x175 x176 x177 x178 x179 x180 x181 x182 : Value) :
    Code.wp Tryz.prog set20 (Exit.then K (Exit.then K1 (bodyPost Tryz.prog Tryz.f31 fun e w' => e = .returned (.bool true) ∧ Kp w w' H B))) ⟨List.toArray (.pointer (some ⟨B, 0, none⟩) :: x1 :: x2 :: x3 :: x4 :: .slice oa N oc :: .slice ma N mc :: x7 :: x8 :: x9 :: x10 :: x11 :: x12 :: x13 :: x14 :: x15 :: x16 :: x17 :: x18 :: x19 :: x20 :: x21 :: x22 :: x23 :: x24 :: x25 :: x26 :: x27 :: x28 :: x29 :: x30 :: x31 :: x32 :: x33 :: x34 :: x35 :: x36 :: x37 :: x38 :: x39 :: x40 :: x41 :: x42 :: x43 :: x44 :: x45 :: x46 :: x47 :: x48 :: x49 :: x50 :: x51 :: x52 :: x53 :: x54 :: x55 :: x56 :: x57 :: x58 :: x59 :: x60 :: x61 :: x62 :: x63 :: x64 :: x65 :: x66 :: x67 :: x68 :: x69 :: x70 :: x71 :: x72 :: x73 :: x74 :: x75 :: x76 :: x77 :: x78 :: x79 :: x80 :: x81 :: x82 :: x83 :: x84 :: x85 :: x86 :: x87 :: x88 :: x89 :: x90 :: x91 :: x92 :: x93 :: x94 :: x95 :: x96 :: x97 :: x98 :: x99 :: x100 :: x101 :: x102 :: x103 :: x104 :: x105 :: x106 :: x107 :: x108 :: x109 :: x110 :: x111 :: x112 :: x113 :: x114 :: x115 :: x116 :: x117 :: x118 :: x119 :: x120 :: x121 :: x122 :: x123 :: x124 :: x125 :: x126 :: x127 :: x128 :: x129 :: x130 :: x131 :: x132 :: x133 :: x134 :: x135 :: x136 :: x137 :: x138 :: x139 :: x140 :: x141 :: x142 :: x143 :: x144 :: x145 :: x146 :: x147 :: x148 :: x149 :: x150 :: x151 :: x152 :: x153 :: x154 :: x155 :: x156 :: x157 :: x158 :: x159 :: x160 :: x161 :: x162 :: x163 :: x164 :: x165 :: x166 :: x167 :: x168 :: x169 :: x170 :: x171 :: x172 :: x173 :: x174 :: x175 :: x176 :: x177 :: x178 :: x179 :: x180 :: x181 :: x182 :: []), []⟩ wc := by
  conv => arg 2; whnf
  conv at hk => enter [a, w', 1, 2]; whnf
  conv at hk1 => enter [a, w', 1, 2]; whnf
  have hN := hG.few
  have hHl : H ≤ wc.heap.size := Nat.le_trans hH hK.below.size
  have hBl : B < wc.heap.size := World.block_lt_of_cell? wc _ hG.bag
  have hcur : Below wc.heap.size wc wc := Below.refl _ _
  go_wp2_with fail
  go_loopg [10] N (fun gh nv wr => ∃ n : Nat, n + gh = N ∧ nv = .int .i64 n ∧ Below wc.heap.size wc wr)
  case atStart => exact ⟨0, by omega, rfl, hcur⟩
  case round =>
    clear hcur
    obtain ⟨n, hng, rfl, hcur⟩ := hrel
    by_cases hn : n < N
    · have hn' : (n : Int) < (N : Int) := by omega
      have hn0 : (0 : Int) ≤ (n : Int) := by omega
      have hnm : n < ms.length := by rw [hml.out]; exact hn
      have hno : n < os.length := by rw [hol.out]; exact hn
      have hms := List.getElem?_eq_getElem hnm
      generalize ms[n] = mv at hms
      obtain ⟨la, L, lc, hv, b2, c2, rfl, hc2, -, hmc⟩ := hG.more n mv hms
      have hos := List.getElem?_eq_getElem hno
      generalize os[n] = ov at hos
      obtain ⟨la', L', lc', hv', b1, c1, rfl, hc1, -, hoc⟩ := hG.one n ov hos
      obtain ⟨rfl, rfl, rfl⟩ : la = la' ∧ L = L' ∧ lc = lc' := by rw [hv] at hv'; simpa using hv'
      obtain ⟨_, _, _, e', hL6, -, hrow⟩ := hG.row n _ hv
      obtain ⟨rfl, rfl, rfl⟩ := by simpa using e'
      obtain ⟨mb, mc', e1, -, hmcell⟩ := own_form RM.own (by omega)
      obtain ⟨rfl, rfl⟩ : ma = some ⟨mb, 0, none⟩ ∧ mc = mc' := by simpa using e1
      obtain ⟨ob, oc', e2, -, hocell⟩ := own_form RO.own (by omega)
      obtain ⟨rfl, rfl⟩ : oa = some ⟨ob, 0, none⟩ ∧ oc = oc' := by simpa using e2
      have hm1 := (hmcell n hn).trans hms
      have ho1 := (hocell n hn).trans hos
      have hg1 := hG.cell n _ hv
      have hb1 := hG.bag
      obtain ⟨-, hmN, -⟩ := row_cell RM hms
      obtain ⟨-, hoN, -⟩ := row_cell RO hos
      clear hmcell hocell hms hos hv hv' e1 e2 e'
      have hm1r := (hcur.cell (p := ⟨mb, n, none⟩) (World.block_lt_of_cell? _ _ hm1)).trans hm1
      go_wp2_with fail
      clear hm1r
      go_loopg [11] (L + 70) (fun gh iv wr => ∃ i : Nat, i + gh = L + 70 ∧ iv = .int .i64 i ∧ Below wc.heap.size wc wr)
      case atStart => exact ⟨0, by omega, rfl, hcur⟩
      case round =>
        clear hcur
        obtain ⟨i, hig, rfl, hcur⟩ := hrel
        have fm := (hcur.cell (p := ⟨mb, n, none⟩) (World.block_lt_of_cell? _ _ hm1)).trans hm1
        have fo := (hcur.cell (p := ⟨ob, n, none⟩) (World.block_lt_of_cell? _ _ ho1)).trans ho1
        have fg := (hcur.cell (p := ⟨g, n, none⟩) (World.block_lt_of_cell? _ _ hg1)).trans hg1
        have fb := (hcur.cell (p := ⟨B, 4, none⟩) (World.block_lt_of_cell? _ _ hb1)).trans hb1
        by_cases hi : i < L + 70
        · have hi' : (i : Int) < ((L + 70 : Nat) : Int) := by omega
          have hi'' : (i : Int) < (L : Int) + 70 := by omega
          have hi0 : (0 : Int) ≤ (i : Int) := by omega
          have hmi := hmc i hi
          have fc := (hcur.cell (p := ⟨b2, i, none⟩) (World.block_lt_of_cell? _ _ hmi)).trans hmi
          have hX := text_any n i (by omega) (by omega)
          clear hm1 ho1 hg1 hb1 hmc hmi
          by_cases hiL : i < L
          · have hiL' : (i : Int) < (L : Int) := by omega
            have hne : ((i : Int) == (L : Int)) = false := by simp; omega
            obtain ⟨b0, rfl, hlc, hr⟩ := hrow i hiL
            have fr := (hcur.cell (p := ⟨b0, i, none⟩) (World.block_lt_of_cell? _ _ hr)).trans hr
            clear hr hoc hrow
            go_wp2_with (first | (go_at_call 22; refine (hX _ (hTab _ (hK.below.trans (hcur.mono hHl)))).mono ?_; rintro e w' ⟨rfl, hB'⟩; have fm := (hB'.cell (p := ⟨mb, n, none⟩) (World.block_lt_of_cell? _ _ fm)).trans fm; have fc := (hB'.cell (p := ⟨b2, i, none⟩) (World.block_lt_of_cell? _ _ fc)).trans fc; have hcur := hcur.trans (hB'.mono hcur.size); clear hB'))
            go_roundg (gk - 1)
            case measure => omega
            case rel => exact ⟨i + 1, by omega, by go_num, hcur⟩
          · have hiL' : decide ((i : Int) < (L : Int)) = false := by simp; omega
            by_cases hE : i = L
            · subst hE
              have fr := (hcur.cell (p := ⟨b1, i, none⟩) (World.block_lt_of_cell? _ _ hoc)).trans hoc
              have hi1 : (i : Int) < (i : Int) + 1 := by omega
              have hi2 : (i : Int) < ((i + 1 : Nat) : Int) := by omega
              clear hoc hrow
              go_wp2_with (first | (go_at_call 22; refine (hX _ (hTab _ (hK.below.trans (hcur.mono hHl)))).mono ?_; rintro e w' ⟨rfl, hB'⟩; have fm := (hB'.cell (p := ⟨mb, n, none⟩) (World.block_lt_of_cell? _ _ fm)).trans fm; have fc := (hB'.cell (p := ⟨b2, i, none⟩) (World.block_lt_of_cell? _ _ fc)).trans fc; have hcur := hcur.trans (hB'.mono hcur.size); clear hB'))
              go_roundg (gk - 1)
              case measure => omega
              case rel => exact ⟨i + 1, by omega, by go_num, hcur⟩
            · have hne : ((i : Int) == (L : Int)) = false := by simp; omega
              clear hoc hrow
              go_wp2_with (first | (go_at_call 22; refine (hX _ (hTab _ (hK.below.trans (hcur.mono hHl)))).mono ?_; rintro e w' ⟨rfl, hB'⟩; have fm := (hB'.cell (p := ⟨mb, n, none⟩) (World.block_lt_of_cell? _ _ fm)).trans fm; have fc := (hB'.cell (p := ⟨b2, i, none⟩) (World.block_lt_of_cell? _ _ fc)).trans fc; have hcur := hcur.trans (hB'.mono hcur.size); clear hB'))
              go_roundg (gk - 1)
              case measure => omega
              case rel => exact ⟨i + 1, by omega, by go_num, hcur⟩
        · have hi' : decide ((i : Int) < ((L + 70 : Nat) : Int)) = false := by simp; omega
          have hi'' : decide ((i : Int) < (L : Int) + 70) = false := by simp; omega
          go_wp2_with fail
          go_roundg (N - (n + 1))
          case measure => omega
          case rel => exact ⟨n + 1, by omega, by go_num, hcur⟩
    · have hn' : decide ((n : Int) < (N : Int)) = false := by simp; omega
      go_wp2_with fail
      go_ret
      exact ⟨rfl, kp_below hK hcur hHl hBl⟩

end Go.Proofs.YthihnkgjkmaplaaGreatDoor.Tb
