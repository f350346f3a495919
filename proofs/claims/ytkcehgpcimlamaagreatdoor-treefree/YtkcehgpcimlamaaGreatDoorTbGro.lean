/- Lists of texts that are gone on with: who owns which block. -/
import Derived.Test.YtkcehgpcimlamaaGreatDoorTbAptw
namespace Go.Proofs.YtkcehgpcimlamaaGreatDoor.Tb
open Go.RowKit

/-- A block is handed to an owner. -/
def upd (ow : Nat → Nat) (g τ : Nat) : Nat → Nat := fun b => if b = g then τ else ow b
theorem upd_self (ow : Nat → Nat) (g τ : Nat) : upd ow g τ g = τ := by simp [upd]
theorem upd_keep {ow : Nat → Nat} {g τ b s x : Nat} (h : ow g = τ ∨ s ≤ g) (hb : b < s) (hx : ow b = x) : upd ow g τ b = x := by
  unfold upd
  by_cases e : b = g
  · rw [if_pos e]
    rcases h with h | h
    · rw [← h, ← e, hx]
    · omega
  · rw [if_neg e]; exact hx

theorem Stays.keep {w w' : World} {blk : Option Nat} {n b j : Nat} {u : Value} (h : Stays w w' blk n) (hc : w.cell? ⟨b, j, none⟩ = some u) (hk : some b ≠ blk ∨ j < n) : w'.cell? ⟨b, j, none⟩ = some u := by
  by_cases e : some b = blk
  · exact (h.cell b j e (hk.resolve_left (fun h => h e))).trans hc
  · exact (World.cell?_of_block (h.block b (World.block_lt_of_cell? w _ hc) e)).trans hc
theorem stays_below {w w' : World} (h : Below w.heap.size w w') : Stays w w' none 0 := ⟨h.os, h.tape, h.output, h.size, fun k hk _ => h.block k hk, fun k j e => by cases e⟩
theorem own_stay {w w' : World} {H e n m : Nat} {v : Value} {xs : List Value} {blk : Option Nat} (h : w.ownsRow H e 1 v n xs) (hs : Stays w w' blk m) (hb : ∀ b, v.ownBlock = some b → blk ≠ some b) : w'.ownsRow H e 1 v n xs := by
  obtain ⟨h1, h2 | ⟨g, cap, cur, rfl, hg, hh, hr⟩⟩ := h
  · exact ⟨h1, .inl h2⟩
  · exact ⟨h1, .inr ⟨g, cap, cur, rfl, hg, (hs.block g (Array.getElem?_eq_some_iff.1 hh).1 (fun e => hb g rfl e.symm)).trans hh, hr⟩⟩
theorem own_in {w : World} {H e n : Nat} {v : Value} {xs : List Value} (h : w.ownsRow H e 1 v n xs) {b : Nat} (hb : v.ownBlock = some b) : H ≤ b ∧ b < w.heap.size := by
  obtain ⟨h1, ⟨rfl, _⟩ | ⟨g, cap, cur, rfl, hg, hh, hr⟩⟩ := h
  · simp [Value.ownBlock] at hb
  · obtain rfl : g = b := by simpa [Value.ownBlock] using hb
    exact ⟨hg, (Array.getElem?_eq_some_iff.1 hh).1⟩
theorem kp_stay {w a a' : World} {H B m : Nat} {blk : Option Nat} (h : Kp w a H B) (hs : Stays a a' blk m) (hH : H ≤ a.heap.size) (hBl : B < a.heap.size) (hb : ∀ b, blk = some b → H ≤ b ∧ b ≠ B) : Kp w a' H B := by
  refine ⟨⟨hs.os.trans h.below.os, hs.tape.trans h.below.tape, hs.output.trans h.below.output, Nat.le_trans h.below.size hs.size, fun k hk => ?_⟩, ?_⟩
  · refine (hs.block k (by omega) ?_).trans (h.below.block k hk)
    intro e
    have := (hb k e.symm).1
    omega
  · refine (hs.block B hBl ?_).trans h.bag
    intro e
    exact (hb B e.symm).2 rfl

/-- The bag's lists, all marked, and what has been gone on with so far. -/
structure Gro (w : World) (ow : Nat → Nat) (H B g N cT : Nat) (vs : List Value) (q : Nat) (os ms : List Value) : Prop where
  bag : w.cell? ⟨B, 4, none⟩ = some (.slice (some ⟨g, 0, none⟩) N cT)
  tB : ow B = 0
  tg : ow g = 1
  lg : g < w.heap.size
  num : vs.length = N
  few : N ≤ 300
  cell : ∀ (k : Nat) (v : Value), vs[k]? = some v → w.cell? ⟨g, k, none⟩ = some v
  row : ∀ (k : Nat) (v : Value), vs[k]? = some v → ∃ a l c, v = .slice a l c ∧ l ≤ 1000000 ∧ (∀ b, v.ownBlock = some b → ow b = 10 + k ∧ b < w.heap.size) ∧ (∀ j, j < l → ∃ b, a = some ⟨b, 0, none⟩ ∧ l ≤ c ∧ w.cell? ⟨b, j, none⟩ = some (.string (mk k j)))
  own : ∀ (k : Nat) (v : Value), q ≤ k → vs[k]? = some v → ∃ a l c xs, v = .slice a l c ∧ w.ownsRow H 9 1 v l xs ∧ (∀ j, j < l → xs[j]? = some (.string (mk k j)))
  one : ∀ (k : Nat) (v : Value), os[k]? = some v → ∃ a l c, vs[k]? = some (.slice a l c) ∧ ∃ b c', v = .slice (some ⟨b, 0, none⟩) (l + 1) c' ∧ l + 1 ≤ c' ∧ ow b = 10 + k ∧ w.cell? ⟨b, l, none⟩ = some (.string (mk k l))
  more : ∀ (k : Nat) (v : Value), ms[k]? = some v → ∃ a l c, vs[k]? = some (.slice a l c) ∧ ∃ b c', v = .slice (some ⟨b, 0, none⟩) (l + 70) c' ∧ l + 70 ≤ c' ∧ ow b = 10 + k ∧ ∀ j, j < l + 70 → w.cell? ⟨b, j, none⟩ = some (.string (mk k j))

/-- Who may be gone on with, so that all that is known stays. -/
def May (vs os ms : List Value) (q len τ : Nat) : Prop :=
  τ = 2 ∨ τ = 3 ∨ ∃ n, τ = 10 + n ∧ n < q ∧ ms.length ≤ n ∧ ∀ a l c, vs[n]? = some (.slice a l c) → l ≤ len ∧ (n < os.length → l + 1 ≤ len)

theorem Gro.keep {w w' : World} {ow : Nat → Nat} {H B g N cT q q' len τ : Nat} {vs os ms : List Value} {blk : Option Nat} (h : Gro w ow H B g N cT vs q os ms) (hs : Stays w w' blk len) (hb : ∀ b, blk = some b → ow b = τ) (hq : q ≤ q') (hm : May vs os ms q' len τ) : Gro w' ow H B g N cT vs q' os ms := by
  have key : ∀ b j u, w.cell? ⟨b, j, none⟩ = some u → (ow b ≠ τ ∨ j < len) → w'.cell? ⟨b, j, none⟩ = some u := by
    intro b j u hc hk
    refine hs.keep hc ?_
    rcases hk with hk | hk
    · exact .inl (fun e => hk (hb b e.symm))
    · exact .inr hk
  have hlt : ∀ k v, vs[k]? = some v → ∀ a l c, v = .slice a l c → ∀ j, j < l → (10 + k ≠ τ ∨ j < len) := by
    intro k v hv a l c e j hj
    by_cases ht : 10 + k = τ
    · right
      rcases hm with h2 | h2 | ⟨n, h1, h2, h3, h4⟩
      · omega
      · omega
      · obtain rfl : n = k := by omega
        subst e
        have := (h4 a l c hv).1
        omega
    · exact .inl ht
  have ht0 : ow B ≠ τ := by rw [h.tB]; rcases hm with h2 | h2 | ⟨n, h1, _⟩ <;> omega
  have ht1 : ow g ≠ τ := by rw [h.tg]; rcases hm with h2 | h2 | ⟨n, h1, _⟩ <;> omega
  refine ⟨key _ _ _ h.bag (.inl ht0), h.tB, h.tg, Nat.lt_of_lt_of_le h.lg hs.size, h.num, h.few, fun k v hv => key _ _ _ (h.cell k v hv) (.inl ht1), ?_, ?_, ?_, ?_⟩
  · intro k v hv
    obtain ⟨a, l, c, e, h1, h2, h3⟩ := h.row k v hv
    refine ⟨a, l, c, e, h1, fun b hb => ⟨(h2 b hb).1, Nat.lt_of_lt_of_le (h2 b hb).2 hs.size⟩, fun j hj => ?_⟩
    obtain ⟨b, e2, h4, h5⟩ := h3 j hj
    refine ⟨b, e2, h4, key _ _ _ h5 ?_⟩
    have hob : ow b = 10 + k := (h2 b (by subst e; subst e2; rfl)).1
    rw [hob]
    exact hlt k v hv a l c e j hj
  · intro k v hk hv
    obtain ⟨a, l, c, xs, e, h1, h2⟩ := h.own k v (by omega) hv
    obtain ⟨_, _, _, _, _, h5, _⟩ := h.row k v hv
    refine ⟨a, l, c, xs, e, own_stay h1 hs ?_, h2⟩
    intro b hob e2
    have q1 := (h5 b hob).1
    have q2 := hb b e2
    rcases hm with h2 | h2 | ⟨n, h1, h2, _⟩ <;> omega
  · intro k v hv
    obtain ⟨a, l, c, e, b, c', e2, h1, h2, h3⟩ := h.one k v hv
    refine ⟨a, l, c, e, b, c', e2, h1, h2, key _ _ _ h3 ?_⟩
    rw [h2]
    by_cases ht : 10 + k = τ
    · right
      rcases hm with h2 | h2 | ⟨n, h1, h2, h3, h4⟩
      · omega
      · omega
      · obtain rfl : n = k := by omega
        have := (h4 a l c e).2 (List.getElem?_eq_some_iff.1 hv).1
        omega
    · exact .inl ht
  · intro k v hv
    obtain ⟨a, l, c, e, b, c', e2, h1, h2, h3⟩ := h.more k v hv
    refine ⟨a, l, c, e, b, c', e2, h1, h2, fun j hj => key _ _ _ (h3 j hj) ?_⟩
    rw [h2]
    left
    have hk := (List.getElem?_eq_some_iff.1 hv).1
    rcases hm with h2 | h2 | ⟨n, h1, h2, h3, h4⟩ <;> omega
theorem Gro.below {w w' : World} {ow : Nat → Nat} {H B g N cT q : Nat} {vs os ms : List Value} (h : Gro w ow H B g N cT vs q os ms) (hB : Below w.heap.size w w') : Gro w' ow H B g N cT vs q os ms :=
  h.keep (stays_below hB) (τ := 2) (fun b e => by cases e) (Nat.le_refl _) (.inl rfl)
theorem Gro.tag {w : World} {ow : Nat → Nat} {H B g N cT q : Nat} {vs os ms : List Value} (h : Gro w ow H B g N cT vs q os ms) {g2 τ : Nat} (hg : ow g2 = τ ∨ w.heap.size ≤ g2) : Gro w (upd ow g2 τ) H B g N cT vs q os ms := by
  refine ⟨h.bag, upd_keep hg (World.block_lt_of_cell? w _ h.bag) h.tB, upd_keep hg h.lg h.tg, h.lg, h.num, h.few, h.cell, ?_, h.own, ?_, ?_⟩
  · intro k v hv
    obtain ⟨a, l, c, e, h1, h2, h3⟩ := h.row k v hv
    exact ⟨a, l, c, e, h1, fun b hb => ⟨upd_keep hg (h2 b hb).2 (h2 b hb).1, (h2 b hb).2⟩, h3⟩
  · intro k v hv
    obtain ⟨a, l, c, e, b, c', e2, h1, h2, h3⟩ := h.one k v hv
    exact ⟨a, l, c, e, b, c', e2, h1, upd_keep hg (World.block_lt_of_cell? w _ h3) h2, h3⟩
  · intro k v hv
    obtain ⟨a, l, c, e, b, c', e2, h1, h2, h3⟩ := h.more k v hv
    exact ⟨a, l, c, e, b, c', e2, h1, upd_keep hg (World.block_lt_of_cell? w _ (h3 0 (by omega))) h2, h3⟩
theorem gro_addOne {w : World} {ow : Nat → Nat} {H B g N cT q l c' b : Nat} {vs os ms : List Value} {a : Option Addr} {c : Nat} (h : Gro w ow H B g N cT vs q os ms) (hv : vs[os.length]? = some (.slice a l c)) (hc : l + 1 ≤ c') (ho : ow b = 10 + os.length) (hm : w.cell? ⟨b, l, none⟩ = some (.string (mk os.length l))) :
    Gro w ow H B g N cT vs q (os ++ [.slice (some ⟨b, 0, none⟩) (l + 1) c']) ms := by
  refine ⟨h.bag, h.tB, h.tg, h.lg, h.num, h.few, h.cell, h.row, h.own, ?_, h.more⟩
  intro k v hk
  by_cases e : k < os.length
  · rw [List.getElem?_append_left e] at hk
    exact h.one k v hk
  · have hl := (List.getElem?_eq_some_iff.1 hk).1
    simp at hl
    obtain rfl : k = os.length := by omega
    simp at hk
    exact ⟨a, l, c, hv, b, c', hk.symm, hc, ho, hm⟩
theorem gro_addMore {w : World} {ow : Nat → Nat} {H B g N cT q l c' b : Nat} {vs os ms : List Value} {a : Option Addr} {c : Nat} (h : Gro w ow H B g N cT vs q os ms) (hv : vs[ms.length]? = some (.slice a l c)) (hc : l + 70 ≤ c') (ho : ow b = 10 + ms.length) (hm : ∀ j, j < l + 70 → w.cell? ⟨b, j, none⟩ = some (.string (mk ms.length j))) :
    Gro w ow H B g N cT vs q os (ms ++ [.slice (some ⟨b, 0, none⟩) (l + 70) c']) := by
  refine ⟨h.bag, h.tB, h.tg, h.lg, h.num, h.few, h.cell, h.row, h.own, h.one, ?_⟩
  intro k v hk
  by_cases e : k < ms.length
  · rw [List.getElem?_append_left e] at hk
    exact h.more k v hk
  · have hl := (List.getElem?_eq_some_iff.1 hk).1
    simp at hl
    obtain rfl : k = ms.length := by omega
    simp at hk
    exact ⟨a, l, c, hv, b, c', hk.symm, hc, ho, hm⟩

/-- A row and its owner. -/
structure Row (w : World) (ow : Nat → Nat) (H e τ : Nat) (v : Value) (n : Nat) (xs : List Value) : Prop where
  own : w.ownsRow H e 1 v n xs
  tag : ∀ b, v.ownBlock = some b → ow b = τ
theorem Row.keep {w w' : World} {ow : Nat → Nat} {H e τ σ n m : Nat} {v : Value} {xs : List Value} {blk : Option Nat} (h : Row w ow H e τ v n xs) (hs : Stays w w' blk m) (hb : ∀ b, blk = some b → ow b = σ) (hne : τ ≠ σ) : Row w' ow H e τ v n xs :=
  ⟨own_stay h.own hs (fun b h1 h2 => hne ((h.tag b h1).symm.trans (hb b h2))), h.tag⟩
theorem Row.below {w w' : World} {ow : Nat → Nat} {H e τ n : Nat} {v : Value} {xs : List Value} (h : Row w ow H e τ v n xs) (hB : Below w.heap.size w w') : Row w' ow H e τ v n xs := ⟨own_below h.own hB, h.tag⟩
theorem Row.upd {w : World} {ow : Nat → Nat} {H e τ n g2 σ : Nat} {v : Value} {xs : List Value} (h : Row w ow H e τ v n xs) (hg : ow g2 = σ ∨ w.heap.size ≤ g2) : Row w (upd ow g2 σ) H e τ v n xs :=
  ⟨h.own, fun b hb => upd_keep hg (own_in h.own hb).2 (h.tag b hb)⟩

/-- The lists as they lie when all are marked. -/
theorem gro_start {w : World} {H B g N cT : Nat} {vs : List Value} (h : Upto w H B g N cT vs N 0) : ∃ ow, Gro w ow H B g N cT vs 0 [] [] := by
  obtain ⟨m, hL, hm, _, _⟩ := h
  refine ⟨fun b => if b = B then 0 else if b = g then 1 else 10 + vs.findIdx (fun v => v.ownBlock == some b), hL.bag, by simp, ?_, hL.lg, hL.num, hL.few, hL.cell, ?_, ?_, ?_, ?_⟩
  · simp [Ne.symm hL.nBg]
  · intro k v hv
    obtain ⟨a, l, c, xs, e, h1, h2, h3, h4⟩ := hL.row k v hv
    have hk : k < N := by rw [← hL.num]; exact (List.getElem?_eq_some_iff.1 hv).1
    refine ⟨a, l, c, e, h1, fun b hb => ⟨?_, (own_in h2 hb).2⟩, fun j hj => ?_⟩
    · obtain ⟨q1, q2⟩ := h4 b hb
      rw [if_neg q1, if_neg q2]
      congr 1
      obtain ⟨hkl, hke⟩ := List.getElem?_eq_some_iff.1 hv
      rw [List.findIdx_eq hkl]
      refine ⟨by rw [hke, hb]; simp, fun j hj => ?_⟩
      have hjl : j < vs.length := by omega
      have := hL.apart k j v vs[j] b hv (List.getElem?_eq_getElem hjl) (by omega) hb
      simpa using this
    · have hlm := hm k a l c hk (by rw [hv, e])
      obtain ⟨b, cap, e2, hc, _, hcell⟩ := own_cells h2 (by omega)
      rw [e] at e2
      obtain ⟨rfl, rfl⟩ : a = some ⟨b, 0, none⟩ ∧ c = cap := by simpa using e2
      exact ⟨b, rfl, hc, by rw [hcell j (by omega)]; exact h3 j (by omega) hj⟩
  · intro k v _ hv
    obtain ⟨a, l, c, xs, e, h1, h2, h3, h4⟩ := hL.row k v hv
    have hk : k < N := by rw [← hL.num]; exact (List.getElem?_eq_some_iff.1 hv).1
    have hlm := hm k a l c hk (by rw [hv, e])
    exact ⟨a, l, c, xs, e, h2, fun j hj => h3 j (by omega) hj⟩
  · intro k v hv; simp at hv
  · intro k v hv; simp at hv
end Go.Proofs.YtkcehgpcimlamaaGreatDoor.Tb
