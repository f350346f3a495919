/- LabelTurns returns true. -/
import Derived.Test.YteaolcfpdhlohaaDoorLbI
import Derived.Test.YteaolcfpdhlohaaDoorLbS
namespace Go.Proofs.YteaolcfpdhlohaaDoor
open Go.RowKit
set_option maxRecDepth 100000
set_option linter.unusedSimpArgs false

theorem IsSites.drewN {w : World} {v : Value} {l : List Lb.Si} (h : IsSites w v l) (n : Nat) : IsSites (w.drewN n) v l := h.below (below_drewN (Below.refl _ _) n)
theorem HasW.drewN {w : World} (h : HasW w) (n : Nat) : HasW (w.drewN n) := h.below (below_drewN (Below.refl _ _) n)
/-- A site in a block of its own. -/
def Box (w : World) (b : Nat) (x : Lb.Si) : Prop := b < w.heap.size ∧ ∀ i u, (Lb.scells x)[i]? = some u → w.cell? ⟨b, i, none⟩ = some u
theorem Box.new (w : World) (m e : ByteArray) (ln co ru : Int) (t : TypeId) : Box (w.alloc (.cells #[.string m, .string e, .int .i64 ln, .int .i64 co, .int .i64 ru] t)) w.heap.size ⟨m, e, ln, co, ru⟩ := by
  refine ⟨by simp, fun i u hu => ?_⟩
  have hb := (block_cells (heap_alloc_new w (.cells #[.string m, .string e, .int .i64 ln, .int .i64 co, .int .i64 ru] t))).1 i
  rw [hb, ← hu]; exact List.getElem?_toArray (xs := Lb.scells ⟨m, e, ln, co, ru⟩) (i := i)
theorem Box.below {w w' : World} {b : Nat} {x : Lb.Si} (h : Box w b x) (hB : Below w.heap.size w w') : Box w' b x :=
  ⟨Nat.lt_of_lt_of_le h.1 hB.size, fun i u hu => (hB.cell (p := ⟨b, i, none⟩) h.1).trans (h.2 i u hu)⟩
theorem Box.cells {w : World} {b : Nat} {x : Lb.Si} (h : Box w b x) : b < w.heap.size ∧ w.cell? ⟨b, 0, none⟩ = some (.string x.m) ∧ w.cell? ⟨b, 1, none⟩ = some (.string x.e) ∧ w.cell? ⟨b, 2, none⟩ = some (.int .i64 x.ln) ∧ w.cell? ⟨b, 3, none⟩ = some (.int .i64 x.co) ∧ w.cell? ⟨b, 4, none⟩ = some (.int .i64 x.ru) :=
  ⟨h.1, h.2 0 _ rfl, h.2 1 _ rfl, h.2 2 _ rfl, h.2 3 _ rfl, h.2 4 _ rfl⟩

set_option maxHeartbeats 4000000 in
theorem turns_a (l : List Lb.Si) (hlen : l.length ≤ 2048) (b : Int) (h : -9223372036854775808 ≤ b) (h' : b ≤ 9223372036854775807) (a : Option Addr) (c : Nat) (w : World) (hl : IsSites w (.slice a l.length c) l) (hW : HasW w) (hwd : Calls Tryd.prog 6 #[.slice a l.length c] w fun e w' => e = .returned (.bool false) ∧ ∃ n, w' = w.drewN n) (h0 : Lb.lab b = 0) :
    Calls Tryd.prog 5 #[.slice a l.length c, .int .i64 b] w fun e w' => e = .returned (.bool true) ∧ Below w.heap.size w w' := by
  have hs1 := side_any b h h'
  have ht1 := turn_any b h h'
  obtain ⟨r1, r2⟩ := Lb.turn_range h h'
  have hs2 := side_any (Lb.turn b) r1 r2
  rw [Lb.lab_turn h h'] at hs2
  have hcp := copySites_any l hlen
  have hof := of_none l (by omega) b h h' (by unfold Lb.site; rw [if_pos (.inl h0)])
  obtain ⟨e1, e2, e3⟩ := Lb.none_turn h h' h0
  rw [h0, e2] at hs1
  rw [h0, e3] at hs2
  rw [e1] at ht1 hs2
  clear h0 e1 e2 e3 r1 r2
  go_enter Tryd.func5, Tryd.ntmps5
  go_wp2_with fail
  go_at_call 6
  refine (hwd).mono ?_
  rintro e w' ⟨rfl, n0, hw'⟩
  have hl := hl.drewN n0
  have hW := hW.drewN n0
  have hB0 : Below w.heap.size w (w.drewN n0) := below_drewN (Below.refl _ _) n0
  replace hw' := hw'.symm
  rw [hw'] at hl hW hB0
  clear hw'
  go_wp2_with fail
  go_at_call 9
  refine (hs1 _).mono ?_
  rintro e w' ⟨rfl, hw'⟩
  replace hw' := hw'.symm
  subst hw'
  go_wp2_with fail
  go_at_call 17
  refine (ht1 _).mono ?_
  rintro e w' ⟨rfl, hw'⟩
  replace hw' := hw'.symm
  subst hw'
  go_wp2_with fail
  go_at_call 9
  refine (hs2 _).mono ?_
  rintro e w' ⟨rfl, hw'⟩
  replace hw' := hw'.symm
  subst hw'
  go_wp2_with fail
  go_at_call 28
  refine (hcp _ _ hl).mono ?_
  rintro e w1 ⟨a1, c1, rfl, hl1, _, hB1⟩
  go_wp2_with fail
  go_at_call 11
  refine (hof _ _ hl1).mono ?_
  rintro e w2 ⟨rfl, hB2⟩
  have hW2 := (hW.below hB1).below hB2
  go_wp2_with fail
  go_at_call 7
  refine (lives_any _ (hW2.below (by repeat (first | exact Below.refl _ _ | refine bset ?_ | refine balloc ?_ _)))).mono ?_
  rintro e w3 ⟨rfl, hB3⟩
  go_wp2_with fail
  go_ret
  exact ⟨rfl, by repeat (first | exact hB0 | exact Below.refl _ _ | refine bset ?_ | refine balloc ?_ _ | refine bt ?_ (by assumption))⟩
end Go.Proofs.YteaolcfpdhlohaaDoor
