/- The document's Goes: the parts of a type that stand at an end. -/
import Derived.Test.YtaaokecdmbmgbaaDoorUbi
import Derived.Test.YtaaokecdmbmgbaaDoorUaz
import Derived.Test.YtaaokecdmbmgbaaDoorUbh
import Derived.Deep.RegionWith
import Derived.Deep.RegionHeld3
import Derived.StillTailTactics
namespace Go.Proofs.YtaaokecdmbmgbaaDoor
open Go.RowKit Cc
set_option maxRecDepth 100000
set_option linter.unusedSimpArgs false
set_option linter.unusedVariables false
theorem partD_any (F : Ty) (i : Nat) (hi : i < (T3.Tp.kids F).length) (h64 : (T3.Tp.enc F).length ≤ 64) (w : World) :
    Calls Tryd.prog 41 #[.string (sT F), .int .i64 (i : Int)] w fun e w' => e = .returned (.string (sT (kd false i F))) ∧ w' = w := by
  cases F with
  | tl a =>
    obtain rfl : i = 0 := by simpa [T3.Tp.kids] using hi
    exact T3.part0_any _ a 108 [] (by rw [List.append_nil]; rfl) (by simpa [T3.Tp.enc] using h64) w
  | tx a =>
    obtain rfl : i = 0 := by simpa [T3.Tp.kids] using hi
    exact T3.part0_any _ a 120 [] (by rw [List.append_nil]; rfl) (by simpa [T3.Tp.enc] using h64) w
  | tf a b =>
    rcases (show i = 0 ∨ i = 1 by simp [T3.Tp.kids] at hi; omega) with rfl | rfl
    · exact T3.part0_any _ a 62 (T3.Tp.enc b) rfl (by simpa [T3.Tp.enc] using h64) w
    · exact T3.part1_any _ a b 62 rfl (by simpa [T3.Tp.enc] using h64) w
  | tp a b =>
    rcases (show i = 0 ∨ i = 1 by simp [T3.Tp.kids] at hi; omega) with rfl | rfl
    · exact T3.part0_any _ a 44 (T3.Tp.enc b) rfl (by simpa [T3.Tp.enc] using h64) w
    · exact T3.part1_any _ a b 44 rfl (by simpa [T3.Tp.enc] using h64) w
  | ti => simp [T3.Tp.kids] at hi
  | tb => simp [T3.Tp.kids] at hi
  | tt => simp [T3.Tp.kids] at hi
  | tq => simp [T3.Tp.kids] at hi
namespace Cc
/-- The type that stands at an end of the middle. -/
def endT (u : Bool) (h : H) (t : Ty) : Ty := if u then gT h else t
theorem endT_len {u : Bool} {h : H} {t : Ty} (ht : (T3.Tp.enc t).length ≤ 64) : (T3.Tp.enc (endT u h t)).length ≤ 64 := by
  unfold endT
  split
  · cases h <;> (try decide)
    rename_i k; cases k <;> decide
  · exact ht
theorem endT_kd {u : Bool} {h : H} {t : Ty} {i : Nat} (hi : i < nH h) : kd false i (endT u h t) = kd u i t := by
  unfold endT kd
  cases u
  · rfl
  · simp only [if_true, if_false, Bool.false_eq_true]
    cases h with
    | tw k => cases k <;> simp only [nH, gT, T3.Tp.kids] at hi ⊢ <;> (match i, hi with | 0, _ => rfl | 1, _ => rfl)
    | ls => simp only [nH, gT, T3.Tp.kids] at hi ⊢; (match i, hi with | 0, _ => rfl)
    | _ => simp [nH] at hi
theorem hd_kids {t : Ty} {h : H} (e : hdI t = hB h) : (T3.Tp.kids t).length = nH h := by
  cases t <;> cases h <;> (try rename_i k; cases k) <;> simp [hdI, T3.Tp.hd, hB, T3.Tp.kids, nH] at e ⊢
/-- The head of a text of a type. -/
theorem sT_head (F : Ty) : 0 < (sT F).size ∧ ∀ h : 0 < (sT F).size, (((sT F)[0]'h).toNat : Int) = hdI F := by
  obtain ⟨h1, h2⟩ := T3.S_head F
  exact ⟨h1, fun h => by rw [hdI, h2 h]⟩
theorem isq_iff (t : Ty) : T3.Tp.isq t = decide (t = .tq) := rfl
def DgC (c : C) : Prop := ∀ (v : Value) (lo hi : Nat) (w : World) (f t : Ty), DT w lo hi c v → hi ≤ w.heap.size → (T3.Tp.enc f).length ≤ 64 → (T3.Tp.enc t).length ≤ 64 →
  Calls Tryd.prog 17 #[tree (nod c) v, .string (sT f), .string (sT t)] w fun e w' => e = .returned (.bool (goT c f t)) ∧ Below w.heap.size w w'
end Cc
set_option maxHeartbeats 1600000 in
theorem dGoes_any : DgC .any := by
  intro v lo hi w f t hd hh hf ht
  have q1 : ((sT f).toList == [63]) = T3.Tp.isq f := T3.Tp.isq_S f
  have q2 : ((sT t).toList == [63]) = T3.Tp.isq t := T3.Tp.isq_S t
  have HG : Aside (goT .any f t = (T3.Tp.isq f && T3.Tp.isq t)) := rfl
  obtain rfl : v = .slice none 0 0 := hd
  have hA : ∀ o, Below w.heap.size w (w.alloc o) := fun o => (Below.refl _ _).alloc (Nat.le_refl _) _
  rw [show nod .any = ⟨1, 0, false, 0, 0, 0, 0⟩ from rfl]
  generalize goT .any f t = G at *
  generalize T3.Tp.isq f = i1 at *
  generalize T3.Tp.isq t = i2 at *
  generalize sT f = sf at *
  generalize sT t = st at *
  cases i1
  all_goals cases i2
  all_goals
    go_enter Tryd.func17, Tryd.ntmps17
    go_wp2
    go_ret
    exact ⟨ret_b (by rw [HG.out]; rfl), hA _⟩
end Go.Proofs.YtaaokecdmbmgbaaDoor
