/- The document's Casts. -/
import Derived.Test.YtnhihajhhlilfaaMgbp
import Derived.Deep.AppendLies
import Derived.Deep.RegionLaw
import Derived.BigRegion
namespace Go.Proofs.Ytnhihajhhlilfaa
open Go.RowKit Co
open T3.Tp (Ty enc cns)
open Tr (T flat flats)
set_option maxRecDepth 100000
set_option linter.unusedSimpArgs false
set_option linter.unusedVariables false

theorem infoD10 : (Try.prog.info? 37).map (fun i => (i.zero, i.size, i.bytes)) = some (some (.agg #[.int .i64 0, .string ⟨#[]⟩, .string ⟨#[]⟩]), 3, 40) := by kernel_rfl
theorem tyD10 : Try.prog.underlying 33 = some (.slice 37) := by kernel_rfl

set_option maxHeartbeats 4000000 in
theorem dcasts_any (l : List Tr.Nd) (hl : l.length ≤ 100000) (v : Value) (w : World) (hv : IsNodes w v l) :
    Calls Try.prog 15 #[v] w fun e w' => ∃ cv, e = .returned cv ∧ w'.ownsRow w.heap.size 37 3 cv (castL l).length (crow (castL l)) ∧ Below w.heap.size w w' := by
  obtain ⟨i0, hi, hz0, hz1, hz2⟩ := info_parts infoD10
  obtain ⟨a, c, rfl⟩ := hv.form
  have HV : Aside (∀ w', Below w.heap.size w w' → IsNodes w' (.slice a l.length c) l) := fun w' hB => hv.below hB
  clear hv
  go_enter Try.func15, Try.ntmps15
  go_wp2_with fail
  go_loopg [3, 4] l.length (fun g s t wr => ∃ (k m : Nat), k + g = l.length ∧ t = .int .i64 (k : Int) ∧ Aside (m = (castL (l.take k)).length) ∧ wr.ownsRow w.heap.size 37 3 s m (crow (castL (l.take k))) ∧ Below w.heap.size w wr)
  case atStart => exact ⟨0, 0, by omega, rfl, rfl, own_nil _ _ _ _, Below.refl _ _⟩
  case round =>
    obtain ⟨k, m, hkg, rfl, HM, hown, hB⟩ := hrel
    have hBz := hB.size
    have hk0 : (0 : Int) ≤ (k : Int) := by omega
    obtain ⟨sa, sc, rfl⟩ := own_len hown
    by_cases hk : k < l.length
    · have hk' : (k : Int) < (l.length : Int) := by omega
      obtain ⟨x, hx⟩ : ∃ x, l[k]? = some x := ⟨_, List.getElem?_eq_getElem hk⟩
      obtain ⟨b, o, rfl, hlc, hb, hcx⟩ := (HV.out wr hB).at hx
      obtain ⟨p0, p1, p2, p3, p4, p5, p6, p7⟩ := agg_cells (o := o + k * 8) hcx
      have hml : m ≤ l.length := by have := HM.out; have := castL_le l k; omega
      by_cases h30 : x.kind = 30
      · have HM2 : Aside (m + 1 = (castL (l.take (k + 1))).length) := by show _ = _; rw [castL_take hx, if_pos h30, List.length_append, ← HM.out]; rfl
        have HN2 : Aside (crow (castL (l.take k)) ++ [.int .i64 x.n, .string x.t, .string x.u] = crow (castL (l.take (k + 1)))) := by show _ = _; rw [castL_take hx, if_pos h30, crow_app]; rfl
        have HB3 : Aside (∀ w3, (wr.drew).grownBy w3 (Value.ownBlock (.slice sa m sc)) → Below w.heap.size w w3) := fun w3 hg => hB.drew.grown hg hBz (fun x e => (hown.lt x e).1)
        have h30' : (x.kind == 30) = true := by simp [h30]
        clear HM hx hcx h30 p1 p3 p6 p7
        generalize crow (castL (l.take k)) = cur at *
        go_wp2_with fail
        go_region_law ((refine step_append_lies _ (by rfl) _ _ _ (by rfl) w.heap.size 37 i0 (.agg #[.int .i64 0, .string ⟨#[]⟩, .string ⟨#[]⟩]) 3 40 tyD10 hi hz0 hz1 hz2 rfl (by decide) (.slice sa m sc) _ _ (by rfl) (World.ownsRow.alloc (w := wr.drew) hown _) ⟨wr.heap.size, 0, none⟩ 1 1 [.int .i64 x.n, .string x.t, .string x.u] (by rfl) rfl (cells_list_new wr.drew [.int .i64 x.n, .string x.t, .string x.u] 37) (fun u hu => by simp at hu; rcases hu with rfl | rfl | rfl <;> rfl) (by omega) (by unfold maxLen; omega) (by omega) (by simp; omega) (wr.heap.size + 1) (by simp) ?_; intro g2 cap2 w2 hown2 hg2 hat hlt))
        all_goals
          rw [HN2.out] at hown2
          go_wp2_with fail
          go_roundg (gk - 1)
          case measure => omega
          case rel => exact ⟨k + 1, m + 1, by omega, by go_num, HM2, hown2, HB3.out _ (grownBy_alloc_pre hg2)⟩
      · have HM2 : Aside (m = (castL (l.take (k + 1))).length) := by show _ = _; rw [castL_take hx, if_neg h30, List.append_nil, ← HM.out]
        have HO : Aside (wr.ownsRow w.heap.size 37 3 (.slice sa m sc) m (crow (castL (l.take (k + 1))))) := by show World.ownsRow _ _ _ _ _ _ _; rw [castL_take hx, if_neg h30, List.append_nil]; exact hown
        have h30' : (x.kind == 30) = false := by simp [h30]
        clear HM hx hcx h30 hown
        go_wp2_with fail
        go_roundg (gk - 1)
        case measure => omega
        case rel => exact ⟨k + 1, m, by omega, by go_num, HM2, HO.out, hB⟩
    · have hk' : ¬ (k : Int) < (l.length : Int) := by omega
      have hm := HM.out
      rw [List.take_of_length_le (by omega)] at hown hm
      subst hm
      have HF : Aside (∃ cv, Ending.returned (.slice sa (castL l).length sc) = .returned cv ∧ wr.ownsRow w.heap.size 37 3 cv (castL l).length (crow (castL l)) ∧ Below w.heap.size w wr) := ⟨_, rfl, hown, hB⟩
      clear HM HV hown
      go_wp2_with fail
      go_ret
      exact HF.out
end Go.Proofs.Ytnhihajhhlilfaa
