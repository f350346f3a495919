/- Package core: Casts. -/
import Derived.Test.YtnhihajhhlilfaaMgbn
import Derived.Test.YtnhihajhhlilfaaMgbp
import Derived.Maps.AppendAt
namespace Go.Proofs.Ytnhihajhhlilfaa
open Go.RowKit Co
open T3.Tp (Ty enc cns)
open Tr (T flat flats)
set_option maxRecDepth 100000
set_option linter.unusedSimpArgs false
set_option linter.unusedVariables false

/-- The casts of a list. -/
def castL (l : List Tr.Nd) : List Tr.Nd := l.filter fun x => decide (x.kind = 30)
def crow (l : List Tr.Nd) : List Value := l.flatMap fun x => [.int .i64 x.n, .string x.t, .string x.u]
theorem crow_len (l : List Tr.Nd) : (crow l).length = l.length * 3 := by
  unfold crow
  induction l with
  | nil => rfl
  | cons x r ih => simp [ih]; omega
theorem crow_app (a b : List Tr.Nd) : crow (a ++ b) = crow a ++ crow b := by simp [crow]
theorem castL_take {l : List Tr.Nd} {k : Nat} {x : Tr.Nd} (h : l[k]? = some x) : castL (l.take (k + 1)) = castL (l.take k) ++ (if x.kind = 30 then [x] else []) := by
  unfold castL
  rw [List.take_add_one, h, List.filter_append]
  congr 1
  by_cases e : x.kind = 30 <;> simp [e]
theorem infoL : (Try.prog.info? 36).map (fun i => (i.zero, i.size, i.bytes)) = some (some (.agg #[.int .i64 0, .string ⟨#[]⟩, .string ⟨#[]⟩]), 3, 40) := by kernel_rfl
theorem tyLaids : Try.prog.underlying 30 = some (.slice 36) := by kernel_rfl
/-- How Casts ends. -/
def CaEnd (w : World) (l : List Tr.Nd) (e : Ending) (w' : World) : Prop := Below w.heap.size w w' ∧ match Co.check l with
  | .error q => e = .returned (.tuple #[.slice none 0 0, .int .i64 q.1])
  | .ok _ => ∃ cv, e = .returned (.tuple #[cv, .int .i64 0]) ∧ w'.ownsRow w.heap.size 36 3 cv (castL l).length (crow (castL l))
theorem castL_le (l : List Tr.Nd) (k : Nat) : (castL (l.take k)).length ≤ l.length := by
  unfold castL
  have := List.length_filter_le (fun x : Tr.Nd => decide (x.kind = 30)) (l.take k)
  simp at this ⊢; omega

set_option maxHeartbeats 4000000 in
theorem ccasts_any (l : List Tr.Nd) (hl : l.length ≤ 100000) (hf : FitC l) (v : Value) (w : World) (hv : IsNodes w v l) :
    Calls Try.prog 13 #[v] w (CaEnd w l) := by
  obtain ⟨i0, hi, hz0, hz1, hz2⟩ := info_parts infoL
  have hck := ccheck_any l hl hf v w hv
  obtain ⟨a, c, rfl⟩ := hv.form
  cases hr : Co.check l with
  | error q =>
    rw [hr] at hck
    have hq : (q.1 != 0) = true := by simpa using Co.check_pos hr
    have HF : Aside (∀ w2, Below w.heap.size w w2 → CaEnd w l (.returned (.tuple #[.slice none 0 0, .int .i64 q.1])) w2) := fun w2 hB => by
      unfold CaEnd; rw [hr]; exact ⟨hB, rfl⟩
    clear hr
    unfold ckV at hck
    simp only at hck
    go_enter Try.func13, Try.ntmps13
    go_wp2_with fail
    refine hck.mono ?_
    rintro e w2 ⟨rfl, hB2⟩
    have hfin := HF.out w2 hB2
    clear hck HF
    go_wp2_with fail
    go_ret2
    exact hfin
  | ok τ =>
    rw [hr] at hck
    unfold ckV at hck
    simp only at hck
    have HF : Aside (∀ w2 cv, Below w.heap.size w w2 → w2.ownsRow w.heap.size 36 3 cv (castL l).length (crow (castL l)) → CaEnd w l (.returned (.tuple #[cv, .int .i64 0])) w2) := fun w2 cv hB ho => by
      unfold CaEnd; rw [hr]; exact ⟨hB, cv, rfl, ho⟩
    have HV : Aside (∀ w', Below w.heap.size w w' → IsNodes w' (.slice a l.length c) l) := fun w' hB => hv.below hB
    clear hr
    generalize S (T3.Tp.enc τ) = sτ at *
    go_enter Try.func13, Try.ntmps13
    go_wp2_with fail
    refine hck.mono ?_
    rintro e w2 ⟨rfl, hB2⟩
    clear hck
    go_wp2_with fail
    go_loopg [7, 21] l.length (fun g s t wr => ∃ (k m : Nat), k + g = l.length ∧ t = .int .i64 (k : Int) ∧ Aside (m = (castL (l.take k)).length) ∧ wr.ownsRow w.heap.size 36 3 s m (crow (castL (l.take k))) ∧ Below w.heap.size w wr)
    case atStart => exact ⟨0, 0, by omega, rfl, rfl, own_nil _ _ _ _, hB2⟩
    case round =>
      clear hB2
      obtain ⟨k, m, hkg, rfl, HM, hown, hB⟩ := hrel
      have hBz := hB.size
      have hk0 : (0 : Int) ≤ (k : Int) := by omega
      obtain ⟨sa, sc, rfl⟩ := own_len hown
      by_cases hk : k < l.length
      · have hk' : (k : Int) < (l.length : Int) := by omega
        obtain ⟨x, hx⟩ : ∃ x, l[k]? = some x := ⟨_, List.getElem?_eq_getElem hk⟩
        obtain ⟨b, o, rfl, hlc, hb, hcx⟩ := (HV.out wr hB).at hx
        obtain ⟨p0, p1, p2, p3, p4, p5, p6, p7⟩ := agg_cells (o := o + k * 8) hcx
        have hml : m ≤ l.length := by have := HM.out; have := castL_le l k; omega
        by_cases h30 : x.kind = 30
        · have HM2 : Aside (m + 1 = (castL (l.take (k + 1))).length) := by show _ = _; rw [castL_take hx, if_pos h30, List.length_append, ← HM.out]; rfl
          have HN2 : Aside (crow (castL (l.take k)) ++ [.int .i64 x.n, .string x.t, .string x.u] = crow (castL (l.take (k + 1)))) := by show _ = _; rw [castL_take hx, if_pos h30, crow_app]; rfl
          obtain ⟨W, hW⟩ : ∃ W, W = (wr.alloc (.cells #[.int .i8 x.kind, .int .i64 x.kids, .int .i64 x.n, .string x.s, .string x.t, .string x.u, .int .i64 x.ln, .int .i64 x.co] 44)).alloc (.cells #[.int .i64 x.n, .string x.t, .string x.u] 36) := ⟨_, rfl⟩
          have hownW : W.ownsRow w.heap.size 36 3 (.slice sa m sc) m (crow (castL (l.take k))) := by rw [hW]; exact (hown.alloc _).alloc _
          have hBW : Below w.heap.size w W := by rw [hW]; exact balloc (balloc hB _) _
          have hnews : ∀ j u, ([.int .i64 x.n, .string x.t, .string x.u] : List Value)[j]? = some u → W.cell? ((⟨wr.heap.size + 1, 0, none⟩ : Addr).add j) = some u := fun j u hu => by
            have := cells_list_new (wr.alloc (.cells #[.int .i8 x.kind, .int .i64 x.kids, .int .i64 x.n, .string x.s, .string x.t, .string x.u, .int .i64 x.ln, .int .i64 x.co] 44)) [.int .i64 x.n, .string x.t, .string x.u] 36 j u hu
            rw [hW]; simpa using this
          have hzW : W.heap.size = wr.heap.size + 2 := by rw [hW]; simp
          have HZ : Aside _ := hzW
          have h30' : (x.kind == 30) = true := by simp [h30]
          clear HM hx hcx hzW h30 hown
          generalize crow (castL (l.take k)) = cur at *
          go_upto_region 9 with fail
          go_wp2_with (rw [← hW]; at_builtin; go_must (refine wpList_append_own W rfl _ _ 30 rfl w.heap.size 36 i0 _ 3 40 tyLaids hi hz0 hz1 hz2 rfl (by decide) (.slice sa m sc) _ _ rfl hownW ⟨wr.heap.size + 1, 0, none⟩ 1 1 [.int .i64 x.n, .string x.t, .string x.u] rfl rfl hnews (by intro u hu; simp at hu; rcases hu with rfl | rfl | rfl <;> rfl) (by unfold maxLen; omega) (by omega) (by have := HZ.out; omega) ?_); intro v3 w3 hown3 hg3 _)
          have hB3 : Below w.heap.size w w3 := hBW.grown hg3 (by have := HZ.out; omega) (fun q e => by
            obtain ⟨_, ⟨h, _⟩ | ⟨g, cap, cu, h, hge, _⟩⟩ := hownW
            · rw [h] at e; cases e
            · rw [h] at e; cases e; exact hge)
          rw [HN2.out] at hown3
          go_roundg (gk - 1)
          case measure => omega
          case rel => exact ⟨k + 1, m + 1, by omega, by go_num, HM2, hown3, hB3⟩
        · have HM2 : Aside (m = (castL (l.take (k + 1))).length) := by show _ = _; rw [castL_take hx, if_neg h30, List.append_nil, ← HM.out]
          have hown2 : ∀ o, (wr.alloc o).ownsRow w.heap.size 36 3 (.slice sa m sc) m (crow (castL (l.take (k + 1)))) := fun o => by rw [castL_take hx, if_neg h30, List.append_nil]; exact hown.alloc _
          have HO : Aside _ := hown2
          have hB2 : ∀ o, Below w.heap.size w (wr.alloc o) := fun o => balloc hB _
          have h30' : (x.kind == 30) = false := by simp [h30]
          clear HM hx hcx h30 hown hown2
          go_wp2_with fail
          go_roundg (gk - 1)
          case measure => omega
          case rel => exact ⟨k + 1, m, by omega, by go_num, HM2, HO.out _, hB2 _⟩
      · have hk' : ¬ (k : Int) < (l.length : Int) := by omega
        have hfin : CaEnd w l (.returned (.tuple #[.slice sa m sc, .int .i64 0])) wr := by
          have hm := HM.out
          rw [List.take_of_length_le (by omega)] at hown hm
          rw [hm] at hown ⊢
          exact HF.out wr _ hB hown
        clear HM HV HF hown
        go_wp2_with fail
        go_ret2
        exact hfin
end Go.Proofs.Ytnhihajhhlilfaa
