/- The statements' node: a node over kids. -/
import Derived.Test.YtnhihajhhlilfaaMgbc
import Derived.Maps.AppendAt
namespace Go.Proofs.Ytnhihajhhlilfaa
open Go.RowKit Co
open T3.Tp (Ty enc cns)
open Tr (T flat flats)
set_option maxRecDepth 100000
set_option linter.unusedSimpArgs false
set_option linter.unusedVariables false

theorem nrow_get : ∀ (l : List Tr.Nd) (j : Nat) (u : Value), (nrow l)[j]? = some u → ∃ x, l[j / 8]? = some x ∧ (Tr.ncells x)[j % 8]? = some u
  | [], j, u, h => by simp [nrow] at h
  | x :: l, j, u, h => by
    rw [nrow_cons] at h
    by_cases hj : j < 8
    · rw [List.getElem?_append_left (by simp [Tr.ncells]; omega)] at h
      exact ⟨x, by rw [show j / 8 = 0 by omega]; rfl, by rw [show j % 8 = j by omega]; exact h⟩
    · rw [List.getElem?_append_right (by simp [Tr.ncells]; omega)] at h
      obtain ⟨y, h1, h2⟩ := nrow_get l _ u h
      have e : (Tr.ncells x).length = 8 := rfl
      rw [e] at h1 h2
      refine ⟨y, ?_, by rw [show j % 8 = (j - 8) % 8 by omega]; exact h2⟩
      rw [show j / 8 = (j - 8) / 8 + 1 by omega, List.getElem?_cons_succ]; exact h1
theorem nodes_news {w : World} {b o c : Nat} {l : List Tr.Nd} (h : IsNodes w (.slice (some ⟨b, o, none⟩) l.length c) l) : ∀ j u, (nrow l)[j]? = some u → w.cell? ((⟨b, o, none⟩ : Addr).add j) = some u := by
  intro j u hj
  obtain ⟨x, h1, h2⟩ := nrow_get l j u hj
  obtain ⟨b', o', e, _, _, hcell⟩ := h.at h1
  cases e
  have h3 := hcell _ u h2
  rw [show o + j / 8 * 8 + j % 8 = o + j by omega] at h3
  unfold Addr.add
  by_cases h0 : j = 0
  · subst h0; simpa using h3
  · simpa [h0] using h3
/-- Lists of nodes that are handed in, none of them empty. -/
def IsKs (w : World) (kv : Value) (Ls : List (Value × List Tr.Nd)) : Prop := ∃ kb, kv = .slice (some ⟨kb, 0, none⟩) Ls.length Ls.length ∧ kb < w.heap.size ∧ ∀ j p, Ls[j]? = some p → w.cell? ⟨kb, j, none⟩ = some p.1 ∧ IsNodes w p.1 p.2 ∧ p.2 ≠ []
def setK (x : Tr.Nd) (n : Nat) : Tr.Nd := { x with kids := (n : Int) }
def kall (x : Tr.Nd) (n : Nat) (Ls : List (Value × List Tr.Nd)) : List Tr.Nd := setK x n :: Ls.flatMap (·.2)
theorem kall_take {x : Tr.Nd} {n k : Nat} {Ls : List (Value × List Tr.Nd)} {p : Value × List Tr.Nd} (h : Ls[k]? = some p) : kall x n (Ls.take (k + 1)) = kall x n (Ls.take k) ++ p.2 := by
  unfold kall
  rw [List.take_add_one, h]
  simp

set_option maxHeartbeats 4000000 in
theorem node_any (x : Tr.Nd) (kv : Value) (Ls : List (Value × List Tr.Nd)) (hl3 : Ls.length ≤ 3) (hsm : (Ls.flatMap (·.2)).length ≤ 5000) (w : World) (hk : IsKs w kv Ls) :
    Calls Try.prog 17 #[ndV x, kv] w fun e w' => ∃ v, e = .returned v ∧ IsNodes w' v (kall x Ls.length Ls) ∧ Below w.heap.size w w' := by
  obtain ⟨i0, hi, hz0, hz1, hz2⟩ := info_parts infoN
  obtain ⟨kb, rfl, hkb, hkc⟩ := hk
  obtain ⟨W, hW⟩ : ∃ W, W = ((w.alloc (.cells #[.int .i8 x.kind, .int .i64 (Ls.length : Int), .int .i64 x.n, .string x.s, .string x.t, .string x.u, .int .i64 x.ln, .int .i64 x.co] 44)).alloc (.cells #[.int .i8 x.kind, .int .i64 (Ls.length : Int), .int .i64 x.n, .string x.s, .string x.t, .string x.u, .int .i64 x.ln, .int .i64 x.co] 44)) := ⟨_, rfl⟩
  have hBW : Below w.heap.size w W := by rw [hW]; exact balloc (balloc (Below.refl _ _) _) _
  have hown0 : W.ownsRow w.heap.size 44 8 (.slice (some ⟨w.heap.size + 1, 0, none⟩) 1 1) 1 (nrow (kall x Ls.length [])) := by
    refine ⟨rfl, .inr ⟨w.heap.size + 1, 1, _, rfl, by omega, by rw [hW]; exact heap_newC (by simp), Nat.le_refl _, by unfold maxLen; omega, rfl, rfl⟩⟩
  have hlim : ∀ k, (kall x Ls.length (Ls.take k)).length ≤ 5001 := fun k => by
    unfold kall
    have : ((Ls.take k).flatMap (·.2)).length ≤ (Ls.flatMap (·.2)).length := by
      conv => rhs; rw [← List.take_append_drop k Ls, List.flatMap_append, List.length_append]
      omega
    simp only [List.length_cons]; omega
  have HKC : Aside (∀ w', Below w.heap.size w w' → ∀ j p, Ls[j]? = some p → w'.cell? ⟨kb, j, none⟩ = some p.1 ∧ IsNodes w' p.1 p.2 ∧ p.2 ≠ []) := fun w' hB j p hp => by
    obtain ⟨h1, h2, h3⟩ := hkc j p hp
    exact ⟨(hB.cell (p := ⟨kb, j, none⟩) hkb).trans h1, h2.below hB, h3⟩
  have HL : Aside (∀ k, (kall x Ls.length (Ls.take k)).length ≤ 5001) := hlim
  clear hkc hlim
  go_enter Try.func17, Try.ntmps17
  go_wp2_with fail
  rw [← hW]
  clear hW
  go_loopg [5, 6] Ls.length (fun g s t wr => ∃ (k m : Nat), k + g = Ls.length ∧ t = .int .i64 (k : Int) ∧ Aside (m = (kall x Ls.length (Ls.take k)).length) ∧ wr.ownsRow w.heap.size 44 8 s m (nrow (kall x Ls.length (Ls.take k))) ∧ Below w.heap.size w wr)
  case atStart => exact ⟨0, 1, by omega, rfl, rfl, hown0, hBW⟩
  case round =>
    clear hown0 hBW
    obtain ⟨k, m, hkg, rfl, HM, hown, hB⟩ := hrel
    have hBz := hB.size
    have hk0 : (0 : Int) ≤ (k : Int) := by omega
    obtain ⟨sa, sc, rfl⟩ := own_len hown
    by_cases hk : k < Ls.length
    · have hk' : (k : Int) < (Ls.length : Int) := by omega
      obtain ⟨p, hp⟩ : ∃ p, Ls[k]? = some p := ⟨_, List.getElem?_eq_getElem hk⟩
      obtain ⟨h1, h2, h3⟩ := HKC.out wr hB k p hp
      obtain ⟨b, o, c, hpv, hpc, hpb, hpx⟩ : ∃ b o c, p.1 = .slice (some ⟨b, o, none⟩) p.2.length c ∧ p.2.length ≤ c ∧ b < wr.heap.size ∧ IsNodes wr (.slice (some ⟨b, o, none⟩) p.2.length c) p.2 := by
        rcases h2 with ⟨h, _⟩ | ⟨b, o, c, e1, e2, e3, e4⟩
        · exact absurd h h3
        · exact ⟨b, o, c, e1, e2, e3, .inr ⟨b, o, c, rfl, e2, e3, e4⟩⟩
      rw [hpv] at h1
      have hnews := nodes_news hpx
      have hm1 := HM.out
      have hl1 := HL.out k
      have hl2 := HL.out (k + 1)
      rw [kall_take hp, List.length_append] at hl2
      have HM2 : Aside (m + p.2.length = (kall x Ls.length (Ls.take (k + 1))).length) := by show _ = _; rw [kall_take hp, List.length_append, ← hm1]
      have HN2 : Aside (nrow (kall x Ls.length (Ls.take k)) ++ nrow p.2 = nrow (kall x Ls.length (Ls.take (k + 1)))) := by show _ = _; rw [kall_take hp, nrow_append]
      have hml : m + p.2.length ≤ 5001 := by omega
      have hnl : (nrow p.2).length = p.2.length * 8 := nrow_len _
      clear HM HL hp h2 h3 hpv hpx hm1 hl1 hl2
      generalize p.2 = pl at *
      generalize nrow (kall x Ls.length (Ls.take k)) = cur at *
      go_wp2_with (at_builtin; go_must (refine wpList_append_own _ rfl _ _ 22 rfl w.heap.size 44 i0 _ 8 88 tyNodes hi hz0 hz1 hz2 rfl (by decide) (.slice sa m sc) _ _ rfl hown ⟨b, o, none⟩ pl.length c (nrow pl) rfl hnl hnews (nrow_one _) (by unfold maxLen; omega) (by omega) (by omega) ?_); intro v3 w3 hown3 hg3 _)
      have hB3 : Below w.heap.size w w3 := hB.grown hg3 (by omega) (fun q e => by
        obtain ⟨_, ⟨h, _⟩ | ⟨g, cap, cu, h, hge, _⟩⟩ := hown
        · rw [h] at e; cases e
        · rw [h] at e; cases e; exact hge)
      rw [HN2.out] at hown3
      go_roundg (gk - 1)
      case measure => omega
      case rel => exact ⟨k + 1, m + pl.length, by omega, by go_num, HM2, hown3, hB3⟩
    · have hk' : ¬ (k : Int) < (Ls.length : Int) := by omega
      have hfin : IsNodes wr (.slice sa m sc) (kall x Ls.length Ls) := by
        rw [List.take_of_length_le (by omega)] at hown
        have hm := HM.out
        rw [List.take_of_length_le (by omega)] at hm
        rw [hm] at hown ⊢
        exact IsNodes.own hown
      clear HM HL HKC hown
      go_wp2_with fail
      go_ret
      exact ⟨_, rfl, hfin, hB⟩
end Go.Proofs.Ytnhihajhhlilfaa
