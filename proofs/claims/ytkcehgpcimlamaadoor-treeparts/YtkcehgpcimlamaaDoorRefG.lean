/- What the document's Kids, Deep and Equal answer; likeness of rows of ints. -/
import Derived.Test.YtkcehgpcimlamaaDoorRefD
import Derived.Test.YtkcehgpcimlamaaDoorRefF
namespace Go.Proofs.YtkcehgpcimlamaaDoor
open Go.RowKit
set_option maxRecDepth 100000
set_option linter.unusedSimpArgs false

set_option maxHeartbeats 4000000 in
theorem refKids_any (l : List Tr.Nd) (hlen : l.length ≤ 5000) (v : Value) (at0 : Int) (w : World) (hl : IsNodes w v l) :
    Calls Tryd.prog 22 #[v, .int .i64 at0] w fun e w' => ∃ r, e = .returned r ∧ w'.ownsRow w.heap.size 3 1 r (kidsN l at0).length (icells (kidsN l at0)) ∧ Below w.heap.size w w' := by
  obtain ⟨a, c, rfl⟩ := hl.form
  obtain ⟨i0, hi, hz0, hz1, hz2⟩ := info_parts info3
  have hb1 := refBehind_any l hlen _ at0 w hl
  by_cases h0 : bhI l at0 = 0
  · have HN : Aside (kidsN l at0 = []) := by show _ = _; unfold kidsN; rw [if_pos h0]
    rw [h0] at hb1
    clear h0
    go_enter Tryd.func22, Tryd.ntmps22
    go_wp2_with (go_at_call 20; refine hb1.mono ?_; rintro e w1 ⟨rfl, hw1⟩; replace hw1 := hw1.symm; subst hw1)
    go_ret
    rw [HN.out]
    exact ⟨_, rfl, own_nil _ _ _ _, Below.refl _ _⟩
  · have hat : 0 ≤ at0 := by
      apply Int.not_lt.1
      intro h
      exact h0 (bhI_neg (.inl h))
    obtain ⟨p, rfl⟩ : ∃ p : Nat, at0 = p := ⟨at0.toNat, by omega⟩
    obtain ⟨x, n, f1, f2, f3, f4, f5, f6, f7⟩ := part_facts (l := l) (p := p) h0
    have hpl : p < l.length := (List.getElem?_eq_some_iff.1 f1).1
    obtain ⟨b1, o1, rfl, hlc, hbl, hcx⟩ := hl.at f1
    have c1 : w.cell? ⟨b1, o1 + p * 8 + 1, none⟩ = some (.int .i64 (n : Int)) := by rw [← f2]; exact hcx 1 _ rfl
    have hz : ((bhI l p : Int) == 0) = false := by simp; omega
    have hp0 : (0 : Int) ≤ (p : Int) := by omega
    have hp1 : (p : Int) < (l.length : Int) := by omega
    have HKN : Aside (kidsN l p = (List.range n).map (Tr.kidAt l p)) := f3
    have HKA : Aside (∀ k, k < n → Tr.kidAt l p k < Tr.kidAt l p (k + 1) ∧ Tr.kidAt l p (k + 1) ≤ bhI l p ∧ Tr.kidAt l p (k + 1) = bhI l (Tr.kidAt l p k)) := f7
    have HK0 : Aside (Tr.kidAt l p 0 = p + 1) := f6
    have hn5 : n ≤ 5000 := by
      have key : ∀ k, k ≤ n → p + 1 + k ≤ Tr.kidAt l p k := by
        intro k
        induction k with
        | zero => intro _; rw [f6]; omega
        | succ k ih => intro h; have := (f7 k (by omega)).1; have := ih (by omega); omega
      have := key n (Nat.le_refl _)
      omega
    have hend : bhI l p ≤ l.length := f5
    clear h0 f1 f2 f3 f4 f5 f6 f7 hcx hat
    generalize bhI l p = e0 at *
    go_enter Tryd.func22, Tryd.ntmps22
    go_wp2_with (go_at_call 20; refine hb1.mono ?_; rintro e w1 ⟨rfl, hw1⟩; replace hw1 := hw1.symm; subst hw1)
    clear hb1 hz
    go_loopg [5, 7, 8] n (fun g v5 s7 s8 wr => ∃ k : Nat, k + g = n ∧ s7 = .int .i64 (Tr.kidAt l p k : Int) ∧ s8 = .int .i64 (k : Int) ∧ wr.ownsRow w.heap.size 3 1 v5 k (icells ((List.range k).map (Tr.kidAt l p))) ∧ Below w.heap.size w wr)
    case atStart => exact ⟨0, by omega, by rw [HK0.out]; go_num, rfl, own_nil _ _ _ _, Below.refl _ _⟩
    case round =>
      obtain ⟨k, hkg, rfl, rfl, hown, hB⟩ := hrel
      have c2 : wr.cell? ⟨b1, o1 + p * 8 + 1, none⟩ = some (.int .i64 (n : Int)) := (hB.cell (p := ⟨b1, o1 + p * 8 + 1, none⟩) hbl).trans c1
      obtain ⟨va, vc, rfl⟩ := own_len hown
      have hws := hB.size
      by_cases hk : k < n
      · have hk' : (k : Int) < (n : Int) := by omega
        obtain ⟨g1, g2, g3⟩ := HKA.out k hk
        have HG3 : Aside (Tr.kidAt l p (k + 1) = bhI l (Tr.kidAt l p k)) := g3
        have hb2 : ∀ w3, Below w.heap.size w w3 → Calls Tryd.prog 20 #[.slice (some ⟨b1, o1, none⟩) l.length c, .int .i64 (Tr.kidAt l p k : Int)] w3 fun e w' => e = .returned (.int .i64 (Tr.kidAt l p (k + 1) : Int)) ∧ w' = w3 := fun w3 h3 => by
          have := refBehind_any l hlen _ (Tr.kidAt l p k : Int) w3 (hl.below h3)
          rw [← g3] at this
          exact this
        have HAP : Aside (icells ((List.range (k + 1)).map (Tr.kidAt l p)) = icells ((List.range k).map (Tr.kidAt l p)) ++ [.int .i64 (Tr.kidAt l p k : Int)]) := by
          show _ = _
          rw [List.range_succ, List.map_append, icells_append]; rfl
        clear g1 g2 g3 HKA
        generalize Tr.kidAt l p k = pk at *
        generalize hpn : Tr.kidAt l p (k + 1) = pn at *
        have HPN : Aside (Tr.kidAt l p (k + 1) = pn) := hpn
        clear hpn
        go_wp2_with (first | (at_builtin; go_must (refine wpList_append_own _ rfl _ _ 56 rfl w.heap.size 3 i0 (.int .i64 0) 1 8 tyInts hi hz0 hz1 hz2 rfl (by decide) (.slice va k vc) _ _ rfl (hown.alloc _) ⟨wr.heap.size, 0, none⟩ 1 1 [.int .i64 (pk : Int)] rfl rfl (cells_list_new _ [.int .i64 (pk : Int)] 3) (fun u hu => by simp at hu; subst hu; rfl) (by unfold maxLen; omega) (by omega) (by simp; omega) ?_); intro v3 w3 hown3 hg3 _; have hB3 : Below w.heap.size w w3 := hB.grown (grownBy_alloc_pre hg3) hws (fun y e => (hown.lt y e).1)) | (go_at_call 20; refine (hb2 _ hB3).mono ?_; rintro e w4 ⟨rfl, hw4⟩; replace hw4 := hw4.symm; subst hw4))
        go_roundg (n - (k + 1))
        case measure => omega
        case rel => exact ⟨k + 1, by omega, by rw [HPN.out], by go_num, by rw [HAP.out]; exact hown3, hB3⟩
      · have hk' : ¬ (k : Int) < (n : Int) := by omega
        have HKE : Aside (k = n) := by show _ = _; omega
        go_wp2_with fail
        go_ret
        refine ⟨_, rfl, ?_, hB⟩
        rw [HKN.out, List.length_map, List.length_range, ← HKE.out]
        exact hown

theorem deepN_is {l : List Tr.Nd} (h : bhI l 0 = l.length) (hp : 0 < l.length) : deepN l = Tr.mx (Tr.dps (Tr.kd l) [1]) 0 := by
  unfold deepN
  rw [h, if_neg (by omega)]
theorem deepN_no {l : List Tr.Nd} (h : bhI l 0 ≠ l.length) (hp : 0 < l.length) : deepN l = 0 := by
  unfold deepN
  by_cases h0 : bhI l 0 = 0
  · rw [if_pos (.inl h0)]
  · obtain ⟨x, n, _, _, _, _, h5, _⟩ := part_facts (l := l) (p := 0) (by simpa using h0)
    have h5' : bhI l 0 ≤ l.length := by simpa using h5
    rw [if_pos (.inr (by omega))]
theorem dps_len : ∀ (ks : List Int) (st : List Nat) (N : Nat), st.length + ks.length ≤ N → ∀ d ∈ Tr.dps ks st, d ≤ N
  | [], st, N, _, d, hd => by simp [Tr.dps] at hd
  | k :: ks, st, N, h, d, hd => by
    have h1 := Tr.popz_len st
    rw [Tr.dps] at hd
    split at hd
    · simp at hd
    · rcases List.mem_cons.1 hd with rfl | hd
      · simp at h; omega
      · exact dps_len ks _ N (by rw [Tr.nxt, List.length_cons, Tr.dec_len]; simp at h; omega) d hd
theorem dps_small (l : List Tr.Nd) (h : l.length ≤ 5000) : ∀ d ∈ Tr.dps (Tr.kd l) [1], d ≤ 5001 := dps_len _ _ _ (by rw [Tr.kd_len]; simp; omega)
theorem mx_at {D : List Nat} {k d a : Nat} (h : D[k]? = some d) : Tr.mx (D.drop k) a = Tr.mx (D.drop (k + 1)) (max a d) := by
  obtain ⟨hk, rfl⟩ := List.getElem?_eq_some_iff.1 h
  rw [List.drop_eq_getElem_cons hk, Tr.mx]

set_option maxHeartbeats 4000000 in
theorem refDeep_any (l : List Tr.Nd) (hlen : l.length ≤ 5000) (hwf : ∀ x ∈ l, x.kids ≤ 9223372036854775807) (v : Value) (w : World) (hl : IsNodes w v l) :
    Calls Tryd.prog 25 #[v] w fun e w' => e = .returned (.int .i64 (deepN l : Int)) ∧ Below w.heap.size w w' := by
  obtain ⟨a, c, rfl⟩ := hl.form
  by_cases h0 : l.length = 0
  · have HN : Aside (deepN l = 0) := by
      show _ = _
      have hl0 : l = [] := List.length_eq_zero_iff.1 h0
      subst hl0; rfl
    have h0' : ((l.length : Int) == 0) = true := by rw [h0]; rfl
    clear hl
    go_enter Tryd.func25, Tryd.ntmps25
    go_wp2_with fail
    go_ret
    rw [HN.out]; exact ⟨rfl, Below.refl _ _⟩
  · have h0' : ((l.length : Int) == 0) = false := by simpa using h0
    have hp : 0 < l.length := by omega
    have hb := refBehind_any l hlen _ 0 w hl
    by_cases h1 : bhI l 0 = l.length
    · have HN : Aside (deepN l = Tr.mx (Tr.dps (Tr.kd l) [1]) 0) := deepN_is h1 hp
      have hd := refDepths_any l hlen hwf _ w hl
      have hDl : (Tr.dps (Tr.kd l) [1]).length ≤ l.length := by have := Tr.dps_le (Tr.kd l) [1]; rwa [Tr.kd_len] at this
      have hne : ((l.length : Int) != (l.length : Int)) = false := by simp
      rw [h1] at hb
      clear h1 h0 hl
      have HDB : Aside (∀ d ∈ Tr.dps (Tr.kd l) [1], d ≤ 5001) := dps_small l hlen
      generalize Tr.dps (Tr.kd l) [1] = D at *
      go_enter Tryd.func25, Tryd.ntmps25
      go_wp2_with (first | (go_at_call 20; refine hb.mono ?_; rintro e w1 ⟨rfl, hw1⟩; replace hw1 := hw1.symm; subst hw1) | (go_at_call 41; refine hd.mono ?_; rintro e w2 ⟨r, rfl, hown, hB⟩; obtain ⟨ra, rc, hr⟩ := own_len hown; subst hr))
      clear hb hd hne h0'
      go_loopg [5, 6] D.length (fun g s5 s6 wr => w2 = wr ∧ ∃ k m : Nat, k + g = D.length ∧ s5 = .int .i64 (m : Int) ∧ s6 = .int .i64 (k : Int) ∧ m ≤ 5001 ∧ Aside (Tr.mx D 0 = Tr.mx (D.drop k) m))
      case atStart => exact ⟨rfl, 0, 0, by omega, rfl, rfl, by omega, rfl⟩
      case round =>
        obtain ⟨rfl, k, m, hkg, rfl, rfl, hm, HK⟩ := hrel
        by_cases hk : k < D.length
        · have hk' : (k : Int) < (D.length : Int) := by omega
          have hk0 : (0 : Int) ≤ (k : Int) := by omega
          obtain ⟨d, hdk⟩ : ∃ d, D[k]? = some d := ⟨D[k], List.getElem?_eq_getElem hk⟩
          have hd5 := HDB.out d (List.mem_of_getElem? hdk)
          obtain ⟨b, cap, hv, hcap, hbg, hcell⟩ := own_cells hown (by omega)
          cases hv
          have c0 : w2.cell? ⟨b, k, none⟩ = some (.int .i64 (d : Int)) := by
            rw [hcell k (by omega)]; simp [icells, hdk]
          have HS : Aside (Tr.mx D 0 = Tr.mx (D.drop (k + 1)) (max m d)) := by show _ = _; rw [HK.out, mx_at hdk]
          clear HK hcell hdk
          go_wp2_with fail
          go_roundg (D.length - (k + 1))
          case measure => omega
          case rel => exact ⟨rfl, k + 1, max m d, by omega, congrArg (Value.int .i64) (by omega), by go_num, by omega, HS⟩
        · have hk' : ¬ (k : Int) < (D.length : Int) := by omega
          have HR : Aside (deepN l = m) := by show _ = _; rw [HN.out, HK.out, List.drop_eq_nil_of_le (by omega)]; rfl
          clear HK
          go_wp2_with fail
          go_ret
          rw [HR.out]; exact ⟨rfl, hB⟩
    · have HN : Aside (deepN l = 0) := deepN_no h1 hp
      have hne : ((bhI l 0 : Int) != (l.length : Int)) = true := by simp; omega
      clear h1 h0 hl
      generalize bhI l 0 = z at *
      go_enter Tryd.func25, Tryd.ntmps25
      go_wp2_with (first | (go_at_call 20; refine hb.mono ?_; rintro e w1 ⟨rfl, hw1⟩; replace hw1 := hw1.symm; subst hw1))
      go_ret
      rw [HN.out]; exact ⟨rfl, Below.refl _ _⟩
end Go.Proofs.YtkcehgpcimlamaaDoor
