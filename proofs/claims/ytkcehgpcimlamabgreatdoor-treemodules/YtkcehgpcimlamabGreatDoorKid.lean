/- What the program's Kids and Deep answer. -/
import Derived.Test.YtkcehgpcimlamabGreatDoorChk2
namespace Go.Proofs.YtkcehgpcimlamabGreatDoor
open Go.RowKit
set_option maxRecDepth 100000
set_option linter.unusedSimpArgs false

theorem own_below {w w' : World} {base e size n : Nat} {v : Value} {xs : List Value} (h : w.ownsRow base e size v n xs) (hB : Below w.heap.size w w') : w'.ownsRow base e size v n xs :=
  h.kept (row := none) (grown_of_below (grownBy_refl _ _) hB) (by by_cases h : v.ownBlock = none; · exact .inl h
                                                                  exact .inr h)
/-- Where the kids of a node begin. -/
def kidsN (l : List Tr.Nd) (at0 : Int) : List Nat := if bhI l at0 = 0 then [] else (List.range ((l[at0.toNat]?.map Tr.Nd.kids).getD 0).toNat).map (Tr.kidAt l at0.toNat)
def icells (ks : List Nat) : List Value := ks.map fun (k : Nat) => Value.int .i64 (k : Int)
theorem icells_append (a b : List Nat) : icells (a ++ b) = icells a ++ icells b := by simp [icells]

/-- Of a part that is there: the node, how many kids, where they begin and where it ends. -/
theorem part_facts {l : List Tr.Nd} {p : Nat} (h : bhI l p ≠ 0) : ∃ (x : Tr.Nd) (n : Nat), l[p]? = some x ∧ x.kids = n ∧ kidsN l p = (List.range n).map (Tr.kidAt l p) ∧ Tr.kidAt l p n = bhI l p ∧ bhI l p ≤ l.length ∧ Tr.kidAt l p 0 = p + 1 ∧
    (∀ k, k < n → Tr.kidAt l p k < Tr.kidAt l p (k + 1) ∧ Tr.kidAt l p (k + 1) ≤ bhI l p ∧ Tr.kidAt l p (k + 1) = bhI l (Tr.kidAt l p k)) := by
  have hb : bhI l p = Tr.bh l p := by unfold bhI; rw [if_neg (by omega), Int.toNat_natCast]
  rw [hb] at h ⊢
  obtain ⟨t, rest, hw, hd⟩ := Tr.bh_some h
  obtain ⟨x, ks⟩ := t
  have hbt := Tr.bh_tree hd hw
  have hw' := hw
  rw [Tr.wf] at hw'
  have hx : l[p]? = some x := by have := Tr.at_drop (q := 0) hd; simpa [Tr.flat] using this
  have hk := fun k hk => Tr.kidAt_tree hw'.2 hd k hk
  have hfl : (Tr.flat (.nd x ks)).length = 1 + (Tr.flats ks).length := by simp [Tr.flat]; omega
  refine ⟨x, ks.length, hx, hw'.1, ?_, ?_, ?_, rfl, ?_⟩
  · unfold kidsN
    rw [hb, if_neg h, Int.toNat_natCast, hx]
    simp [hw'.1]
  · rw [hk _ (Nat.le_refl _), List.take_length, hbt, hfl]; omega
  · rw [hbt]
    have := congrArg List.length hd
    have := Tr.flat_pos (.nd x ks)
    simp at *
    omega
  · intro k hkl
    have e1 := hk k (by omega)
    have e2 := hk (k + 1) (by omega)
    have e3 : (Tr.flats (ks.take (k + 1))).length = (Tr.flats (ks.take k)).length + (Tr.flat ks[k]).length := by
      rw [List.take_add_one, List.getElem?_eq_getElem hkl, Tr.flats_append]; simp [Tr.flats]
    have e4 := Tr.flat_pos ks[k]
    have e5 : (Tr.flats (ks.take (k + 1))).length ≤ (Tr.flats ks).length := by
      have : Tr.flats ks = Tr.flats (ks.take (k + 1)) ++ Tr.flats (ks.drop (k + 1)) := by rw [← Tr.flats_append, List.take_append_drop]
      rw [this]; simp
    refine ⟨by omega, by rw [hbt, hfl]; omega, ?_⟩
    rw [Tr.kidAt]
    unfold bhI
    rw [if_neg (by omega), Int.toNat_natCast]

set_option maxHeartbeats 2000000 in
theorem kids_any (l : List Tr.Nd) (hf : Fits l) (v : Value) (at0 : Int) (w : World) (hl : IsNodes w v l) :
    Calls Tryz.prog 13 #[v, .int .i64 at0] w fun e w' => ∃ r, e = .returned r ∧ w'.ownsRow w.heap.size 3 1 r (kidsN l at0).length (icells (kidsN l at0)) ∧ Below w.heap.size w w' := by
  obtain ⟨a, c, rfl⟩ := hl.form
  obtain ⟨i0, hi, hz0, hz1, hz2⟩ := info_parts info3
  have hlen := hf.len
  by_cases h0 : bhI l at0 = 0
  · have HN : Aside (kidsN l at0 = []) := by show _ = _; unfold kidsN; rw [if_pos h0]
    go_enter Tryz.func13, Tryz.ntmps13
    go_wp2_with (go_at_call 15; refine (behind_any l hf.len hf.kids _ _ _ hl).mono ?_; rintro e w1 ⟨rfl, hB1⟩)
    go_ret
    refine ⟨_, rfl, ?_, hB1⟩
    rw [HN.out]
    exact own_nil _ _ _ _
  · obtain ⟨p, rfl⟩ : ∃ p : Nat, at0 = p := ⟨at0.toNat, by
      by_cases hn : at0 < 0
      · exact absurd (bhI_neg (.inl hn)) h0
      · omega⟩
    obtain ⟨x, n, hx, hxn, hkN, hkn, hend, hk0, hks⟩ := part_facts h0
    have hpl : p < l.length := (List.getElem?_eq_some_iff.1 hx).1
    have h0' : ((bhI l p : Int) == 0) = false := by simp; omega
    have HK : Aside (kidsN l p = (List.range n).map (Tr.kidAt l p)) := hkN
    have hnb : n ≤ bhI l p := by
      have : ∀ k, k ≤ n → k ≤ Tr.kidAt l p k := by
        intro k
        induction k with
        | zero => intro _; omega
        | succ k ih => intro hk; have := hks k (by omega); have := ih (by omega); omega
      rw [← hkn]; exact this n (Nat.le_refl _)
    have HE : Aside (Tr.kidAt l p n = bhI l p) := hkn
    have H0 : Aside (Tr.kidAt l p 0 = p + 1) := hk0
    clear hkN h0 hx hxn hkn hk0
    generalize hb : bhI l p = E at *
    have HB : Aside (bhI l p = E) := hb
    clear hb
    have hbe := behind_any l hf.len hf.kids (.slice a l.length c)
    have hbp := hbe p w hl
    rw [HB.out] at hbp
    go_enter Tryz.func13, Tryz.ntmps13
    go_wp2_with (go_at_call 15; refine hbp.mono ?_; rintro e w1 ⟨rfl, hB1⟩)
    go_loopg [6, 7] n (fun g vk t wr => ∃ k : Nat, k + g = n ∧ t = .int .i64 (Tr.kidAt l p k : Int) ∧ wr.ownsRow w.heap.size 3 1 vk k (icells ((List.range k).map (Tr.kidAt l p))) ∧ Below w.heap.size w wr)
    case atStart => exact ⟨0, by omega, by rw [H0.out]; go_num, own_nil _ _ _ _, hB1⟩
    case round =>
      obtain ⟨k, hkg, rfl, hown, hB⟩ := hrel
      obtain ⟨va, vc, rfl⟩ := own_len hown
      have hBs := hB.size
      by_cases hk : k < n
      · obtain ⟨e1, e2, e3⟩ := hks k hk
        have hlt : (Tr.kidAt l p k : Int) < (E : Int) := by omega
        have hbk := behind_any l hf.len hf.kids (.slice a l.length c) (Tr.kidAt l p k)
        have hlr := hl.below hB
        rw [← e3] at hbk
        have HR : Aside ((List.range (k + 1)).map (Tr.kidAt l p) = (List.range k).map (Tr.kidAt l p) ++ [Tr.kidAt l p k]) := by show _ = _; rw [List.range_succ]; simp
        clear e3
        generalize Tr.kidAt l p k = q at *
        generalize hq' : Tr.kidAt l p (k + 1) = q' at *
        have HQ : Aside (Tr.kidAt l p (k + 1) = q') := hq'
        clear hq'
        go_wp2_with (first | (at_builtin; go_must (refine wpList_append_own _ rfl _ _ 40 rfl w.heap.size 3 i0 (.int .i64 0) 1 8 tyInts hi hz0 hz1 hz2 rfl (by decide) (.slice va k vc) _ _ rfl (hown.alloc _) ⟨wr.heap.size, 0, none⟩ 1 1 [.int .i64 (q : Int)] rfl rfl (cells_list_new _ [.int .i64 (q : Int)] 3) (fun u hu => by simp at hu; subst hu; rfl) (by unfold maxLen; omega) (by omega) (by simp; omega) ?_); intro v3 w3 hown3 hg3 _; have hB3 := hB.grown (grownBy_alloc_pre hg3) hBs (fun x e => (hown.lt x e).1); have hl3 := hl.below hB3) | (go_at_call 15; refine (hbk _ hl3).mono ?_; rintro e w4 ⟨rfl, hB4⟩))
        go_roundg (gk - 1)
        case measure => omega
        case rel =>
          refine ⟨k + 1, by omega, by rw [HQ.out], ?_, hB3.trans (hB4.mono hB3.size)⟩
          rw [HR.out, icells_append]
          exact own_below hown3 hB4
      · have hkn : k = n := by omega
        rw [show Tr.kidAt l p k = E by rw [hkn]; exact HE.out]
        have HKN : Aside (k = n) := hkn
        clear hkn hkg hk
        go_wp2_with fail
        go_ret
        refine ⟨_, rfl, ?_, hB⟩
        rw [HK.out, ← HKN.out]
        simpa using hown
end Go.Proofs.YtkcehgpcimlamabGreatDoor
