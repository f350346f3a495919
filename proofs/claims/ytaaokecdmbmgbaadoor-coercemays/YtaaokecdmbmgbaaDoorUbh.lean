/- The document's High and Id. -/
import Derived.Test.YtaaokecdmbmgbaaDoorUbg
import Derived.Test.YtaaokecdmbmgbaaDoorUav
namespace Go.Proofs.YtaaokecdmbmgbaaDoor
open Go.RowKit Cc
set_option maxRecDepth 100000
set_option linter.unusedSimpArgs false
set_option linter.unusedVariables false
namespace Cc
def mxs : List C → Nat → Nat
  | _, 0 => 0
  | cs, k + 1 => max (mxs cs k) (match cs[k]? with | some c => high c | none => 0)
theorem high_mxs (c : C) : high c = mxs (kidsC c) (kidsC c).length + 1 := by
  cases c <;> simp [high, kidsC, mxs]
def idN (x : N) : Bool := decide (x.proj = 0) && (!x.inj && !decide (x.op = 7))
def idB (c : C) : Bool := (flat c).all idN
def idK : C → Bool
  | .ls p j a => idB a
  | .tw k p j a b => idB a && idB b
  | _ => true
theorem idB_root (c : C) : idB c = (idN (nod c) && idK c) := by
  cases c <;> simp [idB, idK, flat, List.all_append]
theorem idK_all (c : C) : idK c = (kidsC c).all idB := by
  cases c <;> simp [idK, kidsC]
theorem all_drop {cs : List C} {k : Nat} {c : C} (h : cs[k]? = some c) : (cs.drop k).all idB = (idB c && (cs.drop (k + 1)).all idB) := by
  obtain ⟨hk, rfl⟩ := List.getElem?_eq_some_iff.1 h
  rw [List.drop_eq_getElem_cons hk, List.all_cons]
def HiC (c : C) : Prop := ∀ (v : Value) (lo hi : Nat) (w : World), DT w lo hi c v → hi ≤ w.heap.size → high c ≤ 1000 →
  Calls Tryd.prog 14 #[tree (nod c) v] w fun e w' => e = .returned (.int .i64 (high c : Int)) ∧ Below w.heap.size w w'
def IdC (c : C) : Prop := ∀ (v : Value) (lo hi : Nat) (w : World), DT w lo hi c v → hi ≤ w.heap.size →
  Calls Tryd.prog 15 #[tree (nod c) v] w fun e w' => e = .returned (.bool (idB c)) ∧ Below w.heap.size w w'
theorem mxs_le {c d : C} {k : Nat} (h : (kidsC c)[k]? = some d) : high d + 1 ≤ high c := by
  cases c with
  | ls p j a =>
    match k, h with
    | 0, h => simp [kidsC] at h; subst h; simp [high]
  | tw q p j a b =>
    match k, h with
    | 0, h => simp [kidsC] at h; subst h; simp [high]; omega
    | 1, h => simp [kidsC] at h; subst h; simp [high]; omega
  | _ => simp [kidsC] at h
theorem mxs_bound {cs : List C} {m : Nat} (h : ∀ (k : Nat) (d : C), cs[k]? = some d → high d ≤ m) : ∀ k : Nat, mxs cs k ≤ m
  | 0 => by simp [mxs]
  | k + 1 => by
    rw [mxs]
    have h1 := mxs_bound h k
    cases e : cs[k]? with
    | none => simp; exact h1
    | some d => have := h k d e; simp only; omega
end Cc
set_option maxHeartbeats 1600000 in
theorem dHigh_step (c : C) (hK : ∀ d ∈ kidsC c, HiC d) : HiC c := by
  intro v lo hi w hd hh hb
  obtain ⟨a, cap, ks, rfl, hm, hds, hrow⟩ := hd.row
  have HG : Aside (high c = mxs (ks.map Prod.fst) ks.length + 1) := by rw [Aside, hm, high_mxs c, ← hm, List.length_map]
  have HB : Aside (∀ k : Nat, mxs (ks.map Prod.fst) k ≤ 1000) := by
    refine mxs_bound fun k d e => ?_
    rw [hm] at e
    have := mxs_le e
    omega
  have HK : Aside (∀ d ∈ ks.map Prod.fst, HiC d) := by rw [Aside, hm]; exact hK
  have HH : Aside (∀ (k : Nat) (d : C), (ks.map Prod.fst)[k]? = some d → high d ≤ 1000) := by
    intro k d e
    rw [hm] at e
    have := mxs_le e
    omega
  have hn : ks.length ≤ 2 := by
    have := congrArg List.length hm
    rw [List.length_map] at this
    rw [this]; cases c <;> simp [kidsC]
  have hb2 : high c ≤ 1000 := hb
  generalize high c = R at *
  generalize nod c = x at *
  have HR : Aside (ks ≠ [] → ∃ g, a = some ⟨g, 0, none⟩ ∧ lo ≤ g ∧ g < hi ∧ Row8 w g ks) := hrow
  have HD : Aside (∀ k ∈ ks, DT w lo hi k.1 k.2) := hds
  clear hd hm hds hrow hK hb
  go_enter Tryd.func14, Tryd.ntmps14
  go_wp2
  obtain ⟨W0, hW0⟩ : ∃ W0, W0 = w.alloc (.cells #[.int .i8 x.op, .int .i64 x.proj, .bool x.inj, .int .u8 x.head, .int .i64 x.label, .int .u8 x.frm, .int .u8 x.tto, .slice a ks.length cap] 36) := ⟨_, rfl⟩
  have hB0 : Below w.heap.size w W0 := by rw [hW0]; exact (Below.refl _ _).alloc (Nat.le_refl _) _
  have hT : W0.cell? ⟨w.heap.size, 7, none⟩ = some (.slice a ks.length cap) ∧ w.heap.size < W0.heap.size := by rw [hW0]; simp
  rw [← hW0]
  clear hW0
  go_loopg [3, 4] ks.length (fun gq v3 v4 wr => ∃ k M : Nat, k + gq = ks.length ∧ v3 = .int .i64 (M : Int) ∧ v4 = .int .i64 (k : Int) ∧ Aside (M = mxs (ks.map Prod.fst) k) ∧ Below W0.heap.size W0 wr)
  case atStart => exact ⟨0, 0, by omega, rfl, rfl, rfl, Below.refl _ _⟩
  case round =>
    obtain ⟨k, M, hkg, rfl, rfl, HM, hB⟩ := hrel
    obtain ⟨t7, t8⟩ := hT
    have c7 := (hB.cell (p := ⟨w.heap.size, 7, none⟩) t8).trans t7
    have hM9 : M ≤ 1000 := by rw [HM.out]; exact HB.out k
    have hM8 : (M : Int) ≤ 1000 := by omega
    have hM7 : (0 : Int) ≤ (M : Int) := by omega
    have hk9 : (k : Int) ≤ 2 := by omega
    have hk8 : (0 : Int) ≤ (k : Int) := by omega
    by_cases hk : k < ks.length
    · have hk' : (k : Int) < (ks.length : Int) := by omega
      obtain ⟨⟨d, dv⟩, hx⟩ : ∃ y, ks[k]? = some y := ⟨_, List.getElem?_eq_getElem hk⟩
      obtain ⟨g, rfl, hg1, hg2, hR8⟩ := HR.out (by rintro rfl; simp at hk)
      have hBw : Below w.heap.size w wr := hB0.trans (hB.mono hB0.size)
      have hA8 := (hR8.keep (hBw.block g (by omega))).at hx
      obtain ⟨a0, a1, a2, a3, a4, a5, a6, a7⟩ := hA8
      have hdt : DT wr lo hi d dv := ((HD.out _ (List.mem_of_getElem? hx)).below hh hBw)
      have hmx : (ks.map Prod.fst)[k]? = some d := by simp [hx]
      have hcall := HK.out d (List.mem_of_getElem? hmx) dv lo hi wr hdt (Nat.le_trans hh hBw.size) (HH.out k d hmx)
      obtain ⟨da, dn, dc, rfl⟩ : ∃ da dn dc, dv = .slice da dn dc := by
        obtain ⟨da, dc, ks', e, -⟩ := hdt.row
        exact ⟨da, _, dc, e⟩
      have HS : Aside (mxs (ks.map Prod.fst) (k + 1) = max M (high d)) := by rw [Aside, mxs, hmx, HM.out]
      have hH : high d ≤ 1000 := HH.out k d hmx
      clear hx hR8 t7 hdt hmx
      generalize nod d = y at *
      generalize high d = H at *
      have hH1 : (0 : Int) ≤ (H : Int) := by omega
      have hH2 : (H : Int) ≤ 1000 := by omega
      by_cases hlt : M < H
      all_goals
        go_wp2_with (go_at_call 14; refine hcall.mono ?_; rintro e w3 ⟨rfl, hB3⟩)
        go_roundg (ks.length - (k + 1))
        case measure => omega
        case rel => exact ⟨k + 1, max M H, by omega, by simp <;> omega, by go_num, HS.out.symm, hB.trans (hB3.mono hB.size)⟩
    · have hk' : ¬ (k : Int) < (ks.length : Int) := by omega
      obtain rfl : k = ks.length := by omega
      go_wp2
      go_ret
      refine ⟨ret_i64 ?_, hB0.trans (hB.mono hB0.size)⟩
      have := HG.out
      have := HM.out
      omega
set_option maxHeartbeats 1600000 in
theorem dId_step (c : C) (hK : ∀ d ∈ kidsC c, IdC d) : IdC c := by
  intro v lo hi w hd hh
  obtain ⟨a, cap, ks, rfl, hm, hds, hrow⟩ := hd.row
  have HG : Aside (idB c = (idN (nod c) && (ks.map Prod.fst).all idB)) := by rw [Aside, hm, ← idK_all]; exact idB_root c
  have HK : Aside (∀ d ∈ ks.map Prod.fst, IdC d) := by rw [Aside, hm]; exact hK
  have hn : ks.length ≤ 2 := by
    have := congrArg List.length hm
    rw [List.length_map] at this
    rw [this]; cases c <;> simp [kidsC]
  generalize idB c = R at *
  generalize nod c = x at *
  have HR : Aside (ks ≠ [] → ∃ g, a = some ⟨g, 0, none⟩ ∧ lo ≤ g ∧ g < hi ∧ Row8 w g ks) := hrow
  have HD : Aside (∀ k ∈ ks, DT w lo hi k.1 k.2) := hds
  clear hd hm hds hrow hK
  have hA : ∀ o, Below w.heap.size w (w.alloc o) := fun o => (Below.refl _ _).alloc (Nat.le_refl _) _
  by_cases hid : x.proj = 0 ∧ x.inj = false ∧ x.op ≠ 7
  · obtain ⟨h1, h2, h3⟩ := hid
    have HG2 : Aside (R = (ks.map Prod.fst).all idB) := by rw [Aside, HG.out, idN, h1, h2]; simp [h3]
    clear HG
    go_enter Tryd.func15, Tryd.ntmps15
    go_wp2
    obtain ⟨W0, hW0⟩ : ∃ W0, W0 = w.alloc (.cells #[.int .i8 x.op, .int .i64 x.proj, .bool x.inj, .int .u8 x.head, .int .i64 x.label, .int .u8 x.frm, .int .u8 x.tto, .slice a ks.length cap] 36) := ⟨_, rfl⟩
    rw [h1, h2] at hW0
    have hB0 : Below w.heap.size w W0 := by rw [hW0]; exact (Below.refl _ _).alloc (Nat.le_refl _) _
    have hT : W0.cell? ⟨w.heap.size, 7, none⟩ = some (.slice a ks.length cap) ∧ w.heap.size < W0.heap.size := by rw [hW0]; simp
    rw [← hW0]
    have e7 : (x.op == 7) = false := by simpa using h3
    simp only [e7]
    clear hW0 e7
    go_loopg [3] ks.length (fun gq v3 wr => ∃ k : Nat, k + gq = ks.length ∧ v3 = .int .i64 (k : Int) ∧ Aside (R = ((ks.map Prod.fst).drop k).all idB) ∧ Below W0.heap.size W0 wr)
    case atStart => exact ⟨0, by omega, rfl, by rw [Aside, HG2.out]; simp, Below.refl _ _⟩
    case round =>
      obtain ⟨k, hkg, rfl, HM, hB⟩ := hrel
      obtain ⟨t7, t8⟩ := hT
      have c7 := (hB.cell (p := ⟨w.heap.size, 7, none⟩) t8).trans t7
      have hk9 : (k : Int) ≤ 2 := by omega
      have hk8 : (0 : Int) ≤ (k : Int) := by omega
      by_cases hk : k < ks.length
      · have hk' : (k : Int) < (ks.length : Int) := by omega
        obtain ⟨⟨d, dv⟩, hx⟩ : ∃ y, ks[k]? = some y := ⟨_, List.getElem?_eq_getElem hk⟩
        obtain ⟨g, rfl, hg1, hg2, hR8⟩ := HR.out (by rintro rfl; simp at hk)
        have hBw : Below w.heap.size w wr := hB0.trans (hB.mono hB0.size)
        have hA8 := (hR8.keep (hBw.block g (by omega))).at hx
        obtain ⟨a0, a1, a2, a3, a4, a5, a6, a7⟩ := hA8
        have hdt : DT wr lo hi d dv := ((HD.out _ (List.mem_of_getElem? hx)).below hh hBw)
        have hmx : (ks.map Prod.fst)[k]? = some d := by simp [hx]
        have hcall := HK.out d (List.mem_of_getElem? hmx) dv lo hi wr hdt (Nat.le_trans hh hBw.size)
        obtain ⟨da, dn, dc, rfl⟩ : ∃ da dn dc, dv = .slice da dn dc := by
          obtain ⟨da, dc, ks', e, -⟩ := hdt.row
          exact ⟨da, _, dc, e⟩
        have HS : Aside (R = (idB d && ((ks.map Prod.fst).drop (k + 1)).all idB)) := by rw [Aside, HM.out, all_drop hmx]
        clear hx hR8 t7 hdt hmx
        generalize nod d = y at *
        generalize idB d = I at *
        cases I
        · go_wp2_with (go_at_call 15; refine hcall.mono ?_; rintro e w3 ⟨rfl, hB3⟩)
          go_ret
          exact ⟨ret_b (by rw [HS.out]; simp), hBw.trans (hB3.mono hBw.size)⟩
        · go_wp2_with (go_at_call 15; refine hcall.mono ?_; rintro e w3 ⟨rfl, hB3⟩)
          go_roundg (ks.length - (k + 1))
          case measure => omega
          case rel => exact ⟨k + 1, by omega, by go_num, by rw [Aside, HS.out]; simp, hB.trans (hB3.mono hB.size)⟩
      · have hk' : ¬ (k : Int) < (ks.length : Int) := by omega
        obtain rfl : k = ks.length := by omega
        go_wp2
        go_ret
        refine ⟨ret_b ?_, hB0.trans (hB.mono hB0.size)⟩
        rw [HM.out, List.drop_of_length_le (by simp)]
        rfl
  · have HG2 : Aside (R = false) := by
      rw [Aside, HG.out, idN]
      by_cases h1 : x.proj = 0
      · by_cases h3 : x.op = 7
        · simp [h3]
        · cases h2 : x.inj
          · exact absurd ⟨h1, h2, h3⟩ hid
          · simp
      · simp [h1]
    clear HG
    by_cases h1 : x.proj = 0
    · cases h2 : x.inj
      · have h3 : x.op = 7 := by
          by_cases h3 : x.op = 7
          · exact h3
          · exact absurd ⟨h1, h2, h3⟩ hid
        go_enter Tryd.func15, Tryd.ntmps15
        go_wp2
        go_ret
        exact ⟨ret_b HG2.out.symm, hA _⟩
      · go_enter Tryd.func15, Tryd.ntmps15
        go_wp2
        go_ret
        exact ⟨ret_b HG2.out.symm, hA _⟩
    · go_enter Tryd.func15, Tryd.ntmps15
      go_wp2
      go_ret
      exact ⟨ret_b HG2.out.symm, hA _⟩
theorem kid_ind {p : C → Prop} (h : ∀ c, (∀ d ∈ kidsC c, p d) → p c) : ∀ c, p c
  | .any => h _ (by simp [kidsC])
  | .bs .. => h _ (by simp [kidsC])
  | .fl .. => h _ (by simp [kidsC])
  | .ls _ _ a => h _ (by simp only [kidsC, List.mem_singleton]; rintro d rfl; exact kid_ind h _)
  | .tw _ _ _ a b => h _ (by
      simp only [kidsC, List.mem_cons, List.mem_nil_iff, or_false]
      rintro d (rfl | rfl)
      · exact kid_ind h _
      · exact kid_ind h _)
theorem dHigh_any (c : C) : HiC c := kid_ind dHigh_step c
theorem dId_any (c : C) : IdC c := kid_ind dId_step c
end Go.Proofs.YtaaokecdmbmgbaaDoor
