/- What the document's Depths answers. -/
import Derived.Test.YtkcehgpcimlamabGreatDoorRefC
import Derived.Maps.AppendAt
namespace Go.Proofs.YtkcehgpcimlamabGreatDoor
open Go.RowKit
set_option maxRecDepth 100000
set_option linter.unusedSimpArgs false

/-- Two rows of the call's own lie apart. -/
def Sep (a b : Value) : Prop := a.ownBlock = none ∨ a.ownBlock ≠ b.ownBlock
theorem Sep.symm {a b : Value} (h : Sep a b) : Sep b a := by
  unfold Sep at *
  by_cases e : b.ownBlock = none
  · exact .inl e
  · rcases h with h | h
    · exact .inr (by rw [h]; exact e)
    · exact .inr (fun e => h e.symm)
theorem Sep.grow {a a' b : Value} {N : Nat} (h : Sep a b) (hb : ∀ x, b.ownBlock = some x → x < N) (ha : a'.ownBlock = a.ownBlock ∨ a'.ownBlock = some N) : Sep a' b := by
  unfold Sep at *
  rcases ha with ha | ha
  · rw [ha]; exact h
  · exact .inr (fun e => by have := hb N (by rw [← e, ha]); omega)
theorem sep_set {w : World} {base e size n : Nat} {v : Value} {xs : List Value} {b o : Nat} {u : Value} (h : w.ownsRow base e size v n xs) (hs : v.ownBlock = none ∨ v.ownBlock ≠ some b) : (w.setCell ⟨b, o, none⟩ u).ownsRow base e size v n xs :=
  h.kept (row := some b) (grownBy_set (grownBy_refl _ _) u) hs

theorem app_step {w w1 w3 : World} {o : Obj} {v1 v2 v3 : Value} {n1 n2 : Nat} {xs1 xs2 : List Value} (hB : Below w.heap.size w w1) (h1 : w1.ownsRow w.heap.size 3 1 v1 n1 xs1) (h2 : w1.ownsRow w.heap.size 3 1 v2 n2 xs2) (hs : Sep v1 v2)
    (hg : (w1.alloc o).grownBy w3 v1.ownBlock) (hloc : v3.ownBlock = v1.ownBlock ∨ v3.ownBlock = some (w1.alloc o).heap.size) : w3.ownsRow w.heap.size 3 1 v2 n2 xs2 ∧ Sep v3 v2 ∧ Below w.heap.size w w3 ∧ w1.heap.size ≤ w3.heap.size :=
  ⟨(h2.alloc o).kept hg hs.symm, hs.grow (fun x e => by have := (h2.lt x e).2; simp; omega) hloc, hB.grown (grownBy_alloc_pre hg) hB.size (fun x e => (h1.lt x e).1), (grownBy_alloc_pre hg).size⟩

set_option maxHeartbeats 8000000 in
theorem refDepths_any (l : List Tr.Nd) (hlen : l.length ≤ 5000) (hwf : ∀ x ∈ l, x.kids ≤ 9223372036854775807) (v : Value) (w : World) (hl : IsNodes w v l) :
    Calls Tryz.prog 47 #[v] w fun e w' => ∃ r, e = .returned (.tuple #[r, .int .i64 ((Tr.dps (Tr.kd l) [1]).length : Int)]) ∧ w'.ownsRow w.heap.size 3 1 r (Tr.dps (Tr.kd l) [1]).length (icells (Tr.dps (Tr.kd l) [1])) ∧ Below w.heap.size w w' := by
  obtain ⟨a, c, rfl⟩ := hl.form
  obtain ⟨i0, hi, hz0, hz1, hz2⟩ := info_parts info3
  go_enter Tryz.func47, Tryz.ntmps47
  go_wp2_with fail
  go_loopg [4, 5, 6] l.length (fun g v1 v2 t wr => ∃ (k : Nat) (ds st : List Nat), k + g = l.length ∧ t = .int .i64 (k : Int) ∧ ds.length = k ∧ st.length ≤ k + 1 ∧ wr.ownsRow w.heap.size 3 1 v1 ds.length (icells ds) ∧ wr.ownsRow w.heap.size 3 1 v2 st.length (Tr.row st) ∧ Sep v1 v2 ∧ Below w.heap.size w wr ∧ (∀ m ∈ st, m ≤ 9223372036854775807) ∧ Aside (Tr.dps (Tr.kd l) [1] = ds ++ Tr.dps (Tr.kd (l.drop k)) st))
  case atStart =>
    refine ⟨0, [], [1], by omega, rfl, rfl, by simp, own_nil _ _ _ _, own_lit w (Tr.row [1]) 3 (by decide), .inl rfl, (Below.refl _ _).alloc (Nat.le_refl _) _, by simp, rfl⟩
  case round =>
    obtain ⟨k, ds, st, hkg, rfl, hdk, hst, hown1, hown2, hsep, hB, hmx, HD⟩ := hrel
    obtain ⟨a1, c1, rfl⟩ := own_len hown1
    obtain ⟨a2, c2, rfl⟩ := own_len hown2
    have HDK : Aside (ds.length = k) := hdk
    clear hdk
    by_cases hk : k < l.length
    · have hk' : (k : Int) < (l.length : Int) := by omega
      go_wp2_with fail
      go_loopg [5] st.length (fun g v2 w2 => wr = w2 ∧ ∃ st' : List Nat, g = st'.length ∧ st'.length ≤ k + 1 ∧ wr.ownsRow w.heap.size 3 1 v2 st'.length (Tr.row st') ∧ Sep (.slice a1 ds.length c1) v2 ∧ (∀ m ∈ st', m ≤ 9223372036854775807) ∧ Aside (Tr.dps (Tr.kd l) [1] = ds ++ Tr.dps (Tr.kd (l.drop k)) st'))
      case atStart => exact ⟨rfl, st, rfl, hst, hown2, hsep, hmx, HD⟩
      case round =>
        obtain ⟨rfl, st', hg', hst', hown3, hsep3, hmx3, HD3⟩ := hrel
        clear hown2 hsep hmx HD hst
        cases st' with
        | nil =>
          obtain ⟨va, vc, rfl⟩ := own_len hown3
          have HR : Aside (Tr.dps (Tr.kd l) [1] = ds) := by show _ = _; rw [HD3.out, Tr.dps_done rfl, List.append_nil]
          clear HD3
          go_wp2_with fail
          go_ret2
          refine ⟨.slice a1 ds.length c1, ?_, by rw [HR.out]; exact hown1, hB⟩
          rw [HR.out, HDK.out]
          rfl
        | cons m st' =>
          rw [Tr.row_cons] at hown3
          obtain ⟨b, cap, hv, hcap, hbg, hcell⟩ := own_cells hown3 (by simp)
          simp only [List.length_cons] at hcap hown3 hst' hg' hv
          subst hv
          have hbl : b < wr.heap.size := (hown3.lt b rfl).2
          have c0 : wr.cell? ⟨b, st'.length, none⟩ = some (.int .i64 (m : Int)) := by
            rw [hcell st'.length (by simp), List.getElem?_append_right (by rw [Tr.row_len]; exact Nat.le_refl _), Tr.row_len]; simp
          have f0 : wr.frozen? ⟨b, st'.length, none⟩ = false := hown3.frozenAt _
          have hc2 : (0 : Int) ≤ (st'.length : Int) := by omega
          have hc3 : (st'.length : Int) ≤ (cap : Int) := by omega
          have hs0 : st'.length ≤ 5000 := by omega
          have hm9 := hmx3 m (by simp)
          have hm8 : ∀ x ∈ st', x ≤ 9223372036854775807 := fun x hx => hmx3 x (by simp [hx])
          clear hcell hmx3
          cases m with
          | zero =>
            have hpop := ownsRow_pop (by rw [Tr.row_len]; simp) hown3
            have HD4 : Aside (Tr.dps (Tr.kd l) [1] = ds ++ Tr.dps (Tr.kd (l.drop k)) st') := by show _ = _; rw [HD3.out, Tr.dps_pop]
            go_wp2_with fail
            go_roundg st'.length
            case measure => omega
            case rel => exact ⟨rfl, st', rfl, by omega, hpop, hsep3, hm8, HD4⟩
          | succ m =>
            have hm0 : ((((m + 1 : Nat) : Int)) == 0) = false := by simp; omega
            obtain ⟨x, hx, hdx⟩ := getc hk
            obtain ⟨b1, o1, rfl, hlc, hb1, hcx⟩ := (hl.below hB).at hx
            have hx1 : wr.cell? ⟨b1, o1 + k * 8 + 1, none⟩ = some (.int .i64 x.kids) := hcx 1 _ rfl
            have hkb : b1 ≠ b := by have : b1 < w.heap.size := by obtain ⟨b2, o2, e, _, h2, _⟩ := hl.at hx; cases e; exact h2
                                    omega
            have hk2 : (0 : Int) ≤ (k : Int) := by omega
            have HD4 : Aside (Tr.dps (Tr.kd l) [1] = (ds ++ [st'.length + 1]) ++ Tr.dps (Tr.kd (l.drop (k + 1))) (x.kids.toNat :: m :: st')) := by
              show _ = _
              rw [HD3.out, Tr.drop_kd hx, Tr.dps_next (by simp [Tr.popz])]; simp [Tr.popz, Tr.nxt, Tr.dec]
            have hkx := hwf x (List.mem_of_getElem? hx)
            have hmxx : ((x.kids.toNat : Nat) : Int) = max x.kids 0 := by omega
            have hB1 : Below w.heap.size w (wr.setCell ⟨b, st'.length, none⟩ (.int .i64 (m : Int))) := hB.setCell hbg _
            have hownS : (wr.setCell ⟨b, st'.length, none⟩ (.int .i64 (m : Int))).ownsRow w.heap.size 3 1 (.slice (some ⟨b, 0, none⟩) (st'.length + 1) cap) (st'.length + 1) (Tr.row (m :: st')) := by
              have := (hown3.stored st'.length (.int .i64 (m : Int))).1
              rw [Tr.row_cons]
              simpa [List.set_append_right, Tr.row_len] using this
            have hownO : (wr.setCell ⟨b, st'.length, none⟩ (.int .i64 (m : Int))).ownsRow w.heap.size 3 1 (.slice a1 ds.length c1) ds.length (icells ds) := sep_set hown1 hsep3
            have hsz1 : (wr.setCell ⟨b, st'.length, none⟩ (.int .i64 (m : Int))).heap.size = wr.heap.size := by simp [World.setCell]
            have hws : w.heap.size ≤ wr.heap.size := hB.size
            have hkl5 : k ≤ 5000 := by omega
            have hds5 : ds.length ≤ 5000 := by have := HDK.out; omega
            generalize hW1 : wr.setCell ⟨b, st'.length, none⟩ (.int .i64 (m : Int)) = w1 at *
            have hws1 : w.heap.size ≤ w1.heap.size := by rw [hsz1]; exact hws
            clear hown1 hcx hdx HD3 hown3 hsz1
            go_upto_region 12 with (at_builtin; go_must (refine wpList_append_own_at _ rfl _ _ 40 rfl w.heap.size 3 i0 (.int .i64 0) 1 8 tyInts hi hz0 hz1 hz2 rfl (by decide) (.slice a1 ds.length c1) _ _ rfl (hownO.alloc _) ⟨w1.heap.size, 0, none⟩ 1 1 [.int .i64 ((st'.length : Int) + 1)] rfl rfl (cells_list_new _ [.int .i64 ((st'.length : Int) + 1)] 3) (fun u hu => by simp at hu; subst hu; rfl) (by unfold maxLen; omega) (by omega) (by simp; omega) ?_); intro v3 w3 hown4 hg4 _ hloc4; obtain ⟨hS4, hsep4, hB4, hz4⟩ := app_step hB1 hownO hownS hsep3 hg4 hloc4; obtain ⟨a3, c3, hv3⟩ := own_len hown4; subst hv3)
            have hx4 : w3.cell? ⟨b1, o1 + k * 8 + 1, none⟩ = some (.int .i64 x.kids) := by
              obtain ⟨b2, o2, e, _, _, h2⟩ := (hl.below hB4).at hx
              cases e; exact h2 1 _ rfl
            have hws3 : w.heap.size ≤ w3.heap.size := hB4.size
            clear hg4 hloc4 hownO hownS hsep3 hB1 hx1 c0 f0
            go_wp2_with (at_builtin; go_must (refine wpList_append_own_at _ rfl _ _ 40 rfl w.heap.size 3 i0 (.int .i64 0) 1 8 tyInts hi hz0 hz1 hz2 rfl (by decide) (.slice (some ⟨b, 0, none⟩) (st'.length + 1) cap) _ _ rfl (hS4.alloc _) ⟨w3.heap.size, 0, none⟩ 1 1 [.int .i64 (max x.kids 0)] rfl rfl (cells_list_new _ [.int .i64 (max x.kids 0)] 3) (fun u hu => by simp at hu; subst hu; rfl) (by unfold maxLen; omega) (by omega) (by simp; omega) ?_); intro v5 w5 hown5 hg5 _ hloc5; obtain ⟨hS5, hsep5, hB5, hz5⟩ := app_step hB4 hS4 hown4 hsep4.symm hg5 hloc5)
            go_roundg (l.length - (k + 1))
            case measure => omega
            case rel =>
              refine ⟨k + 1, ds ++ [st'.length + 1], x.kids.toNat :: m :: st', by omega, by go_num, by have := HDK.out; simp; omega, by simp; omega, ?_, ?_, hsep5.symm, hB5, ?_, HD4⟩
              · rw [icells_append]; simpa [icells] using hS5
              · rw [Tr.row_cons, hmxx]; exact hown5
              · intro y hy
                simp only [List.mem_cons] at hy
                rcases hy with rfl | rfl | hy
                · omega
                · omega
                · exact hm8 y hy
    · have hk' : ¬ (k : Int) < (l.length : Int) := by omega
      have HKE : Aside (k = l.length) := by show _ = _; omega
      have HR : Aside (Tr.dps (Tr.kd l) [1] = ds) := by show _ = _; rw [HD.out, HKE.out, List.drop_length]; simp [Tr.kd, Tr.dps]
      clear HD
      go_wp2_with fail
      go_ret2
      refine ⟨.slice a1 ds.length c1, ?_, by rw [HR.out]; exact hown1, hB⟩
      rw [HR.out, HDK.out, HKE.out]
      rfl
end Go.Proofs.YtkcehgpcimlamabGreatDoor
