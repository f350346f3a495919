/- What the document's Behind answers. What the document's Depths answers. What the document's Kids answers. The statements' own helpers on lists of nodes: how much there is. A list of nodes that is handed in, opened: its nodes, and how long its texts may be. -/
import Derived.Test.YtpikfdkgblghhaaGreatDoorXba
import Derived.Maps.AppendAt
import Derived.Test.YtpikfdkgblghhaaGreatDoorXaw
import Derived.Test.YtpikfdkgblghhaaGreatDoorXbd
import Derived.Deep.Slices
import Derived.ChangeArms
import Derived.SizedLaws
import Derived.RowKit
import Derived.OpenShut
namespace Go.Proofs.YtpikfdkgblghhaaGreatDoor
open Go.RowKit
set_option maxRecDepth 100000
set_option linter.unusedSimpArgs false

theorem bhI_gs {l : List Tr.Nd} {k : Nat} (hk : k < l.length) : bhI l k = if (Tr.gs (Tr.kd (l.drop k)) 1 k).1 then (Tr.gs (Tr.kd (l.drop k)) 1 k).2 else 0 := by
  rw [bhI_go hk, Tr.go_gs]; rfl

set_option maxHeartbeats 2000000 in
theorem refBehind_any (l : List Tr.Nd) (hlen : l.length ≤ 5000) (v : Value) (at0 : Int) (w : World) (hl : IsNodes w v l) :
    Calls Tryz.prog 58 #[v, .int .i64 at0] w fun e w' => e = .returned (.int .i64 (bhI l at0 : Nat)) ∧ w' = w := by
  obtain ⟨a, c, rfl⟩ := hl.form
  by_cases hneg : at0 < 0
  · have HN : Aside (bhI l at0 = 0) := bhI_neg (.inl hneg)
    go_enter Tryz.func58, Tryz.ntmps58
    go_wp2_with fail
    go_ret
    rw [HN.out]; exact ⟨rfl, rfl⟩
  · have hneg' : decide (at0 < 0) = false := by simpa using hneg
    by_cases hge : (l.length : Int) ≤ at0
    · have HN : Aside (bhI l at0 = 0) := bhI_neg (.inr hge)
      go_enter Tryz.func58, Tryz.ntmps58
      go_wp2_with fail
      go_ret
      rw [HN.out]; exact ⟨rfl, rfl⟩
    · obtain ⟨k0, rfl⟩ : ∃ k : Nat, at0 = k := ⟨at0.toNat, by omega⟩
      have hk0 : k0 < l.length := by omega
      have hk2 : decide ((l.length : Int) ≤ (k0 : Int)) = false := by simp; omega
      have hk2n : (l.length ≤ k0) = False := by simp; omega
      have HG : Aside (bhI l k0 = if (Tr.gs (Tr.kd (l.drop k0)) 1 k0).1 then (Tr.gs (Tr.kd (l.drop k0)) 1 k0).2 else 0) := bhI_gs hk0
      clear hneg hge
      go_enter Tryz.func58, Tryz.ntmps58
      go_wp2_with fail
      have HK0 : Aside (k0 < l.length) := hk0
      clear hk2 hneg' hk0 hk2n
      go_loopg [1, 5] (l.length - k0) (fun g t u wr => w = wr ∧ ∃ k m : Nat, g = l.length - k ∧ k ≤ l.length ∧ t = .int .i64 (k : Int) ∧ u = .int .i64 (m : Int) ∧ m ≤ 1 + k * 5000 ∧ Aside (Tr.gs (Tr.kd (l.drop k0)) 1 k0 = Tr.gs (Tr.kd (l.drop k)) m k))
      case atStart => exact ⟨rfl, k0, 1, rfl, Nat.le_of_lt HK0.out, rfl, rfl, by omega, rfl⟩
      case round =>
        obtain ⟨rfl, k, m, hg, hk, rfl, rfl, hm, HK⟩ := hrel
        cases m with
        | zero =>
          have HR : Aside (bhI l k0 = k) := by show _ = _; rw [HG.out, HK.out, Tr.gs_zero]; rfl
          clear HK HG
          go_wp2_with fail
          go_ret
          rw [HR.out]; exact ⟨rfl, rfl⟩
        | succ m =>
          have hm0 : (0 : Int) < ((m + 1 : Nat) : Int) := by omega
          by_cases hkl : k < l.length
          · obtain ⟨x, hx, hdx⟩ := getc hkl
            obtain ⟨b1, o1, rfl, hlc, hb1, hcx⟩ := hl.at hx
            have c1 : w.cell? ⟨b1, o1 + k * 8 + 1, none⟩ = some (.int .i64 x.kids) := hcx 1 _ rfl
            have hkd : Tr.kd (l.drop k) = x.kids :: Tr.kd (l.drop (k + 1)) := Tr.drop_kd hx
            have hk1 : decide ((l.length : Int) ≤ (k : Int)) = false := by simp; omega
            have hk2 : (k : Int) < (l.length : Int) := by omega
            have hk3 : (0 : Int) ≤ (k : Int) := by omega
            by_cases hn : x.kids < 0
            · have HR : Aside (bhI l k0 = 0) := by show _ = _; rw [HG.out, HK.out, hkd, Tr.gs, if_pos hn]; rfl
              clear HK HG hkd hdx hcx hx hl
              go_wp2_with fail
              go_ret
              rw [HR.out]; exact ⟨rfl, rfl⟩
            · have hn' : decide (x.kids < 0) = false := by simpa using hn
              obtain ⟨d, hd⟩ : ∃ d : Nat, x.kids = d := ⟨x.kids.toNat, by omega⟩
              have HS : Aside (Tr.gs (Tr.kd (l.drop k0)) 1 k0 = Tr.gs (Tr.kd (l.drop (k + 1))) (m + d) (k + 1)) := by
                show _ = _; rw [HK.out, hkd, Tr.gs, if_neg hn, hd]; rfl
              rw [hd] at c1 hn'
              by_cases hbig : l.length < d
              · have HR : Aside (bhI l k0 = 0) := by
                  show _ = _
                  rw [HG.out, HS.out, if_neg]
                  rw [Tr.gs_many _ _ _ (by rw [Tr.kd_len, List.length_drop]; omega)]; decide
                have hbig' : (l.length : Int) < (d : Int) := by omega
                clear HK HG HS hkd hdx hcx hx hl hn hd
                go_wp2_with fail
                go_ret
                rw [HR.out]; exact ⟨rfl, rfl⟩
              · have hbig' : decide ((l.length : Int) < (d : Int)) = false := by simp; omega
                have hdl : d ≤ 5000 := by omega
                clear HK HG hkd hdx hcx hx hl hn hd
                go_wp2_with fail
                go_roundg (l.length - (k + 1))
                case measure => omega
                case rel => exact ⟨rfl, k + 1, m + d, rfl, by omega, by go_num, by go_num, by omega, HS⟩
          · have hke : k = l.length := by omega
            have HR : Aside (bhI l k0 = 0) := by show _ = _; rw [HG.out, HK.out, hke, List.drop_length]; rfl
            have hk1 : (l.length : Int) ≤ (k : Int) := by omega
            clear HK HG hke
            go_wp2_with fail
            go_ret
            rw [HR.out]; exact ⟨rfl, rfl⟩
end Go.Proofs.YtpikfdkgblghhaaGreatDoor
namespace Go.Proofs.YtpikfdkgblghhaaGreatDoor
open Go.RowKit
set_option maxRecDepth 100000
set_option linter.unusedSimpArgs false

/-- Two rows of the call's own lie apart. -/
def Sep (a b : Value) : Prop := a.ownBlock = none ∨ a.ownBlock ≠ b.ownBlock
theorem Sep.symm {a b : Value} (h : Sep a b) : Sep b a := by
  unfold Sep at *
  by_cases e : b.ownBlock = none
  · exact .inl e
  · rcases h with h | h
    · exact .inr (by rw [h]; exact e)
    · exact .inr (fun e => h e.symm)
theorem Sep.grow {a a' b : Value} {N : Nat} (h : Sep a b) (hb : ∀ x, b.ownBlock = some x → x < N) (ha : a'.ownBlock = a.ownBlock ∨ a'.ownBlock = some N) : Sep a' b := by
  unfold Sep at *
  rcases ha with ha | ha
  · rw [ha]; exact h
  · exact .inr (fun e => by have := hb N (by rw [← e, ha]); omega)
theorem sep_set {w : World} {base e size n : Nat} {v : Value} {xs : List Value} {b o : Nat} {u : Value} (h : w.ownsRow base e size v n xs) (hs : v.ownBlock = none ∨ v.ownBlock ≠ some b) : (w.setCell ⟨b, o, none⟩ u).ownsRow base e size v n xs :=
  h.kept (row := some b) (grownBy_set (grownBy_refl _ _) u) hs

theorem app_step {w w1 w3 : World} {o : Obj} {v1 v2 v3 : Value} {n1 n2 : Nat} {xs1 xs2 : List Value} (hB : Below w.heap.size w w1) (h1 : w1.ownsRow w.heap.size 3 1 v1 n1 xs1) (h2 : w1.ownsRow w.heap.size 3 1 v2 n2 xs2) (hs : Sep v1 v2)
    (hg : (w1.alloc o).grownBy w3 v1.ownBlock) (hloc : v3.ownBlock = v1.ownBlock ∨ v3.ownBlock = some (w1.alloc o).heap.size) : w3.ownsRow w.heap.size 3 1 v2 n2 xs2 ∧ Sep v3 v2 ∧ Below w.heap.size w w3 ∧ w1.heap.size ≤ w3.heap.size :=
  ⟨(h2.alloc o).kept hg hs.symm, hs.grow (fun x e => by have := (h2.lt x e).2; simp; omega) hloc, hB.grown (grownBy_alloc_pre hg) hB.size (fun x e => (h1.lt x e).1), (grownBy_alloc_pre hg).size⟩

set_option maxHeartbeats 8000000 in
theorem refDepths_any (l : List Tr.Nd) (hlen : l.length ≤ 5000) (hwf : ∀ x ∈ l, x.kids ≤ 9223372036854775807) (v : Value) (w : World) (hl : IsNodes w v l) :
    Calls Tryz.prog 56 #[v] w fun e w' => ∃ r, e = .returned (.tuple #[r, .int .i64 ((Tr.dps (Tr.kd l) [1]).length : Int)]) ∧ w'.ownsRow w.heap.size 3 1 r (Tr.dps (Tr.kd l) [1]).length (icells (Tr.dps (Tr.kd l) [1])) ∧ Below w.heap.size w w' := by
  obtain ⟨a, c, rfl⟩ := hl.form
  obtain ⟨i0, hi, hz0, hz1, hz2⟩ := info_parts info3
  go_enter Tryz.func56, Tryz.ntmps56
  go_wp2_with fail
  go_loopg [4, 5, 6] l.length (fun g v1 v2 t wr => ∃ (k : Nat) (ds st : List Nat), k + g = l.length ∧ t = .int .i64 (k : Int) ∧ ds.length = k ∧ st.length ≤ k + 1 ∧ wr.ownsRow w.heap.size 3 1 v1 ds.length (icells ds) ∧ wr.ownsRow w.heap.size 3 1 v2 st.length (Tr.row st) ∧ Sep v1 v2 ∧ Below w.heap.size w wr ∧ (∀ m ∈ st, m ≤ 9223372036854775807) ∧ Aside (Tr.dps (Tr.kd l) [1] = ds ++ Tr.dps (Tr.kd (l.drop k)) st))
  case atStart =>
    refine ⟨0, [], [1], by omega, rfl, rfl, by simp, own_nil _ _ _ _, own_lit w (Tr.row [1]) 3 (by decide), .inl rfl, (Below.refl _ _).alloc (Nat.le_refl _) _, by simp, rfl⟩
  case round =>
    obtain ⟨k, ds, st, hkg, rfl, hdk, hst, hown1, hown2, hsep, hB, hmx, HD⟩ := hrel
    obtain ⟨a1, c1, rfl⟩ := own_len hown1
    obtain ⟨a2, c2, rfl⟩ := own_len hown2
    have HDK : Aside (ds.length = k) := hdk
    clear hdk
    by_cases hk : k < l.length
    · have hk' : (k : Int) < (l.length : Int) := by omega
      go_wp2_with fail
      go_loopg [5] st.length (fun g v2 w2 => wr = w2 ∧ ∃ st' : List Nat, g = st'.length ∧ st'.length ≤ k + 1 ∧ wr.ownsRow w.heap.size 3 1 v2 st'.length (Tr.row st') ∧ Sep (.slice a1 ds.length c1) v2 ∧ (∀ m ∈ st', m ≤ 9223372036854775807) ∧ Aside (Tr.dps (Tr.kd l) [1] = ds ++ Tr.dps (Tr.kd (l.drop k)) st'))
      case atStart => exact ⟨rfl, st, rfl, hst, hown2, hsep, hmx, HD⟩
      case round =>
        obtain ⟨rfl, st', hg', hst', hown3, hsep3, hmx3, HD3⟩ := hrel
        clear hown2 hsep hmx HD hst
        cases st' with
        | nil =>
          obtain ⟨va, vc, rfl⟩ := own_len hown3
          have HR : Aside (Tr.dps (Tr.kd l) [1] = ds) := by show _ = _; rw [HD3.out, Tr.dps_done rfl, List.append_nil]
          clear HD3
          go_wp2_with fail
          go_ret2
          refine ⟨.slice a1 ds.length c1, ?_, by rw [HR.out]; exact hown1, hB⟩
          rw [HR.out, HDK.out]
          rfl
        | cons m st' =>
          rw [Tr.row_cons] at hown3
          obtain ⟨b, cap, hv, hcap, hbg, hcell⟩ := own_cells hown3 (by simp)
          simp only [List.length_cons] at hcap hown3 hst' hg' hv
          subst hv
          have hbl : b < wr.heap.size := (hown3.lt b rfl).2
          have c0 : wr.cell? ⟨b, st'.length, none⟩ = some (.int .i64 (m : Int)) := by
            rw [hcell st'.length (by simp), List.getElem?_append_right (by rw [Tr.row_len]; exact Nat.le_refl _), Tr.row_len]; simp
          have f0 : wr.frozen? ⟨b, st'.length, none⟩ = false := hown3.frozenAt _
          have hc2 : (0 : Int) ≤ (st'.length : Int) := by omega
          have hc3 : (st'.length : Int) ≤ (cap : Int) := by omega
          have hs0 : st'.length ≤ 5000 := by omega
          have hm9 := hmx3 m (by simp)
          have hm8 : ∀ x ∈ st', x ≤ 9223372036854775807 := fun x hx => hmx3 x (by simp [hx])
          clear hcell hmx3
          cases m with
          | zero =>
            have hpop := ownsRow_pop (by rw [Tr.row_len]; simp) hown3
            have HD4 : Aside (Tr.dps (Tr.kd l) [1] = ds ++ Tr.dps (Tr.kd (l.drop k)) st') := by show _ = _; rw [HD3.out, Tr.dps_pop]
            go_wp2_with fail
            go_roundg st'.length
            case measure => omega
            case rel => exact ⟨rfl, st', rfl, by omega, hpop, hsep3, hm8, HD4⟩
          | succ m =>
            have hm0 : ((((m + 1 : Nat) : Int)) == 0) = false := by simp; omega
            obtain ⟨x, hx, hdx⟩ := getc hk
            obtain ⟨b1, o1, rfl, hlc, hb1, hcx⟩ := (hl.below hB).at hx
            have hx1 : wr.cell? ⟨b1, o1 + k * 8 + 1, none⟩ = some (.int .i64 x.kids) := hcx 1 _ rfl
            have hkb : b1 ≠ b := by have : b1 < w.heap.size := by obtain ⟨b2, o2, e, _, h2, _⟩ := hl.at hx; cases e; exact h2
                                    omega
            have hk2 : (0 : Int) ≤ (k : Int) := by omega
            have HD4 : Aside (Tr.dps (Tr.kd l) [1] = (ds ++ [st'.length + 1]) ++ Tr.dps (Tr.kd (l.drop (k + 1))) (x.kids.toNat :: m :: st')) := by
              show _ = _
              rw [HD3.out, Tr.drop_kd hx, Tr.dps_next (by simp [Tr.popz])]; simp [Tr.popz, Tr.nxt, Tr.dec]
            have hkx := hwf x (List.mem_of_getElem? hx)
            have hmxx : ((x.kids.toNat : Nat) : Int) = max x.kids 0 := by omega
            have hB1 : Below w.heap.size w (wr.setCell ⟨b, st'.length, none⟩ (.int .i64 (m : Int))) := hB.setCell hbg _
            have hownS : (wr.setCell ⟨b, st'.length, none⟩ (.int .i64 (m : Int))).ownsRow w.heap.size 3 1 (.slice (some ⟨b, 0, none⟩) (st'.length + 1) cap) (st'.length + 1) (Tr.row (m :: st')) := by
              have := (hown3.stored st'.length (.int .i64 (m : Int))).1
              rw [Tr.row_cons]
              simpa [List.set_append_right, Tr.row_len] using this
            have hownO : (wr.setCell ⟨b, st'.length, none⟩ (.int .i64 (m : Int))).ownsRow w.heap.size 3 1 (.slice a1 ds.length c1) ds.length (icells ds) := sep_set hown1 hsep3
            have hsz1 : (wr.setCell ⟨b, st'.length, none⟩ (.int .i64 (m : Int))).heap.size = wr.heap.size := by simp [World.setCell]
            have hws : w.heap.size ≤ wr.heap.size := hB.size
            have hkl5 : k ≤ 5000 := by omega
            have hds5 : ds.length ≤ 5000 := by have := HDK.out; omega
            generalize hW1 : wr.setCell ⟨b, st'.length, none⟩ (.int .i64 (m : Int)) = w1 at *
            have hws1 : w.heap.size ≤ w1.heap.size := by rw [hsz1]; exact hws
            clear hown1 hcx hdx HD3 hown3 hsz1
            go_upto_region 12 with (at_builtin; go_must (refine wpList_append_own_at _ rfl _ _ 47 rfl w.heap.size 3 i0 (.int .i64 0) 1 8 tyInts hi hz0 hz1 hz2 rfl (by decide) (.slice a1 ds.length c1) _ _ rfl (hownO.alloc _) ⟨w1.heap.size, 0, none⟩ 1 1 [.int .i64 ((st'.length : Int) + 1)] rfl rfl (cells_list_new _ [.int .i64 ((st'.length : Int) + 1)] 3) (fun u hu => by simp at hu; subst hu; rfl) (by unfold maxLen; omega) (by omega) (by simp; omega) ?_); intro v3 w3 hown4 hg4 _ hloc4; obtain ⟨hS4, hsep4, hB4, hz4⟩ := app_step hB1 hownO hownS hsep3 hg4 hloc4; obtain ⟨a3, c3, hv3⟩ := own_len hown4; subst hv3)
            have hx4 : w3.cell? ⟨b1, o1 + k * 8 + 1, none⟩ = some (.int .i64 x.kids) := by
              obtain ⟨b2, o2, e, _, _, h2⟩ := (hl.below hB4).at hx
              cases e; exact h2 1 _ rfl
            have hws3 : w.heap.size ≤ w3.heap.size := hB4.size
            clear hg4 hloc4 hownO hownS hsep3 hB1 hx1 c0 f0
            go_wp2_with (at_builtin; go_must (refine wpList_append_own_at _ rfl _ _ 47 rfl w.heap.size 3 i0 (.int .i64 0) 1 8 tyInts hi hz0 hz1 hz2 rfl (by decide) (.slice (some ⟨b, 0, none⟩) (st'.length + 1) cap) _ _ rfl (hS4.alloc _) ⟨w3.heap.size, 0, none⟩ 1 1 [.int .i64 (max x.kids 0)] rfl rfl (cells_list_new _ [.int .i64 (max x.kids 0)] 3) (fun u hu => by simp at hu; subst hu; rfl) (by unfold maxLen; omega) (by omega) (by simp; omega) ?_); intro v5 w5 hown5 hg5 _ hloc5; obtain ⟨hS5, hsep5, hB5, hz5⟩ := app_step hB4 hS4 hown4 hsep4.symm hg5 hloc5)
            go_roundg (l.length - (k + 1))
            case measure => omega
            case rel =>
              refine ⟨k + 1, ds ++ [st'.length + 1], x.kids.toNat :: m :: st', by omega, by go_num, by have := HDK.out; simp; omega, by simp; omega, ?_, ?_, hsep5.symm, hB5, ?_, HD4⟩
              · rw [icells_append]; simpa [icells] using hS5
              · rw [Tr.row_cons, hmxx]; exact hown5
              · intro y hy
                simp only [List.mem_cons] at hy
                rcases hy with rfl | rfl | hy
                · omega
                · omega
                · exact hm8 y hy
    · have hk' : ¬ (k : Int) < (l.length : Int) := by omega
      have HKE : Aside (k = l.length) := by show _ = _; omega
      have HR : Aside (Tr.dps (Tr.kd l) [1] = ds) := by show _ = _; rw [HD.out, HKE.out, List.drop_length]; simp [Tr.kd, Tr.dps]
      clear HD
      go_wp2_with fail
      go_ret2
      refine ⟨.slice a1 ds.length c1, ?_, by rw [HR.out]; exact hown1, hB⟩
      rw [HR.out, HDK.out, HKE.out]
      rfl
end Go.Proofs.YtpikfdkgblghhaaGreatDoor
namespace Go.Proofs.YtpikfdkgblghhaaGreatDoor
open Go.RowKit
set_option maxRecDepth 100000
set_option linter.unusedSimpArgs false

set_option maxHeartbeats 4000000 in
theorem refKids_any (l : List Tr.Nd) (hlen : l.length ≤ 5000) (v : Value) (at0 : Int) (w : World) (hl : IsNodes w v l) :
    Calls Tryz.prog 59 #[v, .int .i64 at0] w fun e w' => ∃ r, e = .returned r ∧ w'.ownsRow w.heap.size 3 1 r (kidsN l at0).length (icells (kidsN l at0)) ∧ Below w.heap.size w w' := by
  obtain ⟨a, c, rfl⟩ := hl.form
  obtain ⟨i0, hi, hz0, hz1, hz2⟩ := info_parts info3
  have hb1 := refBehind_any l hlen _ at0 w hl
  by_cases h0 : bhI l at0 = 0
  · have HN : Aside (kidsN l at0 = []) := by show _ = _; unfold kidsN; rw [if_pos h0]
    rw [h0] at hb1
    clear h0
    go_enter Tryz.func59, Tryz.ntmps59
    go_wp2_with (go_at_call 58; refine hb1.mono ?_; rintro e w1 ⟨rfl, hw1⟩; replace hw1 := hw1.symm; subst hw1)
    go_ret
    rw [HN.out]
    exact ⟨_, rfl, own_nil _ _ _ _, Below.refl _ _⟩
  · have hat : 0 ≤ at0 := by
      apply Int.not_lt.1
      intro h
      exact h0 (bhI_neg (.inl h))
    obtain ⟨p, rfl⟩ : ∃ p : Nat, at0 = p := ⟨at0.toNat, by omega⟩
    obtain ⟨x, n, f1, f2, f3, f4, f5, f6, f7⟩ := part_facts (l := l) (p := p) h0
    have hpl : p < l.length := (List.getElem?_eq_some_iff.1 f1).1
    obtain ⟨b1, o1, rfl, hlc, hbl, hcx⟩ := hl.at f1
    have c1 : w.cell? ⟨b1, o1 + p * 8 + 1, none⟩ = some (.int .i64 (n : Int)) := by rw [← f2]; exact hcx 1 _ rfl
    have hz : ((bhI l p : Int) == 0) = false := by simp; omega
    have hp0 : (0 : Int) ≤ (p : Int) := by omega
    have hp1 : (p : Int) < (l.length : Int) := by omega
    have HKN : Aside (kidsN l p = (List.range n).map (Tr.kidAt l p)) := f3
    have HKA : Aside (∀ k, k < n → Tr.kidAt l p k < Tr.kidAt l p (k + 1) ∧ Tr.kidAt l p (k + 1) ≤ bhI l p ∧ Tr.kidAt l p (k + 1) = bhI l (Tr.kidAt l p k)) := f7
    have HK0 : Aside (Tr.kidAt l p 0 = p + 1) := f6
    have hn5 : n ≤ 5000 := by
      have key : ∀ k, k ≤ n → p + 1 + k ≤ Tr.kidAt l p k := by
        intro k
        induction k with
        | zero => intro _; rw [f6]; omega
        | succ k ih => intro h; have := (f7 k (by omega)).1; have := ih (by omega); omega
      have := key n (Nat.le_refl _)
      omega
    have hend : bhI l p ≤ l.length := f5
    clear h0 f1 f2 f3 f4 f5 f6 f7 hcx hat
    generalize bhI l p = e0 at *
    go_enter Tryz.func59, Tryz.ntmps59
    go_wp2_with (go_at_call 58; refine hb1.mono ?_; rintro e w1 ⟨rfl, hw1⟩; replace hw1 := hw1.symm; subst hw1)
    clear hb1 hz
    go_loopg [5, 7, 8] n (fun g v5 s7 s8 wr => ∃ k : Nat, k + g = n ∧ s7 = .int .i64 (Tr.kidAt l p k : Int) ∧ s8 = .int .i64 (k : Int) ∧ wr.ownsRow w.heap.size 3 1 v5 k (icells ((List.range k).map (Tr.kidAt l p))) ∧ Below w.heap.size w wr)
    case atStart => exact ⟨0, by omega, by rw [HK0.out]; go_num, rfl, own_nil _ _ _ _, Below.refl _ _⟩
    case round =>
      obtain ⟨k, hkg, rfl, rfl, hown, hB⟩ := hrel
      have c2 : wr.cell? ⟨b1, o1 + p * 8 + 1, none⟩ = some (.int .i64 (n : Int)) := (hB.cell (p := ⟨b1, o1 + p * 8 + 1, none⟩) hbl).trans c1
      obtain ⟨va, vc, rfl⟩ := own_len hown
      have hws := hB.size
      by_cases hk : k < n
      · have hk' : (k : Int) < (n : Int) := by omega
        obtain ⟨g1, g2, g3⟩ := HKA.out k hk
        have HG3 : Aside (Tr.kidAt l p (k + 1) = bhI l (Tr.kidAt l p k)) := g3
        have hb2 : ∀ w3, Below w.heap.size w w3 → Calls Tryz.prog 58 #[.slice (some ⟨b1, o1, none⟩) l.length c, .int .i64 (Tr.kidAt l p k : Int)] w3 fun e w' => e = .returned (.int .i64 (Tr.kidAt l p (k + 1) : Int)) ∧ w' = w3 := fun w3 h3 => by
          have := refBehind_any l hlen _ (Tr.kidAt l p k : Int) w3 (hl.below h3)
          rw [← g3] at this
          exact this
        have HAP : Aside (icells ((List.range (k + 1)).map (Tr.kidAt l p)) = icells ((List.range k).map (Tr.kidAt l p)) ++ [.int .i64 (Tr.kidAt l p k : Int)]) := by
          show _ = _
          rw [List.range_succ, List.map_append, icells_append]; rfl
        clear g1 g2 g3 HKA
        generalize Tr.kidAt l p k = pk at *
        generalize hpn : Tr.kidAt l p (k + 1) = pn at *
        have HPN : Aside (Tr.kidAt l p (k + 1) = pn) := hpn
        clear hpn
        go_wp2_with (first | (at_builtin; go_must (refine wpList_append_own _ rfl _ _ 47 rfl w.heap.size 3 i0 (.int .i64 0) 1 8 tyInts hi hz0 hz1 hz2 rfl (by decide) (.slice va k vc) _ _ rfl (hown.alloc _) ⟨wr.heap.size, 0, none⟩ 1 1 [.int .i64 (pk : Int)] rfl rfl (cells_list_new _ [.int .i64 (pk : Int)] 3) (fun u hu => by simp at hu; subst hu; rfl) (by unfold maxLen; omega) (by omega) (by simp; omega) ?_); intro v3 w3 hown3 hg3 _; have hB3 : Below w.heap.size w w3 := hB.grown (grownBy_alloc_pre hg3) hws (fun y e => (hown.lt y e).1)) | (go_at_call 58; refine (hb2 _ hB3).mono ?_; rintro e w4 ⟨rfl, hw4⟩; replace hw4 := hw4.symm; subst hw4))
        go_roundg (n - (k + 1))
        case measure => omega
        case rel => exact ⟨k + 1, by omega, by rw [HPN.out], by go_num, by rw [HAP.out]; exact hown3, hB3⟩
      · have hk' : ¬ (k : Int) < (n : Int) := by omega
        have HKE : Aside (k = n) := by show _ = _; omega
        go_wp2_with fail
        go_ret
        refine ⟨_, rfl, ?_, hB⟩
        rw [HKN.out, List.length_map, List.length_range, ← HKE.out]
        exact hown
end Go.Proofs.YtpikfdkgblghhaaGreatDoor
namespace Go.Proofs.YtpikfdkgblghhaaGreatDoor
open Go.RowKit
set_option maxRecDepth 100000
set_option linter.unusedSimpArgs false

/-- The texts of a list are no longer than what fits into memory. -/
def Texts (l : List Tr.Nd) : Prop := ∀ x ∈ l, x.s.size ≤ 140737488355328 ∧ x.t.size ≤ 140737488355328 ∧ x.u.size ≤ 140737488355328

set_option maxHeartbeats 2000000 in
theorem sizeNodes_any (l : List Tr.Nd) (hlen : l.length ≤ 2199023255552) (hT : Texts l) (v : Value) (w : World) (hl : IsNodes w v l) :
    Calls Tryz.prog 30 #[v] w fun e w' => ∃ z : Nat, e = .returned (.int .i64 (z : Int)) ∧ l.length ≤ z ∧ z ≤ 4611686018427387904 ∧ ∃ n, w' = w.drewN n := by
  obtain ⟨a, c, rfl⟩ := hl.form
  go_enter Tryz.func30, Tryz.ntmps30
  go_wp2_with fail
  go_loopg [3, 4] l.length (fun g s t wr => ∃ k z n : Nat, k + g = l.length ∧ t = .int .i64 (k : Int) ∧ s = .int .i64 (z : Int) ∧ l.length ≤ z ∧ z ≤ 4611686018427387904 ∧ wr = w.drewN n)
  case atStart => exact ⟨0, l.length, 0, by omega, rfl, rfl, by omega, by omega, rfl⟩
  case round =>
    obtain ⟨k, z, n, hkg, rfl, rfl, hlz, hz, rfl⟩ := hrel
    by_cases hk : k < l.length
    · have hk' : (k : Int) < (l.length : Int) := by omega
      have hk0 : (0 : Int) ≤ (k : Int) := by omega
      by_cases hz2 : z ≤ 2147483647
      · have hz2' : (z : Int) ≤ 2147483647 := by omega
        obtain ⟨x, hx, hdx⟩ := getc hk
        obtain ⟨b1, o1, rfl, hc1, hl1, hcx⟩ := hl.at hx
        obtain ⟨p0, p1, p2, p3, p4, p5, p6, p7⟩ := agg_cells (o := o1 + k * 8) hcx
        obtain ⟨t1, t2, t3⟩ := hT x (List.mem_of_getElem? hx)
        have e1 : IntKind.i64.wrap ((z : Int) + (x.s.size : Int)) = (z : Int) + (x.s.size : Int) := IntWalk.i64_in _ (by omega)
        have e2 : IntKind.i64.wrap ((z : Int) + (x.s.size : Int) + (x.t.size : Int)) = (z : Int) + (x.s.size : Int) + (x.t.size : Int) := IntWalk.i64_in _ (by omega)
        have e3 : IntKind.i64.wrap ((z : Int) + (x.s.size : Int) + (x.t.size : Int) + (x.u.size : Int)) = (z : Int) + (x.s.size : Int) + (x.t.size : Int) + (x.u.size : Int) := IntWalk.i64_in _ (by omega)
        clear hcx hdx hx hl hT
        go_wp2_with fail
        go_quiet (fail)
        go_wp2_with fail
        go_roundg (l.length - (k + 1))
        case measure => omega
        case rel => exact ⟨k + 1, z + x.s.size + x.t.size + x.u.size, _, by omega, by go_num, by go_num, by omega, by omega, by first | rfl | exact World.drewN_drewN⟩
      · have hz2' : decide ((z : Int) ≤ 2147483647) = false := by simp; omega
        go_wp2_with fail
        go_ret
        exact ⟨z, rfl, hlz, hz, n, rfl⟩
    · have hk' : ¬ (k : Int) < (l.length : Int) := by omega
      have hk2 : decide ((k : Int) < (l.length : Int)) = false := by simpa using hk'
      go_wp2_with fail
      go_ret
      exact ⟨z, rfl, hlz, hz, n, rfl⟩

end Go.Proofs.YtpikfdkgblghhaaGreatDoor
namespace Go.Proofs.YtpikfdkgblghhaaGreatDoor
open Go.ChangeShapes Go.WideShapes Go.RowKit
set_option maxRecDepth 100000

def fieldsOf (P : Program) (t : TypeId) : List (Nat × Nat) := match P.underlying t with
  | some (.struct fs) => fs.toList.map fun f => (f.type, f.offset)
  | _ => []
theorem ndF : fieldsOf Tryz.prog 52 = [(48, 0), (3, 1), (2, 2), (9, 3), (9, 4), (9, 5), (37, 6)] := by kernel_rfl
theorem plF : fieldsOf Tryz.prog 37 = [(3, 0), (3, 1)] := by kernel_rfl
theorem fields_some {P : Program} {t : TypeId} {l : List (Nat × Nat)} {x : Nat × Nat} (h : fieldsOf P t = x :: l) : ∃ fs, P.underlying t = some (.struct fs) ∧ fs.toList.map (fun f => (f.type, f.offset)) = x :: l := by
  unfold fieldsOf at h
  split at h
  · exact ⟨_, by assumption, h⟩
  · simp at h
theorem weights_lit {H : Type} {P : Program} (s : ByteArray) (t : TypeId) : s.size ∈ (DataW.lit (.string s.data.toList) : DataW H).weights P t := by
  unfold DataW.weights
  rw [← str_len s]
  exact List.mem_singleton.2 rfl
theorem weightsAll_mem {H : Type} {P : Program} {e : TypeId} : ∀ {l : List (DataW H)} {d : DataW H}, d ∈ l → ∀ n ∈ d.weights P e, n ∈ DataW.weightsAll P e l
  | [], _, h, _, _ => by simp at h
  | a :: l, d, h, n, hn => by
    rw [DataW.weightsAll, List.mem_append]
    rcases List.mem_cons.1 h with rfl | h
    · exact .inl hn
    · exact .inr (weightsAll_mem h n hn)

section
variable {H : Type} {enc : TypeId × Value → H} {W : World} {base : Nat} {sp : Nat → Bool} {hd : Bool}

set_option maxHeartbeats 2000000 in
theorem node_open {n : Nat} {cs : List Value} {y : DataW H × List MemPlace} (h : DataW.trod enc Tryz.prog W base sp hd n 52 cs = some y) :
    ∃ x : Tr.Nd, cs = Tr.ncells x ∧ x.kids ≤ 9223372036854775807 ∧ ((Lit.int .i8 x.kind).wf = true ∧ -9223372036854775808 ≤ x.n ∧ x.n ≤ 9223372036854775807) ∧ x.s.size ≤ maxLen ∧ x.s.size ∈ y.1.weights Tryz.prog 52 ∧ x.t.size ∈ y.1.weights Tryz.prog 52 ∧ x.u.size ∈ y.1.weights Tryz.prog 52 := by
  obtain ⟨fs, hu, hfs⟩ := fields_some ndF
  obtain ⟨xs, k, _, rfl, hlen, hxl, hf⟩ := DataW.trod_struct hu h
  rw [show Tryz.prog.cellsOf 52 = 8 by kernel_rfl] at hlen
  have c34 : Tryz.prog.cellsOf 48 = 1 := by kernel_rfl
  have c3 : Tryz.prog.cellsOf 3 = 1 := by kernel_rfl
  have c2 : Tryz.prog.cellsOf 2 = 1 := by kernel_rfl
  have c9 : Tryz.prog.cellsOf 9 = 1 := by kernel_rfl
  have cp : Tryz.prog.cellsOf 37 = 2 := by kernel_rfl
  have u34 : Tryz.prog.underlying 48 = some (.int .i8) := by kernel_rfl
  have u3 : Tryz.prog.underlying 3 = some (.int .i64) := by kernel_rfl
  have u2 : Tryz.prog.underlying 2 = some (.int .i64) := by kernel_rfl
  have u9 : Tryz.prog.underlying 9 = some .string := by kernel_rfl
  obtain ⟨fl⟩ := fs
  simp only at hfs
  match fl, hfs with
  | [f0, f1, f2, f3, f4, f5, f6], hfs =>
    simp only [List.map_cons, List.map_nil, List.cons.injEq, Prod.mk.injEq, and_true] at hfs
    obtain ⟨⟨t0, o0⟩, ⟨t1, o1⟩, ⟨t2, o2⟩, ⟨t3, o3⟩, ⟨t4, o4⟩, ⟨t5, o5⟩, ⟨t6, o6⟩⟩ := hfs
    match xs, hxl, cs, hlen with
    | [y0, y1, y2, y3, y4, y5, y6], _, [v0, v1, v2, v3, v4, v5, v6, v7], _ =>
      have g0 := hf 0 f0 rfl
      have g1 := hf 1 f1 rfl
      have g2 := hf 2 f2 rfl
      have g3 := hf 3 f3 rfl
      have g4 := hf 4 f4 rfl
      have g5 := hf 5 f5 rfl
      have g6 := hf 6 f6 rfl
      simp only [t0, o0, c34, t1, o1, c3, t2, o2, c2, t3, o3, c9, t4, o4, t5, o5, t6, o6, cp] at g0 g1 g2 g3 g4 g5 g6
      simp only [List.drop_zero, List.drop_succ_cons, List.take_succ_cons, List.take_zero, List.getElem?_cons_zero, List.getElem?_cons_succ, List.take_nil] at g0 g1 g2 g3 g4 g5 g6
      obtain ⟨i0, h0, _, w0⟩ := DataW.trod_int u34 g0
      obtain ⟨i1, h1, _, w1⟩ := DataW.trod_int u3 g1
      obtain ⟨i2, h2, _, w2⟩ := DataW.trod_int u2 g2
      obtain ⟨s3, h3, e3, w3⟩ := DataW.trod_string u9 g3
      obtain ⟨s4, h4, e4, w4⟩ := DataW.trod_string u9 g4
      obtain ⟨s5, h5, e5, w5⟩ := DataW.trod_string u9 g5
      obtain ⟨ps, hup, hps⟩ := fields_some plF
      obtain ⟨zs, k2, _, _, hlen2, hzl, hf2⟩ := DataW.trod_struct hup g6
      obtain ⟨pl⟩ := ps
      simp only at hps
      match pl, hps with
      | [q0, q1], hps =>
        simp only [List.map_cons, List.map_nil, List.cons.injEq, Prod.mk.injEq, and_true] at hps
        obtain ⟨⟨s0, p0⟩, ⟨s1, p1⟩⟩ := hps
        match zs, hzl with
        | [z0, z1], _ =>
          have k0 := hf2 0 q0 rfl
          have k1 := hf2 1 q1 rfl
          simp only [s0, p0, s1, p1, c3, List.drop_zero, List.drop_succ_cons, List.take_succ_cons, List.take_zero, List.getElem?_cons_zero, List.getElem?_cons_succ] at k0 k1
          obtain ⟨i6, h6, _, _⟩ := DataW.trod_int u3 k0
          obtain ⟨i7, h7, _, _⟩ := DataW.trod_int u3 k1
          cases h0; cases h1; cases h2; cases h3; cases h4; cases h5; cases h6; cases h7
          have hw : (DataW.agg (List.map (fun x => x.1) [y0, y1, y2, y3, y4, y5, y6])).weights Tryz.prog 52 = DataW.weightsEach Tryz.prog ([f0, f1, f2, f3, f4, f5, f6].map (·.type)) [y0.1, y1.1, y2.1, y3.1, y4.1, y5.1, y6.1] := by
            simp only [DataW.weights, hu]; rfl
          refine ⟨⟨i0, i1, i2, s3, s4, s5, i6, i7⟩, rfl, (bounds_i64 w1).2, ⟨w0, (bounds_i64 w2).1, (bounds_i64 w2).2⟩, w3, ?_, ?_, ?_⟩
          all_goals rw [hw]
          · exact DataW.weights_mem_each (j := 3) (t := 9) (d := y3.1) (congrArg some t3) rfl _ (by rw [e3]; exact weights_lit s3 _)
          · exact DataW.weights_mem_each (j := 4) (t := 9) (d := y4.1) (congrArg some t4) rfl _ (by rw [e4]; exact weights_lit s4 _)
          · exact DataW.weights_mem_each (j := 5) (t := 9) (d := y5.1) (congrArg some t5) rfl _ (by rw [e5]; exact weights_lit s5 _)

set_option maxHeartbeats 2000000 in
theorem nodes_open {fuel : Nat} {v : Value} {d : DataW H} {p : List MemPlace} (h : DataW.trod enc Tryz.prog W base sp hd fuel 22 [v] = some (d, p)) :
    ∃ l : List Tr.Nd, IsNodes W v l ∧ (∀ x ∈ l, x.kids ≤ 9223372036854775807 ∧ ((Lit.int .i8 x.kind).wf = true ∧ -9223372036854775808 ≤ x.n ∧ x.n ≤ 9223372036854775807) ∧ x.s.size ≤ maxLen ∧ x.s.size ∈ d.weights Tryz.prog 22 ∧ x.t.size ∈ d.weights Tryz.prog 22 ∧ x.u.size ∈ d.weights Tryz.prog 22) ∧
      (l = [] ∨ ∃ N, l.length ≤ N ∧ N * 88 ∈ d.weights Tryz.prog 22) := by
  have ce : Tryz.prog.cellsOf 52 = 8 := by kernel_rfl
  have cb : Tryz.prog.bytesOf 52 = 88 := by kernel_rfl
  rcases Go.Deep.open_slice tyNodes h with ⟨hcs, _⟩ | ⟨a, len, cap, m, n, D, Pl, hcs, hb, hl, hm, hmm, hx, hel⟩
  · cases hcs
    exact ⟨[], .inl ⟨rfl, _, _, rfl⟩, by simp, .inl rfl⟩
  · cases hcs
    have hd := (Prod.mk.inj hx).1
    subst hd
    have hlm : len ≤ m := by rw [hmm]; split <;> omega
    rw [ce] at hel
    obtain ⟨X, hX⟩ := Go.Deep.choose_lt (n := len) (α := Option Tr.Nd) (p := fun i o => ∃ x, o = some x ∧ (∀ j, j < 8 → W.cell? ((a.add (i * 8)).add j) = (Tr.ncells x)[j]?) ∧ x.kids ≤ 9223372036854775807 ∧ ((Lit.int .i8 x.kind).wf = true ∧ -9223372036854775808 ≤ x.n ∧ x.n ≤ 9223372036854775807) ∧ x.s.size ≤ maxLen ∧ x.s.size ∈ (D i).weights Tryz.prog 52 ∧ x.t.size ∈ (D i).weights Tryz.prog 52 ∧ x.u.size ∈ (D i).weights Tryz.prog 52) (fun i hi => by
      obtain ⟨cs', h1, h2⟩ := hel i (by omega)
      obtain ⟨_, hlen, hcell⟩ := World.cells?_some h1
      obtain ⟨x, rfl, r⟩ := node_open h2
      exact ⟨some x, x, rfl, hcell, r⟩)
    have hw : ∀ i, i < len → ∀ n ∈ (D i).weights Tryz.prog 52, n ∈ (DataW.slice ((List.range len).map D) ((List.range (m - len)).map fun j => D (len + j))).weights Tryz.prog 22 := by
      intro i hi n hn
      simp only [DataW.weights, tyNodes]
      refine List.mem_cons_of_mem _ (List.mem_append_left _ (weightsAll_mem (d := D i) ?_ n hn))
      exact List.mem_map.2 ⟨i, List.mem_range.2 hi, rfl⟩
    have hget : ∀ j x, ((List.range len).filterMap X)[j]? = some x → j < len ∧ X j = some x := by
      have key : ∀ N, N ≤ len → ((List.range N).filterMap X).length = N ∧ ∀ j x, ((List.range N).filterMap X)[j]? = some x → j < N ∧ X j = some x := by
        intro N
        induction N with
        | zero => intro _; exact ⟨rfl, by simp⟩
        | succ N ih =>
          intro hN
          obtain ⟨e1, e2⟩ := ih (by omega)
          obtain ⟨x, hx, _⟩ := hX N (by omega)
          rw [List.range_succ, List.filterMap_append, show [N].filterMap X = [x] by simp [hx]]
          refine ⟨by simp [e1], fun j y hy => ?_⟩
          by_cases hj : j < N
          · rw [List.getElem?_append_left (by omega)] at hy
            exact ⟨by omega, (e2 j y hy).2⟩
          · have hj2 : j = N := by
              have := (List.getElem?_eq_some_iff.1 hy).1
              simp [e1] at this; omega
            subst hj2
            rw [List.getElem?_append_right (by omega), e1] at hy
            simp at hy
            subst hy
            exact ⟨by omega, hx⟩
      exact (key len (Nat.le_refl _)).2
    have hlen : ((List.range len).filterMap X).length = len := by
      apply Nat.le_antisymm
      · have := List.length_filterMap_le X (List.range len); simpa using this
      · apply Nat.le_of_not_lt
        intro hlt
        have : ∀ N, N ≤ len → ((List.range N).filterMap X).length = N := by
          intro N
          induction N with
          | zero => intro _; rfl
          | succ N ih =>
            intro hN
            obtain ⟨x, hx, _⟩ := hX N (by omega)
            rw [List.range_succ, List.filterMap_append, show [N].filterMap X = [x] by simp [hx]]
            simp [ih (by omega)]
        have := this len (Nat.le_refl _)
        omega
    refine ⟨(List.range len).filterMap X, ?_, ?_, ?_⟩
    · by_cases h0 : len = 0
      · subst h0; exact .inl ⟨rfl, _, _, rfl⟩
      · obtain ⟨b, o, spot⟩ := a
        obtain ⟨x0, _, hc0, _⟩ := hX 0 (by omega)
        have c0 := hc0 0 (by omega)
        have hspot : spot = none := by simpa [Addr.add] using World.cell?_spot c0
        subst hspot
        refine .inr ⟨b, o, cap, by rw [hlen], by rw [hlen]; exact hl, ?_, fun j x hj i u hu => ?_⟩
        · have := World.block_lt_of_cell? W _ c0
          simpa [Addr.add] using this
        · obtain ⟨hjl, hXj⟩ := hget j x hj
          obtain ⟨x', e, hc, _⟩ := hX j hjl
          obtain rfl : x' = x := by rw [hXj] at e; exact (Option.some.inj e).symm
          have hi8 : i < 8 := by have := (List.getElem?_eq_some_iff.1 hu).1; simpa [Tr.ncells] using this
          have := hc i hi8
          rw [hu, add_plain, add_plain] at this
          exact this
    · intro x hx
      obtain ⟨j, hj⟩ := List.getElem?_of_mem hx
      obtain ⟨hjl, hXj⟩ := hget j x hj
      obtain ⟨x', e, _, r1, r0, r2, r3, r4, r5⟩ := hX j hjl
      obtain rfl : x' = x := by rw [hXj] at e; exact (Option.some.inj e).symm
      exact ⟨r1, r0, r2, hw j hjl _ r3, hw j hjl _ r4, hw j hjl _ r5⟩
    · refine .inr ⟨m, by rw [hlen]; exact hlm, ?_⟩
      simp only [DataW.weights, tyNodes, cb]
      refine List.mem_cons.2 (.inl ?_)
      simp; omega
end
end Go.Proofs.YtpikfdkgblghhaaGreatDoor
