/- What the document's Behind answers. What the document's Depths answers. The statements' own helpers on lists of nodes: likeness, the marks. The statements' own helpers on lists of nodes: how much there is. What the document's Kids, Deep and Equal answer; likeness of rows of ints. The document's Part: what it may change; a part behind a refusal; the places of kids. -/
import Derived.Test.YthihnkgjkmaplaaGreatDoorUbb
import Derived.Maps.AppendAt
import Derived.Test.YthihnkgjkmaplaaGreatDoorUbc
import Derived.Test.YthihnkgjkmaplaaGreatDoorUav
namespace Go.Proofs.YthihnkgjkmaplaaGreatDoor
open Go.RowKit
set_option maxRecDepth 100000
set_option linter.unusedSimpArgs false

theorem bhI_gs {l : List Tr.Nd} {k : Nat} (hk : k < l.length) : bhI l k = if (Tr.gs (Tr.kd (l.drop k)) 1 k).1 then (Tr.gs (Tr.kd (l.drop k)) 1 k).2 else 0 := by
  rw [bhI_go hk, Tr.go_gs]; rfl

set_option maxHeartbeats 2000000 in
theorem refBehind_any (l : List Tr.Nd) (hlen : l.length ≤ 5000) (v : Value) (at0 : Int) (w : World) (hl : IsNodes w v l) :
    Calls Tryz.prog 88 #[v, .int .i64 at0] w fun e w' => e = .returned (.int .i64 (bhI l at0 : Nat)) ∧ w' = w := by
  obtain ⟨a, c, rfl⟩ := hl.form
  by_cases hneg : at0 < 0
  · have HN : Aside (bhI l at0 = 0) := bhI_neg (.inl hneg)
    go_enter Tryz.func88, Tryz.ntmps88
    go_wp2_with fail
    go_ret
    rw [HN.out]; exact ⟨rfl, rfl⟩
  · have hneg' : decide (at0 < 0) = false := by simpa using hneg
    by_cases hge : (l.length : Int) ≤ at0
    · have HN : Aside (bhI l at0 = 0) := bhI_neg (.inr hge)
      go_enter Tryz.func88, Tryz.ntmps88
      go_wp2_with fail
      go_ret
      rw [HN.out]; exact ⟨rfl, rfl⟩
    · obtain ⟨k0, rfl⟩ : ∃ k : Nat, at0 = k := ⟨at0.toNat, by omega⟩
      have hk0 : k0 < l.length := by omega
      have hk2 : decide ((l.length : Int) ≤ (k0 : Int)) = false := by simp; omega
      have hk2n : (l.length ≤ k0) = False := by simp; omega
      have HG : Aside (bhI l k0 = if (Tr.gs (Tr.kd (l.drop k0)) 1 k0).1 then (Tr.gs (Tr.kd (l.drop k0)) 1 k0).2 else 0) := bhI_gs hk0
      clear hneg hge
      go_enter Tryz.func88, Tryz.ntmps88
      go_wp2_with fail
      have HK0 : Aside (k0 < l.length) := hk0
      clear hk2 hneg' hk0 hk2n
      go_loopg [1, 5] (l.length - k0) (fun g t u wr => w = wr ∧ ∃ k m : Nat, g = l.length - k ∧ k ≤ l.length ∧ t = .int .i64 (k : Int) ∧ u = .int .i64 (m : Int) ∧ m ≤ 1 + k * 5000 ∧ Aside (Tr.gs (Tr.kd (l.drop k0)) 1 k0 = Tr.gs (Tr.kd (l.drop k)) m k))
      case atStart => exact ⟨rfl, k0, 1, rfl, Nat.le_of_lt HK0.out, rfl, rfl, by omega, rfl⟩
      case round =>
        obtain ⟨rfl, k, m, hg, hk, rfl, rfl, hm, HK⟩ := hrel
        cases m with
        | zero =>
          have HR : Aside (bhI l k0 = k) := by show _ = _; rw [HG.out, HK.out, Tr.gs_zero]; rfl
          clear HK HG
          go_wp2_with fail
          go_ret
          rw [HR.out]; exact ⟨rfl, rfl⟩
        | succ m =>
          have hm0 : (0 : Int) < ((m + 1 : Nat) : Int) := by omega
          by_cases hkl : k < l.length
          · obtain ⟨x, hx, hdx⟩ := getc hkl
            obtain ⟨b1, o1, rfl, hlc, hb1, hcx⟩ := hl.at hx
            have c1 : w.cell? ⟨b1, o1 + k * 8 + 1, none⟩ = some (.int .i64 x.kids) := hcx 1 _ rfl
            have hkd : Tr.kd (l.drop k) = x.kids :: Tr.kd (l.drop (k + 1)) := Tr.drop_kd hx
            have hk1 : decide ((l.length : Int) ≤ (k : Int)) = false := by simp; omega
            have hk2 : (k : Int) < (l.length : Int) := by omega
            have hk3 : (0 : Int) ≤ (k : Int) := by omega
            by_cases hn : x.kids < 0
            · have HR : Aside (bhI l k0 = 0) := by show _ = _; rw [HG.out, HK.out, hkd, Tr.gs, if_pos hn]; rfl
              clear HK HG hkd hdx hcx hx hl
              go_wp2_with fail
              go_ret
              rw [HR.out]; exact ⟨rfl, rfl⟩
            · have hn' : decide (x.kids < 0) = false := by simpa using hn
              obtain ⟨d, hd⟩ : ∃ d : Nat, x.kids = d := ⟨x.kids.toNat, by omega⟩
              have HS : Aside (Tr.gs (Tr.kd (l.drop k0)) 1 k0 = Tr.gs (Tr.kd (l.drop (k + 1))) (m + d) (k + 1)) := by
                show _ = _; rw [HK.out, hkd, Tr.gs, if_neg hn, hd]; rfl
              rw [hd] at c1 hn'
              by_cases hbig : l.length < d
              · have HR : Aside (bhI l k0 = 0) := by
                  show _ = _
                  rw [HG.out, HS.out, if_neg]
                  rw [Tr.gs_many _ _ _ (by rw [Tr.kd_len, List.length_drop]; omega)]; decide
                have hbig' : (l.length : Int) < (d : Int) := by omega
                clear HK HG HS hkd hdx hcx hx hl hn hd
                go_wp2_with fail
                go_ret
                rw [HR.out]; exact ⟨rfl, rfl⟩
              · have hbig' : decide ((l.length : Int) < (d : Int)) = false := by simp; omega
                have hdl : d ≤ 5000 := by omega
                clear HK HG hkd hdx hcx hx hl hn hd
                go_wp2_with fail
                go_roundg (l.length - (k + 1))
                case measure => omega
                case rel => exact ⟨rfl, k + 1, m + d, rfl, by omega, by go_num, by go_num, by omega, HS⟩
          · have hke : k = l.length := by omega
            have HR : Aside (bhI l k0 = 0) := by show _ = _; rw [HG.out, HK.out, hke, List.drop_length]; rfl
            have hk1 : (l.length : Int) ≤ (k : Int) := by omega
            clear HK HG hke
            go_wp2_with fail
            go_ret
            rw [HR.out]; exact ⟨rfl, rfl⟩
end Go.Proofs.YthihnkgjkmaplaaGreatDoor
namespace Go.Proofs.YthihnkgjkmaplaaGreatDoor
open Go.RowKit
set_option maxRecDepth 100000
set_option linter.unusedSimpArgs false

/-- Two rows of the call's own lie apart. -/
def Sep (a b : Value) : Prop := a.ownBlock = none ∨ a.ownBlock ≠ b.ownBlock
theorem Sep.symm {a b : Value} (h : Sep a b) : Sep b a := by
  unfold Sep at *
  by_cases e : b.ownBlock = none
  · exact .inl e
  · rcases h with h | h
    · exact .inr (by rw [h]; exact e)
    · exact .inr (fun e => h e.symm)
theorem Sep.grow {a a' b : Value} {N : Nat} (h : Sep a b) (hb : ∀ x, b.ownBlock = some x → x < N) (ha : a'.ownBlock = a.ownBlock ∨ a'.ownBlock = some N) : Sep a' b := by
  unfold Sep at *
  rcases ha with ha | ha
  · rw [ha]; exact h
  · exact .inr (fun e => by have := hb N (by rw [← e, ha]); omega)
theorem sep_set {w : World} {base e size n : Nat} {v : Value} {xs : List Value} {b o : Nat} {u : Value} (h : w.ownsRow base e size v n xs) (hs : v.ownBlock = none ∨ v.ownBlock ≠ some b) : (w.setCell ⟨b, o, none⟩ u).ownsRow base e size v n xs :=
  h.kept (row := some b) (grownBy_set (grownBy_refl _ _) u) hs

theorem app_step {w w1 w3 : World} {o : Obj} {v1 v2 v3 : Value} {n1 n2 : Nat} {xs1 xs2 : List Value} (hB : Below w.heap.size w w1) (h1 : w1.ownsRow w.heap.size 3 1 v1 n1 xs1) (h2 : w1.ownsRow w.heap.size 3 1 v2 n2 xs2) (hs : Sep v1 v2)
    (hg : (w1.alloc o).grownBy w3 v1.ownBlock) (hloc : v3.ownBlock = v1.ownBlock ∨ v3.ownBlock = some (w1.alloc o).heap.size) : w3.ownsRow w.heap.size 3 1 v2 n2 xs2 ∧ Sep v3 v2 ∧ Below w.heap.size w w3 ∧ w1.heap.size ≤ w3.heap.size :=
  ⟨(h2.alloc o).kept hg hs.symm, hs.grow (fun x e => by have := (h2.lt x e).2; simp; omega) hloc, hB.grown (grownBy_alloc_pre hg) hB.size (fun x e => (h1.lt x e).1), (grownBy_alloc_pre hg).size⟩

set_option maxHeartbeats 8000000 in
theorem refDepths_any (l : List Tr.Nd) (hlen : l.length ≤ 5000) (hwf : ∀ x ∈ l, x.kids ≤ 9223372036854775807) (v : Value) (w : World) (hl : IsNodes w v l) :
    Calls Tryz.prog 86 #[v] w fun e w' => ∃ r, e = .returned (.tuple #[r, .int .i64 ((Tr.dps (Tr.kd l) [1]).length : Int)]) ∧ w'.ownsRow w.heap.size 3 1 r (Tr.dps (Tr.kd l) [1]).length (icells (Tr.dps (Tr.kd l) [1])) ∧ Below w.heap.size w w' := by
  obtain ⟨a, c, rfl⟩ := hl.form
  obtain ⟨i0, hi, hz0, hz1, hz2⟩ := info_parts info3
  go_enter Tryz.func86, Tryz.ntmps86
  go_wp2_with fail
  go_loopg [4, 5, 6] l.length (fun g v1 v2 t wr => ∃ (k : Nat) (ds st : List Nat), k + g = l.length ∧ t = .int .i64 (k : Int) ∧ ds.length = k ∧ st.length ≤ k + 1 ∧ wr.ownsRow w.heap.size 3 1 v1 ds.length (icells ds) ∧ wr.ownsRow w.heap.size 3 1 v2 st.length (Tr.row st) ∧ Sep v1 v2 ∧ Below w.heap.size w wr ∧ (∀ m ∈ st, m ≤ 9223372036854775807) ∧ Aside (Tr.dps (Tr.kd l) [1] = ds ++ Tr.dps (Tr.kd (l.drop k)) st))
  case atStart =>
    refine ⟨0, [], [1], by omega, rfl, rfl, by simp, own_nil _ _ _ _, own_lit w (Tr.row [1]) 3 (by decide), .inl rfl, (Below.refl _ _).alloc (Nat.le_refl _) _, by simp, rfl⟩
  case round =>
    obtain ⟨k, ds, st, hkg, rfl, hdk, hst, hown1, hown2, hsep, hB, hmx, HD⟩ := hrel
    obtain ⟨a1, c1, rfl⟩ := own_len hown1
    obtain ⟨a2, c2, rfl⟩ := own_len hown2
    have HDK : Aside (ds.length = k) := hdk
    clear hdk
    by_cases hk : k < l.length
    · have hk' : (k : Int) < (l.length : Int) := by omega
      go_wp2_with fail
      go_loopg [5] st.length (fun g v2 w2 => wr = w2 ∧ ∃ st' : List Nat, g = st'.length ∧ st'.length ≤ k + 1 ∧ wr.ownsRow w.heap.size 3 1 v2 st'.length (Tr.row st') ∧ Sep (.slice a1 ds.length c1) v2 ∧ (∀ m ∈ st', m ≤ 9223372036854775807) ∧ Aside (Tr.dps (Tr.kd l) [1] = ds ++ Tr.dps (Tr.kd (l.drop k)) st'))
      case atStart => exact ⟨rfl, st, rfl, hst, hown2, hsep, hmx, HD⟩
      case round =>
        obtain ⟨rfl, st', hg', hst', hown3, hsep3, hmx3, HD3⟩ := hrel
        clear hown2 hsep hmx HD hst
        cases st' with
        | nil =>
          obtain ⟨va, vc, rfl⟩ := own_len hown3
          have HR : Aside (Tr.dps (Tr.kd l) [1] = ds) := by show _ = _; rw [HD3.out, Tr.dps_done rfl, List.append_nil]
          clear HD3
          go_wp2_with fail
          go_ret2
          refine ⟨.slice a1 ds.length c1, ?_, by rw [HR.out]; exact hown1, hB⟩
          rw [HR.out, HDK.out]
          rfl
        | cons m st' =>
          rw [Tr.row_cons] at hown3
          obtain ⟨b, cap, hv, hcap, hbg, hcell⟩ := own_cells hown3 (by simp)
          simp only [List.length_cons] at hcap hown3 hst' hg' hv
          subst hv
          have hbl : b < wr.heap.size := (hown3.lt b rfl).2
          have c0 : wr.cell? ⟨b, st'.length, none⟩ = some (.int .i64 (m : Int)) := by
            rw [hcell st'.length (by simp), List.getElem?_append_right (by rw [Tr.row_len]; exact Nat.le_refl _), Tr.row_len]; simp
          have f0 : wr.frozen? ⟨b, st'.length, none⟩ = false := hown3.frozenAt _
          have hc2 : (0 : Int) ≤ (st'.length : Int) := by omega
          have hc3 : (st'.length : Int) ≤ (cap : Int) := by omega
          have hs0 : st'.length ≤ 5000 := by omega
          have hm9 := hmx3 m (by simp)
          have hm8 : ∀ x ∈ st', x ≤ 9223372036854775807 := fun x hx => hmx3 x (by simp [hx])
          clear hcell hmx3
          cases m with
          | zero =>
            have hpop := ownsRow_pop (by rw [Tr.row_len]; simp) hown3
            have HD4 : Aside (Tr.dps (Tr.kd l) [1] = ds ++ Tr.dps (Tr.kd (l.drop k)) st') := by show _ = _; rw [HD3.out, Tr.dps_pop]
            go_wp2_with fail
            go_roundg st'.length
            case measure => omega
            case rel => exact ⟨rfl, st', rfl, by omega, hpop, hsep3, hm8, HD4⟩
          | succ m =>
            have hm0 : ((((m + 1 : Nat) : Int)) == 0) = false := by simp; omega
            obtain ⟨x, hx, hdx⟩ := getc hk
            obtain ⟨b1, o1, rfl, hlc, hb1, hcx⟩ := (hl.below hB).at hx
            have hx1 : wr.cell? ⟨b1, o1 + k * 8 + 1, none⟩ = some (.int .i64 x.kids) := hcx 1 _ rfl
            have hkb : b1 ≠ b := by have : b1 < w.heap.size := by obtain ⟨b2, o2, e, _, h2, _⟩ := hl.at hx; cases e; exact h2
                                    omega
            have hk2 : (0 : Int) ≤ (k : Int) := by omega
            have HD4 : Aside (Tr.dps (Tr.kd l) [1] = (ds ++ [st'.length + 1]) ++ Tr.dps (Tr.kd (l.drop (k + 1))) (x.kids.toNat :: m :: st')) := by
              show _ = _
              rw [HD3.out, Tr.drop_kd hx, Tr.dps_next (by simp [Tr.popz])]; simp [Tr.popz, Tr.nxt, Tr.dec]
            have hkx := hwf x (List.mem_of_getElem? hx)
            have hmxx : ((x.kids.toNat : Nat) : Int) = max x.kids 0 := by omega
            have hB1 : Below w.heap.size w (wr.setCell ⟨b, st'.length, none⟩ (.int .i64 (m : Int))) := hB.setCell hbg _
            have hownS : (wr.setCell ⟨b, st'.length, none⟩ (.int .i64 (m : Int))).ownsRow w.heap.size 3 1 (.slice (some ⟨b, 0, none⟩) (st'.length + 1) cap) (st'.length + 1) (Tr.row (m :: st')) := by
              have := (hown3.stored st'.length (.int .i64 (m : Int))).1
              rw [Tr.row_cons]
              simpa [List.set_append_right, Tr.row_len] using this
            have hownO : (wr.setCell ⟨b, st'.length, none⟩ (.int .i64 (m : Int))).ownsRow w.heap.size 3 1 (.slice a1 ds.length c1) ds.length (icells ds) := sep_set hown1 hsep3
            have hsz1 : (wr.setCell ⟨b, st'.length, none⟩ (.int .i64 (m : Int))).heap.size = wr.heap.size := by simp [World.setCell]
            have hws : w.heap.size ≤ wr.heap.size := hB.size
            have hkl5 : k ≤ 5000 := by omega
            have hds5 : ds.length ≤ 5000 := by have := HDK.out; omega
            generalize hW1 : wr.setCell ⟨b, st'.length, none⟩ (.int .i64 (m : Int)) = w1 at *
            have hws1 : w.heap.size ≤ w1.heap.size := by rw [hsz1]; exact hws
            clear hown1 hcx hdx HD3 hown3 hsz1
            go_upto_region 12 with (at_builtin; go_must (refine wpList_append_own_at _ rfl _ _ 93 rfl w.heap.size 3 i0 (.int .i64 0) 1 8 tyInts hi hz0 hz1 hz2 rfl (by decide) (.slice a1 ds.length c1) _ _ rfl (hownO.alloc _) ⟨w1.heap.size, 0, none⟩ 1 1 [.int .i64 ((st'.length : Int) + 1)] rfl rfl (cells_list_new _ [.int .i64 ((st'.length : Int) + 1)] 3) (fun u hu => by simp at hu; subst hu; rfl) (by unfold maxLen; omega) (by omega) (by simp; omega) ?_); intro v3 w3 hown4 hg4 _ hloc4; obtain ⟨hS4, hsep4, hB4, hz4⟩ := app_step hB1 hownO hownS hsep3 hg4 hloc4; obtain ⟨a3, c3, hv3⟩ := own_len hown4; subst hv3)
            have hx4 : w3.cell? ⟨b1, o1 + k * 8 + 1, none⟩ = some (.int .i64 x.kids) := by
              obtain ⟨b2, o2, e, _, _, h2⟩ := (hl.below hB4).at hx
              cases e; exact h2 1 _ rfl
            have hws3 : w.heap.size ≤ w3.heap.size := hB4.size
            clear hg4 hloc4 hownO hownS hsep3 hB1 hx1 c0 f0
            go_wp2_with (at_builtin; go_must (refine wpList_append_own_at _ rfl _ _ 93 rfl w.heap.size 3 i0 (.int .i64 0) 1 8 tyInts hi hz0 hz1 hz2 rfl (by decide) (.slice (some ⟨b, 0, none⟩) (st'.length + 1) cap) _ _ rfl (hS4.alloc _) ⟨w3.heap.size, 0, none⟩ 1 1 [.int .i64 (max x.kids 0)] rfl rfl (cells_list_new _ [.int .i64 (max x.kids 0)] 3) (fun u hu => by simp at hu; subst hu; rfl) (by unfold maxLen; omega) (by omega) (by simp; omega) ?_); intro v5 w5 hown5 hg5 _ hloc5; obtain ⟨hS5, hsep5, hB5, hz5⟩ := app_step hB4 hS4 hown4 hsep4.symm hg5 hloc5)
            go_roundg (l.length - (k + 1))
            case measure => omega
            case rel =>
              refine ⟨k + 1, ds ++ [st'.length + 1], x.kids.toNat :: m :: st', by omega, by go_num, by have := HDK.out; simp; omega, by simp; omega, ?_, ?_, hsep5.symm, hB5, ?_, HD4⟩
              · rw [icells_append]; simpa [icells] using hS5
              · rw [Tr.row_cons, hmxx]; exact hown5
              · intro y hy
                simp only [List.mem_cons] at hy
                rcases hy with rfl | rfl | hy
                · omega
                · omega
                · exact hm8 y hy
    · have hk' : ¬ (k : Int) < (l.length : Int) := by omega
      have HKE : Aside (k = l.length) := by show _ = _; omega
      have HR : Aside (Tr.dps (Tr.kd l) [1] = ds) := by show _ = _; rw [HD.out, HKE.out, List.drop_length]; simp [Tr.kd, Tr.dps]
      clear HD
      go_wp2_with fail
      go_ret2
      refine ⟨.slice a1 ds.length c1, ?_, by rw [HR.out]; exact hown1, hB⟩
      rw [HR.out, HDK.out, HKE.out]
      rfl
end Go.Proofs.YthihnkgjkmaplaaGreatDoor
namespace Go.Proofs.YthihnkgjkmaplaaGreatDoor
open Go.RowKit
set_option maxRecDepth 100000
set_option linter.unusedSimpArgs false

set_option maxHeartbeats 4000000 in
theorem eqNodes_same (l : List Tr.Nd) (hlen : l.length ≤ 2199023255552) (va vb : Value) (w : World) (hla : IsNodes w va l) (hlb : IsNodes w vb l) :
    Calls Tryz.prog 14 #[va, vb] w fun e w' => e = .returned (.bool true) ∧ ∃ n, w' = w.drewN n := by
  obtain ⟨a, c, rfl⟩ := hla.form
  obtain ⟨a2, c2, rfl⟩ := hlb.form
  have hne : ((l.length : Int) != (l.length : Int)) = false := by simp
  go_enter Tryz.func14, Tryz.ntmps14
  go_wp2_with fail
  clear hne
  go_loopg [5] l.length (fun g t wr => ∃ k n : Nat, k + g = l.length ∧ t = .int .i64 (k : Int) ∧ wr = w.drewN n)
  case atStart => exact ⟨0, 0, by omega, rfl, rfl⟩
  case round =>
    obtain ⟨k, n, hkg, rfl, rfl⟩ := hrel
    by_cases hk : k < l.length
    · have hk' : (k : Int) < (l.length : Int) := by omega
      have hk0 : (0 : Int) ≤ (k : Int) := by omega
      obtain ⟨x, hx, hdx⟩ := getc hk
      obtain ⟨b1, o1, rfl, hc1, hl1, hcx⟩ := hla.at hx
      obtain ⟨b2, o2, rfl, hc2, hl2, hcy⟩ := hlb.at hx
      obtain ⟨p0, p1, p2, p3, p4, p5, p6, p7⟩ := agg_cells (o := o1 + k * 8) hcx
      obtain ⟨q0, q1, q2, q3, q4, q5, q6, q7⟩ := agg_cells (o := o2 + k * 8) hcy
      clear hcx hcy hdx hx hla hlb
      go_wp2_with fail
      go_quiet (fail)
      go_wp2_with fail
      go_roundg (l.length - (k + 1))
      case measure => omega
      case rel => exact ⟨k + 1, _, by omega, by go_num, by first | rfl | exact World.drewN_drewN⟩
    · have hk' : ¬ (k : Int) < (l.length : Int) := by omega
      go_wp2_with fail
      go_ret
      exact ⟨rfl, n, rfl⟩

set_option maxHeartbeats 4000000 in
theorem spareNodes_any (l : List Tr.Nd) (hlen : l.length ≤ 2147483647) (g : Nat) (w : World) (hW : Wide w g l) :
    Calls Tryz.prog 15 #[.slice (some ⟨g, 0, none⟩) l.length (l.length + 64)] w fun e w' => e = .returned (.bool true) ∧ Below w.heap.size w w' := by
  have hn64 : (l.length : Int) + 64 ≤ ((l.length + 64 : Nat) : Int) := by omega
  have hn0 : (0 : Int) ≤ (l.length : Int) + 64 := by omega
  have hcast : ((l.length : Int) + 64).toNat = l.length + 64 := by omega
  go_enter Tryz.func15, Tryz.ntmps15
  go_wp2_with fail
  go_loopg [4] 64 (fun gg t wr => ∃ k : Nat, k + gg = l.length + 64 ∧ l.length ≤ k ∧ t = .int .i64 (k : Int) ∧ Below w.heap.size w wr)
  case atStart => exact ⟨l.length, by omega, by omega, rfl, Below.refl _ _⟩
  case round =>
    obtain ⟨k, hkg, hlk, rfl, hB⟩ := hrel
    by_cases hk : k < l.length + 64
    · have hk' : (k : Int) < ((l.length : Int) + 64) := by omega
      have hk0 : (0 : Int) ≤ (k : Int) := by omega
      have hcx := (hW.below hB).cells hk
      rw [wdN_out hlk] at hcx
      have p0 : wr.cell? ⟨g, k * 8, none⟩ = some (.int .i8 0) := hcx 0 _ rfl
      have p1 : wr.cell? ⟨g, k * 8 + 1, none⟩ = some (.int .i64 (1048576 * 9 + (k : Int) + 1)) := hcx 1 _ rfl
      have p2 : wr.cell? ⟨g, k * 8 + 2, none⟩ = some (.int .i64 0) := hcx 2 _ rfl
      have p3 : wr.cell? ⟨g, k * 8 + 3, none⟩ = some (.string ⟨#[]⟩) := hcx 3 _ rfl
      have p4 : wr.cell? ⟨g, k * 8 + 4, none⟩ = some (.string ⟨#[]⟩) := hcx 4 _ rfl
      have p5 : wr.cell? ⟨g, k * 8 + 5, none⟩ = some (.string ⟨#[]⟩) := hcx 5 _ rfl
      have p6 : wr.cell? ⟨g, k * 8 + 6, none⟩ = some (.int .i64 0) := hcx 6 _ rfl
      have p7 : wr.cell? ⟨g, k * 8 + 7, none⟩ = some (.int .i64 0) := hcx 7 _ rfl
      have hnum : ∀ w, Calls Tryz.prog 21 #[.int .i64 9, .int .i64 k] w fun e w' => e = .returned (.int .i64 (9437184 + (k : Int) + 1)) ∧ w' = w := num_any 9 k (by omega) (by omega)
      have hws := hB.size
      clear hcx hW
      go_wp2_with fail
      go_quiet ((go_at_call 21; exact Calls.quiet_of_same (hnum _)))
      go_wp2_with fail
      go_roundg (l.length + 64 - (k + 1))
      case measure => omega
      case rel => exact ⟨k + 1, by omega, by omega, by go_num, below_drewN (hB.alloc hws _) _⟩
    · have hk' : ¬ (k : Int) < ((l.length : Int) + 64) := by omega
      go_wp2_with fail
      go_ret
      exact ⟨rfl, hB⟩
end Go.Proofs.YthihnkgjkmaplaaGreatDoor
namespace Go.Proofs.YthihnkgjkmaplaaGreatDoor
open Go.RowKit
set_option maxRecDepth 100000
set_option linter.unusedSimpArgs false

/-- The texts of a list are no longer than what fits into memory. -/
def Texts (l : List Tr.Nd) : Prop := ∀ x ∈ l, x.s.size ≤ 140737488355328 ∧ x.t.size ≤ 140737488355328 ∧ x.u.size ≤ 140737488355328

end Go.Proofs.YthihnkgjkmaplaaGreatDoor
namespace Go.Proofs.YthihnkgjkmaplaaGreatDoor
open Go.RowKit
set_option maxRecDepth 100000
set_option linter.unusedSimpArgs false

set_option maxHeartbeats 4000000 in
theorem refKids_any (l : List Tr.Nd) (hlen : l.length ≤ 5000) (v : Value) (at0 : Int) (w : World) (hl : IsNodes w v l) :
    Calls Tryz.prog 91 #[v, .int .i64 at0] w fun e w' => ∃ r, e = .returned r ∧ w'.ownsRow w.heap.size 3 1 r (kidsN l at0).length (icells (kidsN l at0)) ∧ Below w.heap.size w w' := by
  obtain ⟨a, c, rfl⟩ := hl.form
  obtain ⟨i0, hi, hz0, hz1, hz2⟩ := info_parts info3
  have hb1 := refBehind_any l hlen _ at0 w hl
  by_cases h0 : bhI l at0 = 0
  · have HN : Aside (kidsN l at0 = []) := by show _ = _; unfold kidsN; rw [if_pos h0]
    rw [h0] at hb1
    clear h0
    go_enter Tryz.func91, Tryz.ntmps91
    go_wp2_with (go_at_call 88; refine hb1.mono ?_; rintro e w1 ⟨rfl, hw1⟩; replace hw1 := hw1.symm; subst hw1)
    go_ret
    rw [HN.out]
    exact ⟨_, rfl, own_nil _ _ _ _, Below.refl _ _⟩
  · have hat : 0 ≤ at0 := by
      apply Int.not_lt.1
      intro h
      exact h0 (bhI_neg (.inl h))
    obtain ⟨p, rfl⟩ : ∃ p : Nat, at0 = p := ⟨at0.toNat, by omega⟩
    obtain ⟨x, n, f1, f2, f3, f4, f5, f6, f7⟩ := part_facts (l := l) (p := p) h0
    have hpl : p < l.length := (List.getElem?_eq_some_iff.1 f1).1
    obtain ⟨b1, o1, rfl, hlc, hbl, hcx⟩ := hl.at f1
    have c1 : w.cell? ⟨b1, o1 + p * 8 + 1, none⟩ = some (.int .i64 (n : Int)) := by rw [← f2]; exact hcx 1 _ rfl
    have hz : ((bhI l p : Int) == 0) = false := by simp; omega
    have hp0 : (0 : Int) ≤ (p : Int) := by omega
    have hp1 : (p : Int) < (l.length : Int) := by omega
    have HKN : Aside (kidsN l p = (List.range n).map (Tr.kidAt l p)) := f3
    have HKA : Aside (∀ k, k < n → Tr.kidAt l p k < Tr.kidAt l p (k + 1) ∧ Tr.kidAt l p (k + 1) ≤ bhI l p ∧ Tr.kidAt l p (k + 1) = bhI l (Tr.kidAt l p k)) := f7
    have HK0 : Aside (Tr.kidAt l p 0 = p + 1) := f6
    have hn5 : n ≤ 5000 := by
      have key : ∀ k, k ≤ n → p + 1 + k ≤ Tr.kidAt l p k := by
        intro k
        induction k with
        | zero => intro _; rw [f6]; omega
        | succ k ih => intro h; have := (f7 k (by omega)).1; have := ih (by omega); omega
      have := key n (Nat.le_refl _)
      omega
    have hend : bhI l p ≤ l.length := f5
    clear h0 f1 f2 f3 f4 f5 f6 f7 hcx hat
    generalize bhI l p = e0 at *
    go_enter Tryz.func91, Tryz.ntmps91
    go_wp2_with (go_at_call 88; refine hb1.mono ?_; rintro e w1 ⟨rfl, hw1⟩; replace hw1 := hw1.symm; subst hw1)
    clear hb1 hz
    go_loopg [5, 7, 8] n (fun g v5 s7 s8 wr => ∃ k : Nat, k + g = n ∧ s7 = .int .i64 (Tr.kidAt l p k : Int) ∧ s8 = .int .i64 (k : Int) ∧ wr.ownsRow w.heap.size 3 1 v5 k (icells ((List.range k).map (Tr.kidAt l p))) ∧ Below w.heap.size w wr)
    case atStart => exact ⟨0, by omega, by rw [HK0.out]; go_num, rfl, own_nil _ _ _ _, Below.refl _ _⟩
    case round =>
      obtain ⟨k, hkg, rfl, rfl, hown, hB⟩ := hrel
      have c2 : wr.cell? ⟨b1, o1 + p * 8 + 1, none⟩ = some (.int .i64 (n : Int)) := (hB.cell (p := ⟨b1, o1 + p * 8 + 1, none⟩) hbl).trans c1
      obtain ⟨va, vc, rfl⟩ := own_len hown
      have hws := hB.size
      by_cases hk : k < n
      · have hk' : (k : Int) < (n : Int) := by omega
        obtain ⟨g1, g2, g3⟩ := HKA.out k hk
        have HG3 : Aside (Tr.kidAt l p (k + 1) = bhI l (Tr.kidAt l p k)) := g3
        have hb2 : ∀ w3, Below w.heap.size w w3 → Calls Tryz.prog 88 #[.slice (some ⟨b1, o1, none⟩) l.length c, .int .i64 (Tr.kidAt l p k : Int)] w3 fun e w' => e = .returned (.int .i64 (Tr.kidAt l p (k + 1) : Int)) ∧ w' = w3 := fun w3 h3 => by
          have := refBehind_any l hlen _ (Tr.kidAt l p k : Int) w3 (hl.below h3)
          rw [← g3] at this
          exact this
        have HAP : Aside (icells ((List.range (k + 1)).map (Tr.kidAt l p)) = icells ((List.range k).map (Tr.kidAt l p)) ++ [.int .i64 (Tr.kidAt l p k : Int)]) := by
          show _ = _
          rw [List.range_succ, List.map_append, icells_append]; rfl
        clear g1 g2 g3 HKA
        generalize Tr.kidAt l p k = pk at *
        generalize hpn : Tr.kidAt l p (k + 1) = pn at *
        have HPN : Aside (Tr.kidAt l p (k + 1) = pn) := hpn
        clear hpn
        go_wp2_with (first | (at_builtin; go_must (refine wpList_append_own _ rfl _ _ 93 rfl w.heap.size 3 i0 (.int .i64 0) 1 8 tyInts hi hz0 hz1 hz2 rfl (by decide) (.slice va k vc) _ _ rfl (hown.alloc _) ⟨wr.heap.size, 0, none⟩ 1 1 [.int .i64 (pk : Int)] rfl rfl (cells_list_new _ [.int .i64 (pk : Int)] 3) (fun u hu => by simp at hu; subst hu; rfl) (by unfold maxLen; omega) (by omega) (by simp; omega) ?_); intro v3 w3 hown3 hg3 _; have hB3 : Below w.heap.size w w3 := hB.grown (grownBy_alloc_pre hg3) hws (fun y e => (hown.lt y e).1)) | (go_at_call 88; refine (hb2 _ hB3).mono ?_; rintro e w4 ⟨rfl, hw4⟩; replace hw4 := hw4.symm; subst hw4))
        go_roundg (n - (k + 1))
        case measure => omega
        case rel => exact ⟨k + 1, by omega, by rw [HPN.out], by go_num, by rw [HAP.out]; exact hown3, hB3⟩
      · have hk' : ¬ (k : Int) < (n : Int) := by omega
        have HKE : Aside (k = n) := by show _ = _; omega
        go_wp2_with fail
        go_ret
        refine ⟨_, rfl, ?_, hB⟩
        rw [HKN.out, List.length_map, List.length_range, ← HKE.out]
        exact hown

theorem deepN_is {l : List Tr.Nd} (h : bhI l 0 = l.length) (hp : 0 < l.length) : deepN l = Tr.mx (Tr.dps (Tr.kd l) [1]) 0 := by
  unfold deepN
  rw [h, if_neg (by omega)]
theorem deepN_no {l : List Tr.Nd} (h : bhI l 0 ≠ l.length) (hp : 0 < l.length) : deepN l = 0 := by
  unfold deepN
  by_cases h0 : bhI l 0 = 0
  · rw [if_pos (.inl h0)]
  · obtain ⟨x, n, _, _, _, _, h5, _⟩ := part_facts (l := l) (p := 0) (by simpa using h0)
    have h5' : bhI l 0 ≤ l.length := by simpa using h5
    rw [if_pos (.inr (by omega))]
theorem dps_len : ∀ (ks : List Int) (st : List Nat) (N : Nat), st.length + ks.length ≤ N → ∀ d ∈ Tr.dps ks st, d ≤ N
  | [], st, N, _, d, hd => by simp [Tr.dps] at hd
  | k :: ks, st, N, h, d, hd => by
    have h1 := Tr.popz_len st
    rw [Tr.dps] at hd
    split at hd
    · simp at hd
    · rcases List.mem_cons.1 hd with rfl | hd
      · simp at h; omega
      · exact dps_len ks _ N (by rw [Tr.nxt, List.length_cons, Tr.dec_len]; simp at h; omega) d hd
theorem dps_small (l : List Tr.Nd) (h : l.length ≤ 5000) : ∀ d ∈ Tr.dps (Tr.kd l) [1], d ≤ 5001 := dps_len _ _ _ (by rw [Tr.kd_len]; simp; omega)
theorem mx_at {D : List Nat} {k d a : Nat} (h : D[k]? = some d) : Tr.mx (D.drop k) a = Tr.mx (D.drop (k + 1)) (max a d) := by
  obtain ⟨hk, rfl⟩ := List.getElem?_eq_some_iff.1 h
  rw [List.drop_eq_getElem_cons hk, Tr.mx]

end Go.Proofs.YthihnkgjkmaplaaGreatDoor
namespace Go.Proofs.YthihnkgjkmaplaaGreatDoor
open Go.RowKit Ck
open T3.Tp (Ty enc cns met)
open Tr (T Nd nm flat flats)
set_option maxRecDepth 100000
set_option linter.unusedSimpArgs false
set_option linter.unusedVariables false

abbrev rowT (tb : Nat) (l : List Nd) : Value := .slice (some ⟨tb, 0, none⟩) l.length l.length
/-- The tree, and the row of its types. -/
structure Kst (w : World) (cb tb : Nat) (nv : Value) (l : List Nd) : Prop where
  no : IsNodes w nv l
  all : ∃ xs, w.ownsRow 0 9 1 (rowT tb l) l.length xs
  of : ∀ b o n c, nv = .slice (some ⟨b, o, none⟩) n c → b ≠ cb ∧ b ≠ tb
  ne : cb ≠ tb
theorem Kst.lt {w : World} {cb tb : Nat} {nv : Value} {l : List Nd} (h : Kst w cb tb nv l) : tb < w.heap.size := by
  obtain ⟨xs, ho⟩ := h.all
  exact (ho.lt tb rfl).2
theorem Kst.two {w w' : World} {cb tb : Nat} {nv : Value} {l : List Nd} (h : Kst w cb tb nv l) (k : Two cb tb w w') (ha : ∃ xs, w'.ownsRow 0 9 1 (rowT tb l) l.length xs) : Kst w' cb tb nv l := by
  refine ⟨?_, ha, h.of, h.ne⟩
  rcases h.no with h1 | ⟨g, o, c, rfl, h1, h2, h3⟩
  · exact .inl h1
  · obtain ⟨a1, a2⟩ := h.of g o _ c rfl
    exact .inr ⟨g, o, c, rfl, h1, Nat.lt_of_lt_of_le h2 k.size, fun j x hj i u hu => (k.cell (p := ⟨g, o + j * 8 + i, none⟩) h2 a1 a2).trans (h3 j x hj i u hu)⟩
/-- Where the checker's block alone has changed. -/
theorem Kst.one {w w' : World} {cb tb : Nat} {nv : Value} {l : List Nd} (h : Kst w cb tb nv l) (k : Two cb cb w w') : Kst w' cb tb nv l := by
  refine h.two ⟨k.os, k.tape, k.output, k.size, fun j hj ha _ => k.block j hj ha ha⟩ ?_
  obtain ⟨xs, ho⟩ := h.all
  have hb : w'.heap[tb]? = w.heap[tb]? := k.block tb h.lt (fun e => h.ne e.symm) (fun e => h.ne e.symm)
  obtain ⟨h0, ⟨h1, h2⟩ | ⟨g, cap, cur, h1, h2, h3, h4⟩⟩ := ho
  · cases h1
  · cases h1
    exact ⟨xs, h0, .inr ⟨tb, l.length, cur, rfl, h2, hb.trans h3, h4⟩⟩
theorem Kst.below {w w' : World} {cb tb : Nat} {nv : Value} {l : List Nd} (h : Kst w cb tb nv l) (k : Below w.heap.size w w') : Kst w' cb tb nv l := h.one (below_two k cb cb)
/-- An environment that is not among what changes. -/
structure Eo8 (w : World) (cb tb : Nat) (ev : Value) (env : Env) : Prop where
  e : IsEnv w ev env
  cap : ∀ a m c, ev = .slice a m c → m ≤ c
  of : ∀ b o n c, ev = .slice (some ⟨b, o, none⟩) n c → b ≠ cb ∧ b ≠ tb
theorem Eo8.two {w w' : World} {cb tb : Nat} {ev : Value} {env : Env} (h : Eo8 w cb tb ev env) (k : Two cb tb w w') : Eo8 w' cb tb ev env := by
  refine ⟨?_, h.cap, h.of⟩
  obtain ⟨a, c, rfl, hc⟩ := h.e
  refine ⟨a, c, rfl, fun hne => ?_⟩
  obtain ⟨b, o, rfl, hb, hx⟩ := hc hne
  obtain ⟨a1, a2⟩ := h.of b o _ c rfl
  exact ⟨b, o, rfl, Nat.lt_of_lt_of_le hb k.size, fun j u hu => (k.cell (p := ⟨b, o + j, none⟩) hb a1 a2).trans (hx j u hu)⟩
/-- How Part ends: m nodes from i on. -/
def KpEnd (w : World) (cb tb : Nat) (nv : Value) (l : List Nd) (sm : Bool) (a0 : Int) (i m : Nat) (R : Rs (List Ty)) (en : Ending) (w' : World) : Prop :=
  en = .returned (.tuple #[]) ∧ Two cb tb w w' ∧ Kst w' cb tb nv l ∧ KC w' cb tb l.length nv (cdE R) (cdA a0 R) sm ∧ (∀ k, (k < i ∨ i + m ≤ k) → w'.cell? ⟨tb, k, none⟩ = w.cell? ⟨tb, k, none⟩) ∧
    ∀ ts, R = .ok ts → ∀ j t, ts[j]? = some t → w'.cell? ⟨tb, i + j, none⟩ = some (.string (S (enc t)))
set_option maxHeartbeats 1000000 in
/-- Behind a refusal nothing is done. -/
theorem kpart_old {w : World} {cb tb n : Nat} {nV : Value} {e0 a0 : Int} {sm : Bool} (h : KC w cb tb n nV e0 a0 sm) (h0 : e0 ≠ 0) (i : Int) (ev : Value) :
    Calls Tryz.prog 60 #[.pointer (some ⟨cb, 0, none⟩), .int .i64 i, ev] w fun e w' => e = .returned (.tuple #[]) ∧ w' = w := by
  have c2 : w.cell? ⟨cb, 2, none⟩ = some (.int .i64 e0) := h.er
  have h1 : (e0 != 0) = true := by simpa using h0
  clear h
  go_enter Tryz.func60, Tryz.ntmps60
  go_wp2_with fail
  refine bodyPost_ret (results_none rfl _ _ _) rfl ?_
  exact ⟨rfl, rfl⟩
/-- The places of kids that lie from p on. -/
def plc (ks : List T) (p : Nat) : List Nat := (List.range ks.length).map fun k => p + (flats (ks.take k)).length
theorem kids_tree {l rest : List Nd} {p : Nat} {x : Nd} {ks : List T} (hw : Tr.wf (.nd x ks)) (hd : l.drop p = flat (.nd x ks) ++ rest) : kidsN l (p : Int) = plc ks (p + 1) := by
  have hx : l[p]? = some x := by have := Tr.at_drop (q := 0) hd; simpa [Tr.flat] using this
  have hb : bhI l (p : Int) ≠ 0 := by
    unfold bhI
    rw [if_neg (by omega), Int.toNat_natCast, Tr.bh_tree hd hw]
    have := Tr.flat_pos (.nd x ks)
    omega
  have hw' := hw
  rw [Tr.wf] at hw'
  unfold kidsN plc
  rw [if_neg hb, Int.toNat_natCast, hx]
  simp only [Option.map_some, Option.getD_some]
  rw [hw'.1, Int.toNat_natCast]
  refine List.map_congr_left fun k hk => ?_
  have := List.mem_range.1 hk
  rw [Tr.kidAt_tree hw'.2 hd k (by omega)]
end Go.Proofs.YthihnkgjkmaplaaGreatDoor
