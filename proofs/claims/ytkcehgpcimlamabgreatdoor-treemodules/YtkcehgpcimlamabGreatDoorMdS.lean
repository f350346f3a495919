/- How much there is in modules, as the statements measure it. -/
import Derived.Test.YtkcehgpcimlamabGreatDoorMdD
import Derived.Test.YtkcehgpcimlamabGreatDoorRefS
import Derived.Test.YtkcehgpcimlamabGreatDoorMdN
import Derived.Deep.CutRange
import Derived.Deep.DeepCutAuto
import Derived.Deep.RegionWith
namespace Go.Proofs.YtkcehgpcimlamabGreatDoor
open Go.RowKit
set_option maxRecDepth 100000
set_option linter.unusedSimpArgs false

/-- The texts of modules are no longer than what fits into memory. -/
structure TextsM (l : List Md) : Prop where
  name : ∀ m ∈ l, m.name.size ≤ 140737488355328
  istr : ∀ m ∈ l, ∀ x ∈ m.imps, x.frm.size ≤ 140737488355328 ∧ x.name.size ≤ 140737488355328 ∧ x.t.size ≤ 140737488355328
  dstr : ∀ m ∈ l, ∀ x ∈ m.defs, x.name.size ≤ 140737488355328 ∧ x.t.size ≤ 140737488355328
  tree : ∀ m ∈ l, ∀ x ∈ m.defs, Texts x.tree
/-- No module of the first k, and no part of one, is longer than n. -/
def Seen (l : List Md) (k n : Nat) : Prop := ∀ j m, j < k → l[j]? = some m → m.imps.length ≤ n ∧ m.defs.length ≤ n ∧ ∀ x ∈ m.defs, x.tree.length ≤ n
/-- How SizeModules ends. -/
def SizeEnd (l : List Md) (w : World) (e : Ending) (w' : World) : Prop := ∃ z : Nat, e = .returned (.int .i64 (z : Int)) ∧ (z ≤ 2147483647 → l.length ≤ z ∧ Seen l l.length z) ∧ Below w.heap.size w w'
theorem SizeEnd.mk {l : List Md} {w w' : World} {e : Ending} (z : Nat) (h1 : e = .returned (.int .i64 (z : Int))) (h2 : z ≤ 2147483647 → l.length ≤ z ∧ Seen l l.length z) (h3 : Below w.heap.size w w') : SizeEnd l w e w' := ⟨z, h1, h2, h3⟩
theorem Seen.mono {l : List Md} {k n n' : Nat} (h : Seen l k n) (hn : n ≤ n') : Seen l k n' := fun j m h1 h2 => by
  obtain ⟨a, b, c⟩ := h j m h1 h2
  exact ⟨by omega, by omega, fun x hx => by have := c x hx; omega⟩

set_option maxHeartbeats 3000000 in
theorem sizeMods_any (l : List Md) (hf : FitsM l) (hT : TextsM l) (v : Value) (w : World) (hl : IsMods w v l) :
    Calls Tryz.prog 5 #[v] w (SizeEnd l w) := by
  obtain ⟨a, c, rfl⟩ := RowOf.form hl
  have hlen := hf.len
  have HF : Aside (FitsM l) := hf
  have HT : Aside (TextsM l) := hT
  clear hf hT
  go_enter Tryz.func5, Tryz.ntmps5
  go_wp2_with fail
  go_loopg [3, 4] l.length (fun g s t wr => ∃ k z : Nat, k + g = l.length ∧ t = .int .i64 (k : Int) ∧ s = .int .i64 (z : Int) ∧ z ≤ 6917529027641081856 ∧ Below w.heap.size w wr ∧ Aside (l.length ≤ z ∧ (z ≤ 2147483647 → Seen l k z)))
  case atStart => exact ⟨0, l.length, by omega, rfl, rfl, by omega, Below.refl _ _, Nat.le_refl _, fun _ j m hj => absurd hj (by omega)⟩
  case round =>
    obtain ⟨k, z, hkg, rfl, rfl, hz, hB, HK⟩ := hrel
    have hws := hB.size
    by_cases hk : k < l.length
    · have hk' : (k : Int) < (l.length : Int) := by omega
      have hk0 : (0 : Int) ≤ (k : Int) := by omega
      by_cases hz2 : z ≤ 2147483647
      · have hz2' : (z : Int) ≤ 2147483647 := by omega
        obtain ⟨x, hx⟩ := getA hk
        have hxm := List.mem_of_getElem? hx
        obtain ⟨b1, o1, rfl, hlc, hb1, ia, ic, da, dc, hI, hD, p0, p1, p2, p3, p4⟩ := (hl.below hB).at hx
        have hil := HF.out.imps x hxm
        have hdl := HF.out.defs x hxm
        have hnl := HT.out.name x hxm
        have HIS : Aside (∀ y ∈ x.imps, y.frm.size ≤ 140737488355328 ∧ y.name.size ≤ 140737488355328 ∧ y.t.size ≤ 140737488355328) := HT.out.istr x hxm
        have HDS : Aside (∀ y ∈ x.defs, y.name.size ≤ 140737488355328 ∧ y.t.size ≤ 140737488355328) := HT.out.dstr x hxm
        have HTF : Aside (∀ y ∈ x.defs, Fits y.tree ∧ Texts y.tree) := fun y hy => ⟨HF.out.tree x hxm y hy, HT.out.tree x hxm y hy⟩
        have e1 : IntKind.i64.wrap ((z : Int) + (x.name.size : Int)) = (z : Int) + (x.name.size : Int) := IntWalk.i64_in _ (by omega)
        have e2 : IntKind.i64.wrap ((z : Int) + (x.name.size : Int) + (x.imps.length : Int)) = (z : Int) + (x.name.size : Int) + (x.imps.length : Int) := IntWalk.i64_in _ (by omega)
        have e3 : IntKind.i64.wrap ((z : Int) + (x.name.size : Int) + (x.imps.length : Int) + (x.defs.length : Int)) = (z : Int) + (x.name.size : Int) + (x.imps.length : Int) + (x.defs.length : Int) := IntWalk.i64_in _ (by omega)
        have HP1 : Aside (∀ W, Below wr.heap.size wr W → W.cell? ⟨b1, o1 + k * 5 + 1, none⟩ = some (.slice ia x.imps.length ic)) := fun W h => (h.cell (p := ⟨b1, o1 + k * 5 + 1, none⟩) hb1).trans p1
        have HP2 : Aside (∀ W, Below wr.heap.size wr W → W.cell? ⟨b1, o1 + k * 5 + 2, none⟩ = some (.slice da x.defs.length dc)) := fun W h => (h.cell (p := ⟨b1, o1 + k * 5 + 2, none⟩) hb1).trans p2
        obtain ⟨z0, hz0⟩ : ∃ z0 : Nat, z0 = z + x.name.size + x.imps.length + x.defs.length := ⟨_, rfl⟩
        have hz0' : (z : Int) + (x.name.size : Int) + (x.imps.length : Int) + (x.defs.length : Int) = (z0 : Int) := by omega
        have hz0b : z0 ≤ 1152921504606846976 := by omega
        have HZ0 : Aside (l.length ≤ z0 ∧ x.imps.length ≤ z0 ∧ x.defs.length ≤ z0 ∧ (z0 ≤ 2147483647 → Seen l k z0)) := ⟨by have := HK.out.1; omega, by omega, by omega, fun _ => (HK.out.2 hz2).mono (by omega)⟩
        have HZV : Aside ((z : Int) + (x.name.size : Int) + (x.imps.length : Int) + (x.defs.length : Int) = (z0 : Int)) := hz0'
        have HX : Aside (l[k]? = some x) := hx
        clear hx hl HK hz2 hz0 hz0'
        obtain ⟨wo, hwo⟩ : ∃ wo, wo = wr := ⟨_, rfl⟩
        subst hwo
        go_wp2_with fail
        go_quiet (fail)
        go_wp2_with fail
        go_loopg [3, 5] x.imps.length (fun g s t w3 => ∃ j y : Nat, j + g = x.imps.length ∧ t = .int .i64 (j : Int) ∧ s = .int .i64 (y : Int) ∧ y ≤ 1152921504606846976 ∧ Below wo.heap.size wo w3 ∧ Aside (z0 ≤ y))
        case atStart => exact ⟨0, z0, by omega, rfl, by rw [HZV.out], hz0b, below_drewN (Below.refl _ _) _, Nat.le_refl _⟩
        case round =>
          clear e1 e2 e3 p0 p1 p2 p3 p4 hz2'
          obtain ⟨j, y, hjg, rfl, rfl, hy, hB3, HJ⟩ := hrel
          have c1 := HP1.out _ hB3
          have hj0 : (0 : Int) ≤ (j : Int) := by omega
          go_upto_region 7 with fail
          go_cut [54] (fun s wc => ∃ q : Bool, s = .bool q ∧ Aside (q = true ↔ j < x.imps.length ∧ y ≤ 2147483647) ∧ wr = wc)
          case first =>
            by_cases hj : j < x.imps.length
            · have hj' : (j : Int) < (x.imps.length : Int) := by omega
              by_cases hy2 : y ≤ 2147483647
              · have hy2' : (y : Int) ≤ 2147483647 := by omega
                go_wp2_with fail
                go_meet
                case rel => exact ⟨true, rfl, ⟨fun _ => ⟨hj, hy2⟩, fun _ => rfl⟩, rfl⟩
              · have hy2' : decide ((y : Int) ≤ 2147483647) = false := by simp; omega
                go_wp2_with fail
                go_meet
                case rel => exact ⟨false, rfl, ⟨fun h => (by cases h), fun h => absurd h.2 hy2⟩, rfl⟩
            · have hj' : decide ((j : Int) < (x.imps.length : Int)) = false := by simp; omega
              go_wp2_with fail
              go_meet
              case rel => exact ⟨false, rfl, ⟨fun h => (by cases h), fun h => absurd h.1 hj⟩, rfl⟩
          case rest =>
            obtain ⟨q, rfl, HQ, rfl⟩ := hcut
            cases q
            · clear HQ HIS hI
              go_wp2_with fail
              clear c1
              go_loopg [3, 7] x.defs.length (fun g s t w3 => ∃ j y : Nat, j + g = x.defs.length ∧ t = .int .i64 (j : Int) ∧ s = .int .i64 (y : Int) ∧ y ≤ 6917529027641081856 ∧ Below wo.heap.size wo w3 ∧ Aside (z0 ≤ y ∧ ∀ j' d, j' < j → x.defs[j']? = some d → d.tree.length ≤ y))
              case atStart => exact ⟨0, y, by omega, rfl, rfl, by omega, hB3, HJ.out, fun j' d h => absurd h (by omega)⟩
              case round =>
                clear hB3 HJ hjg hy hj0
                obtain ⟨j, y, hjg, rfl, rfl, hy, hB3, HJ⟩ := hrel
                have c2 := HP2.out _ hB3
                have hj0 : (0 : Int) ≤ (j : Int) := by omega
                have hsz := hB3.size
                go_upto_region 12 with fail
                go_cut [89] (fun s wc => ∃ q : Bool, s = .bool q ∧ Aside (q = true ↔ j < x.defs.length ∧ y ≤ 2147483647) ∧ wr = wc)
                case first =>
                  by_cases hj : j < x.defs.length
                  · have hj' : (j : Int) < (x.defs.length : Int) := by omega
                    by_cases hy2 : y ≤ 2147483647
                    · have hy2' : (y : Int) ≤ 2147483647 := by omega
                      go_wp2_with fail
                      go_meet
                      case rel => exact ⟨true, rfl, ⟨fun _ => ⟨hj, hy2⟩, fun _ => rfl⟩, rfl⟩
                    · have hy2' : decide ((y : Int) ≤ 2147483647) = false := by simp; omega
                      go_wp2_with fail
                      go_meet
                      case rel => exact ⟨false, rfl, ⟨fun h => (by cases h), fun h => absurd h.2 hy2⟩, rfl⟩
                  · have hj' : decide ((j : Int) < (x.defs.length : Int)) = false := by simp; omega
                    go_wp2_with fail
                    go_meet
                    case rel => exact ⟨false, rfl, ⟨fun h => (by cases h), fun h => absurd h.1 hj⟩, rfl⟩
                case rest =>
                  obtain ⟨q, rfl, HQ, rfl⟩ := hcut
                  cases q
                  · have HE : Aside (l.length ≤ y ∧ (y ≤ 2147483647 → Seen l (k + 1) y)) := by
                      obtain ⟨h1, h2, h3, h4⟩ := HZ0.out
                      obtain ⟨h5, h6⟩ := HJ.out
                      refine ⟨by omega, fun hb => ?_⟩
                      have hjl : x.defs.length ≤ j := by
                        apply Nat.le_of_not_lt
                        intro h
                        have := HQ.out.2 ⟨h, hb⟩
                        cases this
                      intro j' m hj' hm
                      by_cases e : j' = k
                      · subst e
                        rw [HX.out] at hm; cases hm
                        refine ⟨by omega, by omega, fun d hd => ?_⟩
                        obtain ⟨i, hi⟩ := List.getElem?_of_mem hd
                        exact h6 i d (by have := (List.getElem?_eq_some_iff.1 hi).1; omega) hi
                      · exact (h4 (by omega)).mono h5 j' m (by omega) hm
                    clear HQ HJ HZ0
                    go_wp2_with fail
                    go_roundg (l.length - (k + 1))
                    case measure => omega
                    case rel => exact ⟨k + 1, y, by omega, by go_num, rfl, hy, hB.trans (hB3.mono hws), HE⟩
                  · obtain ⟨hj, hy2⟩ := HQ.out.1 rfl
                    have hj' : (j : Int) < (x.defs.length : Int) := by omega
                    obtain ⟨d, hd⟩ := getA hj
                    have hdm := List.mem_of_getElem? hd
                    obtain ⟨b2, o2, rfl, hlc2, hb2, ta, tc, hnod, q0, q1, q2, q3, q4, q5⟩ := (hD.below hB3).at hd
                    obtain ⟨z1, z2⟩ := HDS.out d hdm
                    obtain ⟨hft, htx⟩ := HTF.out d hdm
                    have HD0 : Aside (x.defs[j]? = some d) := hd
                    have hB5 : ∀ o, Below wr.heap.size wr (wr.alloc o) := fun o => (Below.refl _ _).alloc (Nat.le_refl _) o
                    have hsn := fun o n => sizeNodes_any d.tree hft.len htx _ ((wr.alloc o).drewN n) (hnod.below (below_drewN (hB5 o) n))
                    have e1 : IntKind.i64.wrap ((y : Int) + (d.name.size : Int)) = (y : Int) + (d.name.size : Int) := IntWalk.i64_in _ (by omega)
                    have e2 : IntKind.i64.wrap ((y : Int) + (d.name.size : Int) + (d.t.size : Int)) = (y : Int) + (d.name.size : Int) + (d.t.size : Int) := IntWalk.i64_in _ (by omega)
                    clear hd hD hnod HQ
                    go_upto_region 15 with fail
                    have HJ2 : Aside (∀ zt, d.tree.length ≤ zt → z0 ≤ y + d.name.size + d.t.size + zt ∧ ∀ j' d', j' < j + 1 → x.defs[j']? = some d' → d'.tree.length ≤ y + d.name.size + d.t.size + zt) := fun zt hzt => by
                      obtain ⟨h5, h6⟩ := HJ.out
                      refine ⟨by omega, fun j' d' hj' hd' => ?_⟩
                      by_cases e : j' = j
                      · subst e; rw [HD0.out] at hd'; cases hd'; omega
                      · have := h6 j' d' (by omega) hd'; omega
                    clear HJ
                    go_region_with (go_at_call 18; refine (hsn _ _).mono ?_; rintro e w5 ⟨zt, rfl, h1, h2, n, rfl⟩; have e3 : IntKind.i64.wrap ((y : Int) + (d.name.size : Int) + (d.t.size : Int) + (zt : Int)) = (y : Int) + (d.name.size : Int) + (d.t.size : Int) + (zt : Int) := IntWalk.i64_in _ (by omega))
                    all_goals
                      go_wp2_with fail
                      go_roundg (x.defs.length - (j + 1))
                      case measure => omega
                      case rel => exact ⟨j + 1, y + d.name.size + d.t.size + zt, by omega, by go_num, by go_num, by omega, hB3.trans ((below_drewN (hB5 _) _).mono hsz), HJ2.out zt h1⟩
            · obtain ⟨hj, hy2⟩ := HQ.out.1 rfl
              have hj' : (j : Int) < (x.imps.length : Int) := by omega
              obtain ⟨d, hd⟩ := getA hj
              obtain ⟨b2, o2, rfl, hlc2, hb2, q0, q1, q2, q3, q4⟩ := (hI.below hB3).at hd
              obtain ⟨z1, z2, z3⟩ := HIS.out d (List.mem_of_getElem? hd)
              have hB4 : ∀ o, Below wo.heap.size wo (wr.alloc o) := fun o => hB3.alloc hB3.size o
              have HJ2 : Aside (z0 ≤ y + d.frm.size + d.name.size + d.t.size) := by have := HJ.out; show _ ≤ _; omega
              clear hd hI hD HQ HJ
              go_wp2_with fail
              go_roundg (x.imps.length - (j + 1))
              case measure => omega
              case rel => exact ⟨j + 1, y + d.frm.size + d.name.size + d.t.size, by omega, by go_num, by go_num, by omega, hB4 _, HJ2⟩
      · have hz2' : decide ((z : Int) ≤ 2147483647) = false := by simp; omega
        go_wp2_with fail
        go_ret
        exact SizeEnd.mk z rfl (fun h => absurd h hz2) hB
    · have hk' : ¬ (k : Int) < (l.length : Int) := by omega
      have hk2 : decide ((k : Int) < (l.length : Int)) = false := by simpa using hk'
      go_wp2_with fail
      go_ret
      refine SizeEnd.mk z rfl (fun h => ⟨HK.out.1, ?_⟩) hB
      obtain rfl : k = l.length := by omega
      exact HK.out.2 h
end Go.Proofs.YtkcehgpcimlamabGreatDoor
