/- How much there is in modules, as the statements measure it. A list of modules that is handed in, opened: its modules, and how long its parts and texts may be. -/
import Derived.Test.YtpikfdkgblghhaaGreatDoorXbt
import Derived.Test.YtpikfdkgblghhaaGreatDoorXbe
import Derived.Test.YtpikfdkgblghhaaGreatDoorXbh
import Derived.Deep.CutRange
import Derived.Deep.DeepCutAuto
import Derived.Deep.RegionWith
namespace Go.Proofs.YtpikfdkgblghhaaGreatDoor
open Go.RowKit
set_option maxRecDepth 100000
set_option linter.unusedSimpArgs false

/-- The texts of modules are no longer than what fits into memory. -/
structure TextsM (l : List Md) : Prop where
  name : ∀ m ∈ l, m.name.size ≤ 140737488355328
  istr : ∀ m ∈ l, ∀ x ∈ m.imps, x.frm.size ≤ 140737488355328 ∧ x.name.size ≤ 140737488355328 ∧ x.t.size ≤ 140737488355328
  dstr : ∀ m ∈ l, ∀ x ∈ m.defs, x.name.size ≤ 140737488355328 ∧ x.t.size ≤ 140737488355328
  tree : ∀ m ∈ l, ∀ x ∈ m.defs, Texts x.tree
/-- No module of the first k, and no part of one, is longer than n. -/
def Seen (l : List Md) (k n : Nat) : Prop := ∀ j m, j < k → l[j]? = some m → m.imps.length ≤ n ∧ m.defs.length ≤ n ∧ ∀ x ∈ m.defs, x.tree.length ≤ n
/-- How SizeModules ends. -/
def SizeEnd (l : List Md) (w : World) (e : Ending) (w' : World) : Prop := ∃ z : Nat, e = .returned (.int .i64 (z : Int)) ∧ (z ≤ 2147483647 → l.length ≤ z ∧ Seen l l.length z) ∧ Below w.heap.size w w'
theorem SizeEnd.mk {l : List Md} {w w' : World} {e : Ending} (z : Nat) (h1 : e = .returned (.int .i64 (z : Int))) (h2 : z ≤ 2147483647 → l.length ≤ z ∧ Seen l l.length z) (h3 : Below w.heap.size w w') : SizeEnd l w e w' := ⟨z, h1, h2, h3⟩
theorem Seen.mono {l : List Md} {k n n' : Nat} (h : Seen l k n) (hn : n ≤ n') : Seen l k n' := fun j m h1 h2 => by
  obtain ⟨a, b, c⟩ := h j m h1 h2
  exact ⟨by omega, by omega, fun x hx => by have := c x hx; omega⟩

set_option maxHeartbeats 3000000 in
theorem sizeMods_any (l : List Md) (hf : FitsM l) (hT : TextsM l) (v : Value) (w : World) (hl : IsMods w v l) :
    Calls Tryz.prog 13 #[v] w (SizeEnd l w) := by
  obtain ⟨a, c, rfl⟩ := RowOf.form hl
  have hlen := hf.len
  have HF : Aside (FitsM l) := hf
  have HT : Aside (TextsM l) := hT
  clear hf hT
  go_enter Tryz.func13, Tryz.ntmps13
  go_wp2_with fail
  go_loopg [3, 4] l.length (fun g s t wr => ∃ k z : Nat, k + g = l.length ∧ t = .int .i64 (k : Int) ∧ s = .int .i64 (z : Int) ∧ z ≤ 6917529027641081856 ∧ Below w.heap.size w wr ∧ Aside (l.length ≤ z ∧ (z ≤ 2147483647 → Seen l k z)))
  case atStart => exact ⟨0, l.length, by omega, rfl, rfl, by omega, Below.refl _ _, Nat.le_refl _, fun _ j m hj => absurd hj (by omega)⟩
  case round =>
    obtain ⟨k, z, hkg, rfl, rfl, hz, hB, HK⟩ := hrel
    have hws := hB.size
    by_cases hk : k < l.length
    · have hk' : (k : Int) < (l.length : Int) := by omega
      have hk0 : (0 : Int) ≤ (k : Int) := by omega
      by_cases hz2 : z ≤ 2147483647
      · have hz2' : (z : Int) ≤ 2147483647 := by omega
        obtain ⟨x, hx⟩ := getA hk
        have hxm := List.mem_of_getElem? hx
        obtain ⟨b1, o1, rfl, hlc, hb1, ia, ic, da, dc, hI, hD, p0, p1, p2, p3, p4⟩ := (hl.below hB).at hx
        have hil := HF.out.imps x hxm
        have hdl := HF.out.defs x hxm
        have hnl := HT.out.name x hxm
        have HIS : Aside (∀ y ∈ x.imps, y.frm.size ≤ 140737488355328 ∧ y.name.size ≤ 140737488355328 ∧ y.t.size ≤ 140737488355328) := HT.out.istr x hxm
        have HDS : Aside (∀ y ∈ x.defs, y.name.size ≤ 140737488355328 ∧ y.t.size ≤ 140737488355328) := HT.out.dstr x hxm
        have HTF : Aside (∀ y ∈ x.defs, Fits y.tree ∧ Texts y.tree) := fun y hy => ⟨HF.out.tree x hxm y hy, HT.out.tree x hxm y hy⟩
        have e1 : IntKind.i64.wrap ((z : Int) + (x.name.size : Int)) = (z : Int) + (x.name.size : Int) := IntWalk.i64_in _ (by omega)
        have e2 : IntKind.i64.wrap ((z : Int) + (x.name.size : Int) + (x.imps.length : Int)) = (z : Int) + (x.name.size : Int) + (x.imps.length : Int) := IntWalk.i64_in _ (by omega)
        have e3 : IntKind.i64.wrap ((z : Int) + (x.name.size : Int) + (x.imps.length : Int) + (x.defs.length : Int)) = (z : Int) + (x.name.size : Int) + (x.imps.length : Int) + (x.defs.length : Int) := IntWalk.i64_in _ (by omega)
        have HP1 : Aside (∀ W, Below wr.heap.size wr W → W.cell? ⟨b1, o1 + k * 5 + 1, none⟩ = some (.slice ia x.imps.length ic)) := fun W h => (h.cell (p := ⟨b1, o1 + k * 5 + 1, none⟩) hb1).trans p1
        have HP2 : Aside (∀ W, Below wr.heap.size wr W → W.cell? ⟨b1, o1 + k * 5 + 2, none⟩ = some (.slice da x.defs.length dc)) := fun W h => (h.cell (p := ⟨b1, o1 + k * 5 + 2, none⟩) hb1).trans p2
        obtain ⟨z0, hz0⟩ : ∃ z0 : Nat, z0 = z + x.name.size + x.imps.length + x.defs.length := ⟨_, rfl⟩
        have hz0' : (z : Int) + (x.name.size : Int) + (x.imps.length : Int) + (x.defs.length : Int) = (z0 : Int) := by omega
        have hz0b : z0 ≤ 1152921504606846976 := by omega
        have HZ0 : Aside (l.length ≤ z0 ∧ x.imps.length ≤ z0 ∧ x.defs.length ≤ z0 ∧ (z0 ≤ 2147483647 → Seen l k z0)) := ⟨by have := HK.out.1; omega, by omega, by omega, fun _ => (HK.out.2 hz2).mono (by omega)⟩
        have HZV : Aside ((z : Int) + (x.name.size : Int) + (x.imps.length : Int) + (x.defs.length : Int) = (z0 : Int)) := hz0'
        have HX : Aside (l[k]? = some x) := hx
        clear hx hl HK hz2 hz0 hz0'
        obtain ⟨wo, hwo⟩ : ∃ wo, wo = wr := ⟨_, rfl⟩
        subst hwo
        go_wp2_with fail
        go_quiet (fail)
        go_wp2_with fail
        go_loopg [3, 5] x.imps.length (fun g s t w3 => ∃ j y : Nat, j + g = x.imps.length ∧ t = .int .i64 (j : Int) ∧ s = .int .i64 (y : Int) ∧ y ≤ 1152921504606846976 ∧ Below wo.heap.size wo w3 ∧ Aside (z0 ≤ y))
        case atStart => exact ⟨0, z0, by omega, rfl, by rw [HZV.out], hz0b, below_drewN (Below.refl _ _) _, Nat.le_refl _⟩
        case round =>
          clear e1 e2 e3 p0 p1 p2 p3 p4 hz2'
          obtain ⟨j, y, hjg, rfl, rfl, hy, hB3, HJ⟩ := hrel
          have c1 := HP1.out _ hB3
          have hj0 : (0 : Int) ≤ (j : Int) := by omega
          go_upto_region 7 with fail
          go_cut [54] (fun s wc => ∃ q : Bool, s = .bool q ∧ Aside (q = true ↔ j < x.imps.length ∧ y ≤ 2147483647) ∧ wr = wc)
          case first =>
            by_cases hj : j < x.imps.length
            · have hj' : (j : Int) < (x.imps.length : Int) := by omega
              by_cases hy2 : y ≤ 2147483647
              · have hy2' : (y : Int) ≤ 2147483647 := by omega
                go_wp2_with fail
                go_meet
                case rel => exact ⟨true, rfl, ⟨fun _ => ⟨hj, hy2⟩, fun _ => rfl⟩, rfl⟩
              · have hy2' : decide ((y : Int) ≤ 2147483647) = false := by simp; omega
                go_wp2_with fail
                go_meet
                case rel => exact ⟨false, rfl, ⟨fun h => (by cases h), fun h => absurd h.2 hy2⟩, rfl⟩
            · have hj' : decide ((j : Int) < (x.imps.length : Int)) = false := by simp; omega
              go_wp2_with fail
              go_meet
              case rel => exact ⟨false, rfl, ⟨fun h => (by cases h), fun h => absurd h.1 hj⟩, rfl⟩
          case rest =>
            obtain ⟨q, rfl, HQ, rfl⟩ := hcut
            cases q
            · clear HQ HIS hI
              go_wp2_with fail
              clear c1
              go_loopg [3, 7] x.defs.length (fun g s t w3 => ∃ j y : Nat, j + g = x.defs.length ∧ t = .int .i64 (j : Int) ∧ s = .int .i64 (y : Int) ∧ y ≤ 6917529027641081856 ∧ Below wo.heap.size wo w3 ∧ Aside (z0 ≤ y ∧ ∀ j' d, j' < j → x.defs[j']? = some d → d.tree.length ≤ y))
              case atStart => exact ⟨0, y, by omega, rfl, rfl, by omega, hB3, HJ.out, fun j' d h => absurd h (by omega)⟩
              case round =>
                clear hB3 HJ hjg hy hj0
                obtain ⟨j, y, hjg, rfl, rfl, hy, hB3, HJ⟩ := hrel
                have c2 := HP2.out _ hB3
                have hj0 : (0 : Int) ≤ (j : Int) := by omega
                have hsz := hB3.size
                go_upto_region 12 with fail
                go_cut [89] (fun s wc => ∃ q : Bool, s = .bool q ∧ Aside (q = true ↔ j < x.defs.length ∧ y ≤ 2147483647) ∧ wr = wc)
                case first =>
                  by_cases hj : j < x.defs.length
                  · have hj' : (j : Int) < (x.defs.length : Int) := by omega
                    by_cases hy2 : y ≤ 2147483647
                    · have hy2' : (y : Int) ≤ 2147483647 := by omega
                      go_wp2_with fail
                      go_meet
                      case rel => exact ⟨true, rfl, ⟨fun _ => ⟨hj, hy2⟩, fun _ => rfl⟩, rfl⟩
                    · have hy2' : decide ((y : Int) ≤ 2147483647) = false := by simp; omega
                      go_wp2_with fail
                      go_meet
                      case rel => exact ⟨false, rfl, ⟨fun h => (by cases h), fun h => absurd h.2 hy2⟩, rfl⟩
                  · have hj' : decide ((j : Int) < (x.defs.length : Int)) = false := by simp; omega
                    go_wp2_with fail
                    go_meet
                    case rel => exact ⟨false, rfl, ⟨fun h => (by cases h), fun h => absurd h.1 hj⟩, rfl⟩
                case rest =>
                  obtain ⟨q, rfl, HQ, rfl⟩ := hcut
                  cases q
                  · have HE : Aside (l.length ≤ y ∧ (y ≤ 2147483647 → Seen l (k + 1) y)) := by
                      obtain ⟨h1, h2, h3, h4⟩ := HZ0.out
                      obtain ⟨h5, h6⟩ := HJ.out
                      refine ⟨by omega, fun hb => ?_⟩
                      have hjl : x.defs.length ≤ j := by
                        apply Nat.le_of_not_lt
                        intro h
                        have := HQ.out.2 ⟨h, hb⟩
                        cases this
                      intro j' m hj' hm
                      by_cases e : j' = k
                      · subst e
                        rw [HX.out] at hm; cases hm
                        refine ⟨by omega, by omega, fun d hd => ?_⟩
                        obtain ⟨i, hi⟩ := List.getElem?_of_mem hd
                        exact h6 i d (by have := (List.getElem?_eq_some_iff.1 hi).1; omega) hi
                      · exact (h4 (by omega)).mono h5 j' m (by omega) hm
                    clear HQ HJ HZ0
                    go_wp2_with fail
                    go_roundg (l.length - (k + 1))
                    case measure => omega
                    case rel => exact ⟨k + 1, y, by omega, by go_num, rfl, hy, hB.trans (hB3.mono hws), HE⟩
                  · obtain ⟨hj, hy2⟩ := HQ.out.1 rfl
                    have hj' : (j : Int) < (x.defs.length : Int) := by omega
                    obtain ⟨d, hd⟩ := getA hj
                    have hdm := List.mem_of_getElem? hd
                    obtain ⟨b2, o2, rfl, hlc2, hb2, ta, tc, hnod, q0, q1, q2, q3, q4, q5⟩ := (hD.below hB3).at hd
                    obtain ⟨z1, z2⟩ := HDS.out d hdm
                    obtain ⟨hft, htx⟩ := HTF.out d hdm
                    have HD0 : Aside (x.defs[j]? = some d) := hd
                    have hB5 : ∀ o, Below wr.heap.size wr (wr.alloc o) := fun o => (Below.refl _ _).alloc (Nat.le_refl _) o
                    have hsn := fun o n => sizeNodes_any d.tree hft.len htx _ ((wr.alloc o).drewN n) (hnod.below (below_drewN (hB5 o) n))
                    have e1 : IntKind.i64.wrap ((y : Int) + (d.name.size : Int)) = (y : Int) + (d.name.size : Int) := IntWalk.i64_in _ (by omega)
                    have e2 : IntKind.i64.wrap ((y : Int) + (d.name.size : Int) + (d.t.size : Int)) = (y : Int) + (d.name.size : Int) + (d.t.size : Int) := IntWalk.i64_in _ (by omega)
                    clear hd hD hnod HQ
                    go_upto_region 15 with fail
                    have HJ2 : Aside (∀ zt, d.tree.length ≤ zt → z0 ≤ y + d.name.size + d.t.size + zt ∧ ∀ j' d', j' < j + 1 → x.defs[j']? = some d' → d'.tree.length ≤ y + d.name.size + d.t.size + zt) := fun zt hzt => by
                      obtain ⟨h5, h6⟩ := HJ.out
                      refine ⟨by omega, fun j' d' hj' hd' => ?_⟩
                      by_cases e : j' = j
                      · subst e; rw [HD0.out] at hd'; cases hd'; omega
                      · have := h6 j' d' (by omega) hd'; omega
                    clear HJ
                    go_region_with (go_at_call 30; refine (hsn _ _).mono ?_; rintro e w5 ⟨zt, rfl, h1, h2, n, rfl⟩; have e3 : IntKind.i64.wrap ((y : Int) + (d.name.size : Int) + (d.t.size : Int) + (zt : Int)) = (y : Int) + (d.name.size : Int) + (d.t.size : Int) + (zt : Int) := IntWalk.i64_in _ (by omega))
                    all_goals
                      go_wp2_with fail
                      go_roundg (x.defs.length - (j + 1))
                      case measure => omega
                      case rel => exact ⟨j + 1, y + d.name.size + d.t.size + zt, by omega, by go_num, by go_num, by omega, hB3.trans ((below_drewN (hB5 _) _).mono hsz), HJ2.out zt h1⟩
            · obtain ⟨hj, hy2⟩ := HQ.out.1 rfl
              have hj' : (j : Int) < (x.imps.length : Int) := by omega
              obtain ⟨d, hd⟩ := getA hj
              obtain ⟨b2, o2, rfl, hlc2, hb2, q0, q1, q2, q3, q4⟩ := (hI.below hB3).at hd
              obtain ⟨z1, z2, z3⟩ := HIS.out d (List.mem_of_getElem? hd)
              have hB4 : ∀ o, Below wo.heap.size wo (wr.alloc o) := fun o => hB3.alloc hB3.size o
              have HJ2 : Aside (z0 ≤ y + d.frm.size + d.name.size + d.t.size) := by have := HJ.out; show _ ≤ _; omega
              clear hd hI hD HQ HJ
              go_wp2_with fail
              go_roundg (x.imps.length - (j + 1))
              case measure => omega
              case rel => exact ⟨j + 1, y + d.frm.size + d.name.size + d.t.size, by omega, by go_num, by go_num, by omega, hB4 _, HJ2⟩
      · have hz2' : decide ((z : Int) ≤ 2147483647) = false := by simp; omega
        go_wp2_with fail
        go_ret
        exact SizeEnd.mk z rfl (fun h => absurd h hz2) hB
    · have hk' : ¬ (k : Int) < (l.length : Int) := by omega
      have hk2 : decide ((k : Int) < (l.length : Int)) = false := by simpa using hk'
      go_wp2_with fail
      go_ret
      refine SizeEnd.mk z rfl (fun h => ⟨HK.out.1, ?_⟩) hB
      obtain rfl : k = l.length := by omega
      exact HK.out.2 h
end Go.Proofs.YtpikfdkgblghhaaGreatDoor
namespace Go.Proofs.YtpikfdkgblghhaaGreatDoor
open Go.ChangeShapes Go.WideShapes Go.RowKit
set_option maxRecDepth 100000

section
variable {H : Type} {enc : TypeId × Value → H} {W : World} {base : Nat} {sp : Nat → Bool} {hd : Bool}

theorem row_open {α : Type} {n e ty : Nat} (hty : Tryz.prog.underlying ty = some (.slice e)) (hn : Tryz.prog.cellsOf e = n) (hn0 : 0 < n) (R : World → α → List Value → Prop) (hRn : ∀ x cs, R W x cs → cs.length = n) (Q : α → List Nat → Prop)
    (hQ : ∀ x ws ws', (∀ k ∈ ws, k ∈ ws') → Q x ws → Q x ws') (helm : ∀ m cs y, DataW.trod enc Tryz.prog W base sp hd m e cs = some y → ∃ x, R W x cs ∧ Q x (y.1.weights Tryz.prog e))
    {fuel : Nat} {v : Value} {d : DataW H} {p : List MemPlace} (h : DataW.trod enc Tryz.prog W base sp hd fuel ty [v] = some (d, p)) :
    ∃ l : List α, RowOf n R W v l ∧ (∀ x ∈ l, Q x (d.weights Tryz.prog ty)) ∧ (l = [] ∨ ∃ N, l.length ≤ N ∧ N * Tryz.prog.bytesOf e ∈ d.weights Tryz.prog ty) := by
  rcases Go.Deep.open_slice hty h with ⟨hcs, _⟩ | ⟨a, len, cap, m, k, D, Pl, hcs, hb, hl, hm, hmm, hx, hel⟩
  · cases hcs
    exact ⟨[], .inl ⟨rfl, _, _, rfl⟩, by simp, .inl rfl⟩
  · cases hcs
    have hd' := (Prod.mk.inj hx).1
    subst hd'
    have hlm : len ≤ m := by rw [hmm]; split <;> omega
    rw [hn] at hel
    obtain ⟨X, hX⟩ := Go.Deep.choose_lt (n := len) (α := Option (α × List Value)) (p := fun i o => ∃ x cs, o = some (x, cs) ∧ R W x cs ∧ (∀ j, j < n → W.cell? ((a.add (i * n)).add j) = cs[j]?) ∧ Q x ((D i).weights Tryz.prog e)) (fun i hi => by
      obtain ⟨cs', h1, h2⟩ := hel i (by omega)
      obtain ⟨_, hlen, hcell⟩ := World.cells?_some h1
      obtain ⟨x, r1, r2⟩ := helm _ _ _ h2
      exact ⟨some (x, cs'), x, cs', rfl, r1, hcell, r2⟩)
    have hw : ∀ i, i < len → ∀ k ∈ (D i).weights Tryz.prog e, k ∈ (DataW.slice ((List.range len).map D) ((List.range (m - len)).map fun j => D (len + j))).weights Tryz.prog ty := by
      intro i hi k hk
      simp only [DataW.weights, hty]
      refine List.mem_cons_of_mem _ (List.mem_append_left _ (weightsAll_mem (d := D i) ?_ k hk))
      exact List.mem_map.2 ⟨i, List.mem_range.2 hi, rfl⟩
    have key : ∀ N, N ≤ len → ((List.range N).filterMap X).length = N ∧ ∀ j x, ((List.range N).filterMap X)[j]? = some x → j < N ∧ X j = some x := by
      intro N
      induction N with
      | zero => intro _; exact ⟨rfl, by simp⟩
      | succ N ih =>
        intro hN
        obtain ⟨e1, e2⟩ := ih (by omega)
        obtain ⟨x, cs, hx, _⟩ := hX N (by omega)
        rw [List.range_succ, List.filterMap_append, show [N].filterMap X = [(x, cs)] by simp [hx]]
        refine ⟨by simp [e1], fun j y hy => ?_⟩
        by_cases hj : j < N
        · rw [List.getElem?_append_left (by omega)] at hy
          exact ⟨by omega, (e2 j y hy).2⟩
        · have hj2 : j = N := by
            have := (List.getElem?_eq_some_iff.1 hy).1
            simp [e1] at this; omega
          subst hj2
          rw [List.getElem?_append_right (by omega), e1] at hy
          simp at hy
          subst hy
          exact ⟨by omega, hx⟩
    obtain ⟨hlen, hget⟩ := key len (Nat.le_refl _)
    have hlen2 : (((List.range len).filterMap X).map Prod.fst).length = len := by simp [hlen]
    have hget2 : ∀ j x, (((List.range len).filterMap X).map Prod.fst)[j]? = some x → j < len ∧ ∃ cs, X j = some (x, cs) := fun j x hj => by
      rw [List.getElem?_map] at hj
      cases hq : ((List.range len).filterMap X)[j]? with
      | none => rw [hq] at hj; cases hj
      | some y =>
        rw [hq] at hj
        cases hj
        obtain ⟨q1, q2⟩ := hget j y hq
        exact ⟨q1, y.2, q2⟩
    refine ⟨((List.range len).filterMap X).map Prod.fst, ?_, ?_, ?_⟩
    · by_cases h0 : len = 0
      · subst h0; exact .inl ⟨rfl, _, _, rfl⟩
      · obtain ⟨b, o, spot⟩ := a
        obtain ⟨x0, cs0, _, hr0, hc0, _⟩ := hX 0 (by omega)
        have c0 := hc0 0 hn0
        have hl0 := hRn _ _ hr0
        rw [List.getElem?_eq_getElem (by omega)] at c0
        have hspot : spot = none := by simpa [Addr.add] using World.cell?_spot c0
        subst hspot
        refine .inr ⟨b, o, cap, by rw [hlen2], by rw [hlen2]; exact hl, ?_, fun j x hj => ?_⟩
        · have := World.block_lt_of_cell? W _ c0
          simpa [Addr.add] using this
        · obtain ⟨hjl, cs, hXj⟩ := hget2 j x hj
          obtain ⟨x', cs', e, hr, hc, _⟩ := hX j hjl
          rw [hXj] at e
          cases e
          refine ⟨cs, hr, fun i u hu => ?_⟩
          have hi : i < n := by have := (List.getElem?_eq_some_iff.1 hu).1; rw [hRn _ _ hr] at this; exact this
          have := hc i hi
          rw [hu, add_plain, add_plain] at this
          exact this
    · intro x hx
      obtain ⟨j, hj⟩ := List.getElem?_of_mem hx
      obtain ⟨hjl, cs, hXj⟩ := hget2 j x hj
      obtain ⟨x', cs', e, _, _, r⟩ := hX j hjl
      rw [hXj] at e
      cases e
      exact hQ _ _ _ (hw j hjl) r
    · refine .inr ⟨m, by rw [hlen2]; exact hlm, ?_⟩
      simp only [DataW.weights, hty]
      refine List.mem_cons.2 (.inl ?_)
      have hmm2 : len + (m - len) = m := by omega
      simp [hmm2]

def Qim (x : Im) (ws : List Nat) : Prop := (x.frm.size ≤ maxLen ∧ x.name.size ≤ maxLen ∧ x.t.size ≤ maxLen) ∧ x.frm.size ∈ ws ∧ x.name.size ∈ ws ∧ x.t.size ∈ ws
def Qdf (x : Df) (ws : List Nat) : Prop := (x.name.size ≤ maxLen ∧ x.t.size ≤ maxLen) ∧ x.name.size ∈ ws ∧ x.t.size ∈ ws ∧ (∀ y ∈ x.tree, y.kids ≤ 9223372036854775807 ∧ (-9223372036854775808 ≤ y.n ∧ y.n ≤ 9223372036854775807) ∧ y.s.size ≤ maxLen ∧ y.s.size ∈ ws ∧ y.t.size ∈ ws ∧ y.u.size ∈ ws) ∧ (x.tree = [] ∨ ∃ N, x.tree.length ≤ N ∧ N * 88 ∈ ws)
def Qmd (x : Md) (ws : List Nat) : Prop := x.name.size ≤ maxLen ∧ x.name.size ∈ ws ∧ (∀ y ∈ x.imps, Qim y ws) ∧ (x.imps = [] ∨ ∃ N, x.imps.length ≤ N ∧ N * 64 ∈ ws) ∧ (∀ y ∈ x.defs, Qdf y ws) ∧ (x.defs = [] ∨ ∃ N, x.defs.length ≤ N ∧ N * 80 ∈ ws)
theorem or_mono {l : Nat} {A : Prop} {c : Nat} {ws ws' : List Nat} (h : ∀ k ∈ ws, k ∈ ws') (q : A ∨ ∃ N, l ≤ N ∧ N * c ∈ ws) : A ∨ ∃ N, l ≤ N ∧ N * c ∈ ws' := by
  rcases q with q | ⟨N, a, b⟩
  · exact .inl q
  · exact .inr ⟨N, a, h _ b⟩
theorem Qim.mono (x : Im) (ws ws' : List Nat) (h : ∀ k ∈ ws, k ∈ ws') (q : Qim x ws) : Qim x ws' := ⟨q.1, h _ q.2.1, h _ q.2.2.1, h _ q.2.2.2⟩
theorem Qdf.mono (x : Df) (ws ws' : List Nat) (h : ∀ k ∈ ws, k ∈ ws') (q : Qdf x ws) : Qdf x ws' := by
  obtain ⟨a, b, c, d, e⟩ := q
  exact ⟨a, h _ b, h _ c, fun y hy => by obtain ⟨p, p', q, r, s, t⟩ := d y hy; exact ⟨p, p', q, h _ r, h _ s, h _ t⟩, or_mono h e⟩
theorem Qmd.mono (x : Md) (ws ws' : List Nat) (h : ∀ k ∈ ws, k ∈ ws') (q : Qmd x ws) : Qmd x ws' := by
  obtain ⟨a, b, c, d, e, f⟩ := q
  exact ⟨a, h _ b, fun y hy => (c y hy).mono _ _ _ h, or_mono h d, fun y hy => (e y hy).mono _ _ _ h, or_mono h f⟩

theorem imF : fieldsOf Tryz.prog 71 = [(9, 0), (9, 1), (9, 2), (37, 3)] := by kernel_rfl
theorem dfF : fieldsOf Tryz.prog 54 = [(9, 0), (4, 1), (9, 2), (22, 3), (37, 4)] := by kernel_rfl
theorem mdF : fieldsOf Tryz.prog 58 = [(9, 0), (56, 1), (55, 2), (37, 3)] := by kernel_rfl
theorem c1s : Tryz.prog.cellsOf 3 = 1 ∧ Tryz.prog.cellsOf 9 = 1 ∧ Tryz.prog.cellsOf 4 = 1 ∧ Tryz.prog.cellsOf 37 = 2 ∧ Tryz.prog.cellsOf 22 = 1 ∧ Tryz.prog.cellsOf 56 = 1 ∧ Tryz.prog.cellsOf 55 = 1 := by refine ⟨?_, ?_, ?_, ?_, ?_, ?_, ?_⟩ <;> kernel_rfl

theorem place_open {n : Nat} {a b : Value} {y : DataW H × List MemPlace} (h : DataW.trod enc Tryz.prog W base sp hd n 37 [a, b] = some y) : ∃ i j, a = .int .i64 i ∧ b = .int .i64 j := by
  obtain ⟨c3, _⟩ := c1s
  have u3 : Tryz.prog.underlying 3 = some (.int .i64) := by kernel_rfl
  obtain ⟨ps, hup, hps⟩ := fields_some plF
  obtain ⟨zs, k2, _, _, hlen2, hzl, hf2⟩ := DataW.trod_struct hup h
  obtain ⟨pl⟩ := ps
  simp only at hps
  match pl, hps with
  | [q0, q1], hps =>
    simp only [List.map_cons, List.map_nil, List.cons.injEq, Prod.mk.injEq, and_true] at hps
    obtain ⟨⟨s0, p0⟩, ⟨s1, p1⟩⟩ := hps
    match zs, hzl with
    | [z0, z1], _ =>
      have k0 := hf2 0 q0 rfl
      have k1 := hf2 1 q1 rfl
      simp only [s0, p0, s1, p1, c3, List.drop_zero, List.drop_succ_cons, List.take_succ_cons, List.take_zero, List.getElem?_cons_zero, List.getElem?_cons_succ] at k0 k1
      obtain ⟨i6, h6, _, _⟩ := DataW.trod_int u3 k0
      obtain ⟨i7, h7, _, _⟩ := DataW.trod_int u3 k1
      cases h6; cases h7
      exact ⟨i6, i7, rfl, rfl⟩

set_option maxHeartbeats 2000000 in
theorem im_open {n : Nat} {cs : List Value} {y : DataW H × List MemPlace} (h : DataW.trod enc Tryz.prog W base sp hd n 71 cs = some y) : ∃ x : Im, IsIm W x cs ∧ Qim x (y.1.weights Tryz.prog 71) := by
  obtain ⟨fs, hu, hfs⟩ := fields_some imF
  obtain ⟨xs, k, _, rfl, hlen, hxl, hf⟩ := DataW.trod_struct hu h
  rw [show Tryz.prog.cellsOf 71 = 5 by kernel_rfl] at hlen
  obtain ⟨_, c9, _, cp, _⟩ := c1s
  have u9 : Tryz.prog.underlying 9 = some .string := by kernel_rfl
  obtain ⟨fl⟩ := fs
  simp only at hfs
  match fl, hfs with
  | [f0, f1, f2, f3], hfs =>
    simp only [List.map_cons, List.map_nil, List.cons.injEq, Prod.mk.injEq, and_true] at hfs
    obtain ⟨⟨t0, o0⟩, ⟨t1, o1⟩, ⟨t2, o2⟩, ⟨t3, o3⟩⟩ := hfs
    match xs, hxl, cs, hlen with
    | [y0, y1, y2, y3], _, [v0, v1, v2, v3, v4], _ =>
      have g0 := hf 0 f0 rfl
      have g1 := hf 1 f1 rfl
      have g2 := hf 2 f2 rfl
      have g3 := hf 3 f3 rfl
      simp only [t0, o0, t1, o1, t2, o2, t3, o3, c9, cp] at g0 g1 g2 g3
      simp only [List.drop_zero, List.drop_succ_cons, List.take_succ_cons, List.take_zero, List.getElem?_cons_zero, List.getElem?_cons_succ, List.take_nil] at g0 g1 g2 g3
      obtain ⟨s0, h0, e0, w0⟩ := DataW.trod_string u9 g0
      obtain ⟨s1, h1, e1, w1⟩ := DataW.trod_string u9 g1
      obtain ⟨s2, h2, e2, w2⟩ := DataW.trod_string u9 g2
      obtain ⟨i, j, rfl, rfl⟩ := place_open g3
      cases h0; cases h1; cases h2
      have hw : (DataW.agg (List.map (fun x => x.1) [y0, y1, y2, y3])).weights Tryz.prog 71 = DataW.weightsEach Tryz.prog ([f0, f1, f2, f3].map (·.type)) [y0.1, y1.1, y2.1, y3.1] := by
        simp only [DataW.weights, hu]; rfl
      refine ⟨⟨s0, s1, s2, i, j⟩, rfl, ⟨w0, w1, w2⟩, ?_, ?_, ?_⟩
      all_goals rw [hw]
      · exact DataW.weights_mem_each (j := 0) (t := 9) (d := y0.1) (congrArg some t0) rfl _ (by rw [e0]; exact weights_lit s0 _)
      · exact DataW.weights_mem_each (j := 1) (t := 9) (d := y1.1) (congrArg some t1) rfl _ (by rw [e1]; exact weights_lit s1 _)
      · exact DataW.weights_mem_each (j := 2) (t := 9) (d := y2.1) (congrArg some t2) rfl _ (by rw [e2]; exact weights_lit s2 _)

set_option maxHeartbeats 2000000 in
theorem df_open {n : Nat} {cs : List Value} {y : DataW H × List MemPlace} (h : DataW.trod enc Tryz.prog W base sp hd n 54 cs = some y) : ∃ x : Df, IsDf W x cs ∧ Qdf x (y.1.weights Tryz.prog 54) := by
  obtain ⟨fs, hu, hfs⟩ := fields_some dfF
  obtain ⟨xs, k, _, rfl, hlen, hxl, hf⟩ := DataW.trod_struct hu h
  rw [show Tryz.prog.cellsOf 54 = 6 by kernel_rfl] at hlen
  obtain ⟨_, c9, c4, cp, cn, _⟩ := c1s
  have u9 : Tryz.prog.underlying 9 = some .string := by kernel_rfl
  have u4 : Tryz.prog.underlying 4 = some .bool := by kernel_rfl
  obtain ⟨fl⟩ := fs
  simp only at hfs
  match fl, hfs with
  | [f0, f1, f2, f3, f4], hfs =>
    simp only [List.map_cons, List.map_nil, List.cons.injEq, Prod.mk.injEq, and_true] at hfs
    obtain ⟨⟨t0, o0⟩, ⟨t1, o1⟩, ⟨t2, o2⟩, ⟨t3, o3⟩, ⟨t4, o4⟩⟩ := hfs
    match xs, hxl, cs, hlen with
    | [y0, y1, y2, y3, y4], _, [v0, v1, v2, v3, v4, v5], _ =>
      have g0 := hf 0 f0 rfl
      have g1 := hf 1 f1 rfl
      have g2 := hf 2 f2 rfl
      have g3 := hf 3 f3 rfl
      have g4 := hf 4 f4 rfl
      simp only [t0, o0, t1, o1, t2, o2, t3, o3, t4, o4, c9, cp, c4, cn] at g0 g1 g2 g3 g4
      simp only [List.drop_zero, List.drop_succ_cons, List.take_succ_cons, List.take_zero, List.getElem?_cons_zero, List.getElem?_cons_succ, List.take_nil] at g0 g1 g2 g3 g4
      obtain ⟨s0, h0, e0, w0⟩ := DataW.trod_string u9 g0
      obtain ⟨b1, h1, _⟩ := DataW.trod_bool u4 g1
      obtain ⟨s2, h2, e2, w2⟩ := DataW.trod_string u9 g2
      obtain ⟨l, hl, hx, hN⟩ := nodes_open (d := y3.1) (p := y3.2) g3
      obtain ⟨i, j, rfl, rfl⟩ := place_open g4
      cases h0; cases h1; cases h2
      have hw : (DataW.agg (List.map (fun x => x.1) [y0, y1, y2, y3, y4])).weights Tryz.prog 54 = DataW.weightsEach Tryz.prog ([f0, f1, f2, f3, f4].map (·.type)) [y0.1, y1.1, y2.1, y3.1, y4.1] := by
        simp only [DataW.weights, hu]; rfl
      have h3w : ∀ k ∈ y3.1.weights Tryz.prog 22, k ∈ DataW.weightsEach Tryz.prog ([f0, f1, f2, f3, f4].map (·.type)) [y0.1, y1.1, y2.1, y3.1, y4.1] := fun k hk => DataW.weights_mem_each (j := 3) (t := 22) (d := y3.1) (congrArg some t3) rfl _ hk
      refine ⟨⟨s0, b1, s2, l, i, j⟩, ⟨v3, rfl, hl⟩, ⟨w0, w2⟩, ?_, ?_, fun y hy => ?_, ?_⟩
      all_goals rw [hw]
      · exact DataW.weights_mem_each (j := 0) (t := 9) (d := y0.1) (congrArg some t0) rfl _ (by rw [e0]; exact weights_lit s0 _)
      · exact DataW.weights_mem_each (j := 2) (t := 9) (d := y2.1) (congrArg some t2) rfl _ (by rw [e2]; exact weights_lit s2 _)
      · obtain ⟨p, ⟨_, p'⟩, q, r, s, t⟩ := hx y hy
        exact ⟨p, p', q, h3w _ r, h3w _ s, h3w _ t⟩
      · exact or_mono h3w hN

set_option maxHeartbeats 2000000 in
theorem md_open {n : Nat} {cs : List Value} {y : DataW H × List MemPlace} (h : DataW.trod enc Tryz.prog W base sp hd n 58 cs = some y) : ∃ x : Md, IsMd W x cs ∧ Qmd x (y.1.weights Tryz.prog 58) := by
  obtain ⟨fs, hu, hfs⟩ := fields_some mdF
  obtain ⟨xs, k, _, rfl, hlen, hxl, hf⟩ := DataW.trod_struct hu h
  rw [show Tryz.prog.cellsOf 58 = 5 by kernel_rfl] at hlen
  obtain ⟨_, c9, _, cp, _, ci, cd⟩ := c1s
  have u9 : Tryz.prog.underlying 9 = some .string := by kernel_rfl
  obtain ⟨fl⟩ := fs
  simp only at hfs
  match fl, hfs with
  | [f0, f1, f2, f3], hfs =>
    simp only [List.map_cons, List.map_nil, List.cons.injEq, Prod.mk.injEq, and_true] at hfs
    obtain ⟨⟨t0, o0⟩, ⟨t1, o1⟩, ⟨t2, o2⟩, ⟨t3, o3⟩⟩ := hfs
    match xs, hxl, cs, hlen with
    | [y0, y1, y2, y3], _, [v0, v1, v2, v3, v4], _ =>
      have g0 := hf 0 f0 rfl
      have g1 := hf 1 f1 rfl
      have g2 := hf 2 f2 rfl
      have g3 := hf 3 f3 rfl
      simp only [t0, o0, t1, o1, t2, o2, t3, o3, c9, cp, ci, cd] at g0 g1 g2 g3
      simp only [List.drop_zero, List.drop_succ_cons, List.take_succ_cons, List.take_zero, List.getElem?_cons_zero, List.getElem?_cons_succ, List.take_nil] at g0 g1 g2 g3
      obtain ⟨s0, h0, e0, w0⟩ := DataW.trod_string u9 g0
      obtain ⟨li, hli, hxi, hNi⟩ := row_open tyImps (n := 5) (by kernel_rfl) (by decide) IsIm (fun x cs r => by rw [r]; rfl) Qim Qim.mono (fun m cs y h => im_open h) (d := y1.1) (p := y1.2) g1
      obtain ⟨ld, hld, hxd, hNd⟩ := row_open tyDefs (n := 6) (by kernel_rfl) (by decide) IsDf (fun x cs ⟨_, r, _⟩ => by rw [r]; rfl) Qdf Qdf.mono (fun m cs y h => df_open h) (d := y2.1) (p := y2.2) g2
      obtain ⟨i, j, rfl, rfl⟩ := place_open g3
      cases h0
      have hw : (DataW.agg (List.map (fun x => x.1) [y0, y1, y2, y3])).weights Tryz.prog 58 = DataW.weightsEach Tryz.prog ([f0, f1, f2, f3].map (·.type)) [y0.1, y1.1, y2.1, y3.1] := by
        simp only [DataW.weights, hu]; rfl
      have h1w : ∀ k ∈ y1.1.weights Tryz.prog 56, k ∈ DataW.weightsEach Tryz.prog ([f0, f1, f2, f3].map (·.type)) [y0.1, y1.1, y2.1, y3.1] := fun k hk => DataW.weights_mem_each (j := 1) (t := 56) (d := y1.1) (congrArg some t1) rfl _ hk
      have h2w : ∀ k ∈ y2.1.weights Tryz.prog 55, k ∈ DataW.weightsEach Tryz.prog ([f0, f1, f2, f3].map (·.type)) [y0.1, y1.1, y2.1, y3.1] := fun k hk => DataW.weights_mem_each (j := 2) (t := 55) (d := y2.1) (congrArg some t2) rfl _ hk
      have bi : Tryz.prog.bytesOf 71 = 64 := by kernel_rfl
      have bd : Tryz.prog.bytesOf 54 = 80 := by kernel_rfl
      rw [bi] at hNi
      rw [bd] at hNd
      refine ⟨⟨s0, li, ld, i, j⟩, ⟨v1, v2, rfl, hli, hld⟩, w0, ?_, fun y hy => ?_, ?_, fun y hy => ?_, ?_⟩
      all_goals rw [hw]
      · exact DataW.weights_mem_each (j := 0) (t := 9) (d := y0.1) (congrArg some t0) rfl _ (by rw [e0]; exact weights_lit s0 _)
      · exact (hxi y hy).mono _ _ _ h1w
      · exact or_mono h1w hNi
      · exact (hxd y hy).mono _ _ _ h2w
      · exact or_mono h2w hNd
/-- A list of modules, opened. -/
theorem mods_open {fuel : Nat} {v : Value} {d : DataW H} {p : List MemPlace} (h : DataW.trod enc Tryz.prog W base sp hd fuel 30 [v] = some (d, p)) :
    ∃ l : List Md, IsMods W v l ∧ (∀ x ∈ l, Qmd x (d.weights Tryz.prog 30)) ∧ (l = [] ∨ ∃ N, l.length ≤ N ∧ N * 80 ∈ d.weights Tryz.prog 30) := by
  obtain ⟨l, h1, h2, h3⟩ := row_open tyMods (n := 5) (by kernel_rfl) (by decide) IsMd (fun x cs ⟨_, _, r, _⟩ => by rw [r]; rfl) Qmd Qmd.mono (fun m cs y h => md_open h) h
  rw [show Tryz.prog.bytesOf 58 = 80 by kernel_rfl] at h3
  exact ⟨l, h1, h2, h3⟩
end
end Go.Proofs.YtpikfdkgblghhaaGreatDoor
