/- The statements' own helpers on lists of nodes: likeness, the marks. The statements' own helpers on lists of nodes: how much there is. CoreChecks returns true, whatever list is handed in. The document's rule: If. -/
import Derived.Test.YtnhihajhhlilfaaMgal
import Derived.Test.YtnhihajhhlilfaaMgbp
import Derived.Test.YtnhihajhhlilfaaMgbq
import Derived.Test.YtnhihajhhlilfaaMgbh
import Derived.BigQuiet
import Derived.Deep.RegionHeld3
namespace Go.Proofs.Ytnhihajhhlilfaa
open Go.RowKit
set_option maxRecDepth 100000
set_option linter.unusedSimpArgs false

set_option maxHeartbeats 4000000 in
theorem eqNodes_same (l : List Tr.Nd) (hlen : l.length ≤ 2199023255552) (va vb : Value) (w : World) (hla : IsNodes w va l) (hlb : IsNodes w vb l) :
    Calls Try.prog 11 #[va, vb] w fun e w' => e = .returned (.bool true) ∧ ∃ n, w' = w.drewN n := by
  obtain ⟨a, c, rfl⟩ := hla.form
  obtain ⟨a2, c2, rfl⟩ := hlb.form
  have hne : ((l.length : Int) != (l.length : Int)) = false := by simp
  go_enter Try.func11, Try.ntmps11
  go_wp2_with fail
  clear hne
  go_loopg [5] l.length (fun g t wr => ∃ k n : Nat, k + g = l.length ∧ t = .int .i64 (k : Int) ∧ wr = w.drewN n)
  case atStart => exact ⟨0, 0, by omega, rfl, rfl⟩
  case round =>
    obtain ⟨k, n, hkg, rfl, rfl⟩ := hrel
    by_cases hk : k < l.length
    · have hk' : (k : Int) < (l.length : Int) := by omega
      have hk0 : (0 : Int) ≤ (k : Int) := by omega
      obtain ⟨x, hx, hdx⟩ := getc hk
      obtain ⟨b1, o1, rfl, hc1, hl1, hcx⟩ := hla.at hx
      obtain ⟨b2, o2, rfl, hc2, hl2, hcy⟩ := hlb.at hx
      obtain ⟨p0, p1, p2, p3, p4, p5, p6, p7⟩ := agg_cells (o := o1 + k * 8) hcx
      obtain ⟨q0, q1, q2, q3, q4, q5, q6, q7⟩ := agg_cells (o := o2 + k * 8) hcy
      clear hcx hcy hdx hx hla hlb
      go_wp2_with fail
      go_quiet (fail)
      go_wp2_with fail
      go_roundg (l.length - (k + 1))
      case measure => omega
      case rel => exact ⟨k + 1, _, by omega, by go_num, by first | rfl | exact World.drewN_drewN⟩
    · have hk' : ¬ (k : Int) < (l.length : Int) := by omega
      go_wp2_with fail
      go_ret
      exact ⟨rfl, n, rfl⟩

set_option maxHeartbeats 4000000 in
theorem spareNodes_any (l : List Tr.Nd) (hlen : l.length ≤ 2147483647) (g : Nat) (w : World) (hW : Wide w g l) :
    Calls Try.prog 12 #[.slice (some ⟨g, 0, none⟩) l.length (l.length + 64)] w fun e w' => e = .returned (.bool true) ∧ Below w.heap.size w w' := by
  have hn64 : (l.length : Int) + 64 ≤ ((l.length + 64 : Nat) : Int) := by omega
  have hn0 : (0 : Int) ≤ (l.length : Int) + 64 := by omega
  have hcast : ((l.length : Int) + 64).toNat = l.length + 64 := by omega
  go_enter Try.func12, Try.ntmps12
  go_wp2_with fail
  go_loopg [4] 64 (fun gg t wr => ∃ k : Nat, k + gg = l.length + 64 ∧ l.length ≤ k ∧ t = .int .i64 (k : Int) ∧ Below w.heap.size w wr)
  case atStart => exact ⟨l.length, by omega, by omega, rfl, Below.refl _ _⟩
  case round =>
    obtain ⟨k, hkg, hlk, rfl, hB⟩ := hrel
    by_cases hk : k < l.length + 64
    · have hk' : (k : Int) < ((l.length : Int) + 64) := by omega
      have hk0 : (0 : Int) ≤ (k : Int) := by omega
      have hcx := (hW.below hB).cells hk
      rw [wdN_out hlk] at hcx
      have p0 : wr.cell? ⟨g, k * 8, none⟩ = some (.int .i8 0) := hcx 0 _ rfl
      have p1 : wr.cell? ⟨g, k * 8 + 1, none⟩ = some (.int .i64 (1048576 * 9 + (k : Int) + 1)) := hcx 1 _ rfl
      have p2 : wr.cell? ⟨g, k * 8 + 2, none⟩ = some (.int .i64 0) := hcx 2 _ rfl
      have p3 : wr.cell? ⟨g, k * 8 + 3, none⟩ = some (.string ⟨#[]⟩) := hcx 3 _ rfl
      have p4 : wr.cell? ⟨g, k * 8 + 4, none⟩ = some (.string ⟨#[]⟩) := hcx 4 _ rfl
      have p5 : wr.cell? ⟨g, k * 8 + 5, none⟩ = some (.string ⟨#[]⟩) := hcx 5 _ rfl
      have p6 : wr.cell? ⟨g, k * 8 + 6, none⟩ = some (.int .i64 0) := hcx 6 _ rfl
      have p7 : wr.cell? ⟨g, k * 8 + 7, none⟩ = some (.int .i64 0) := hcx 7 _ rfl
      have hnum : ∀ w, Calls Try.prog 23 #[.int .i64 9, .int .i64 k] w fun e w' => e = .returned (.int .i64 (9437184 + (k : Int) + 1)) ∧ w' = w := num_any 9 k (by omega) (by omega)
      have hws := hB.size
      clear hcx hW
      go_wp2_with fail
      go_quiet ((go_at_call 23; exact Calls.quiet_of_same (hnum _)))
      go_wp2_with fail
      go_roundg (l.length + 64 - (k + 1))
      case measure => omega
      case rel => exact ⟨k + 1, by omega, by omega, by go_num, below_drewN (hB.alloc hws _) _⟩
    · have hk' : ¬ (k : Int) < ((l.length : Int) + 64) := by omega
      go_wp2_with fail
      go_ret
      exact ⟨rfl, hB⟩
end Go.Proofs.Ytnhihajhhlilfaa
namespace Go.Proofs.Ytnhihajhhlilfaa
open Go.RowKit
set_option maxRecDepth 100000
set_option linter.unusedSimpArgs false

set_option maxHeartbeats 400000 in
theorem long_any (z : Int) (w : World) : Calls Try.prog 20 #[.int .i64 z] w fun e w' => e = .returned (.bool (decide (2147483647 < z))) ∧ w' = w := by
  go_enter Try.func20, Try.ntmps20
  go_wp2
  go_ret
  exact ⟨rfl, rfl⟩

/-- The texts of a list are no longer than what fits into memory. -/
def Texts (l : List Tr.Nd) : Prop := ∀ x ∈ l, x.s.size ≤ 140737488355328 ∧ x.t.size ≤ 140737488355328 ∧ x.u.size ≤ 140737488355328

set_option maxHeartbeats 2000000 in
theorem sizeNodes_any (l : List Tr.Nd) (hlen : l.length ≤ 2199023255552) (hT : Texts l) (v : Value) (w : World) (hl : IsNodes w v l) :
    Calls Try.prog 21 #[v] w fun e w' => ∃ z : Nat, e = .returned (.int .i64 (z : Int)) ∧ l.length ≤ z ∧ ∃ n, w' = w.drewN n := by
  obtain ⟨a, c, rfl⟩ := hl.form
  go_enter Try.func21, Try.ntmps21
  go_wp2_with fail
  go_loopg [3, 4] l.length (fun g s t wr => ∃ k z n : Nat, k + g = l.length ∧ t = .int .i64 (k : Int) ∧ s = .int .i64 (z : Int) ∧ l.length ≤ z ∧ z ≤ 4611686018427387904 ∧ wr = w.drewN n)
  case atStart => exact ⟨0, l.length, 0, by omega, rfl, rfl, by omega, by omega, rfl⟩
  case round =>
    obtain ⟨k, z, n, hkg, rfl, rfl, hlz, hz, rfl⟩ := hrel
    by_cases hk : k < l.length
    · have hk' : (k : Int) < (l.length : Int) := by omega
      have hk0 : (0 : Int) ≤ (k : Int) := by omega
      by_cases hz2 : z ≤ 2147483647
      · have hz2' : (z : Int) ≤ 2147483647 := by omega
        obtain ⟨x, hx, hdx⟩ := getc hk
        obtain ⟨b1, o1, rfl, hc1, hl1, hcx⟩ := hl.at hx
        obtain ⟨p0, p1, p2, p3, p4, p5, p6, p7⟩ := agg_cells (o := o1 + k * 8) hcx
        obtain ⟨t1, t2, t3⟩ := hT x (List.mem_of_getElem? hx)
        have e1 : IntKind.i64.wrap ((z : Int) + (x.s.size : Int)) = (z : Int) + (x.s.size : Int) := IntWalk.i64_in _ (by omega)
        have e2 : IntKind.i64.wrap ((z : Int) + (x.s.size : Int) + (x.t.size : Int)) = (z : Int) + (x.s.size : Int) + (x.t.size : Int) := IntWalk.i64_in _ (by omega)
        have e3 : IntKind.i64.wrap ((z : Int) + (x.s.size : Int) + (x.t.size : Int) + (x.u.size : Int)) = (z : Int) + (x.s.size : Int) + (x.t.size : Int) + (x.u.size : Int) := IntWalk.i64_in _ (by omega)
        clear hcx hdx hx hl hT
        go_wp2_with fail
        go_quiet (fail)
        go_wp2_with fail
        go_roundg (l.length - (k + 1))
        case measure => omega
        case rel => exact ⟨k + 1, z + x.s.size + x.t.size + x.u.size, _, by omega, by go_num, by go_num, by omega, by omega, by first | rfl | exact World.drewN_drewN⟩
      · have hz2' : decide ((z : Int) ≤ 2147483647) = false := by simp; omega
        go_wp2_with fail
        go_ret
        exact ⟨z, rfl, hlz, n, rfl⟩
    · have hk' : ¬ (k : Int) < (l.length : Int) := by omega
      have hk2 : decide ((k : Int) < (l.length : Int)) = false := by simpa using hk'
      go_wp2_with fail
      go_ret
      exact ⟨z, rfl, hlz, n, rfl⟩

end Go.Proofs.Ytnhihajhhlilfaa
namespace Go.Proofs.Ytnhihajhhlilfaa
open Go.RowKit Co
open T3.Tp (Ty enc cns)
open Tr (T Nd flat flats)
set_option maxRecDepth 100000
set_option linter.unusedSimpArgs false
set_option linter.unusedVariables false

set_option maxHeartbeats 1000000 in
theorem dlong_any (l : List Tr.Nd) (hlen : l.length ≤ 2199023255552) (hT : Texts l) (v : Value) (w : World) (hl : IsNodes w v l) :
    Calls Try.prog 6 #[v] w fun e w' => ∃ b : Bool, e = .returned (.bool b) ∧ (b = false → l.length ≤ 32768) ∧ Below w.heap.size w w' := by
  have hs := sizeNodes_any l hlen hT v w hl
  obtain ⟨a, c, rfl⟩ := hl.form
  clear hl
  by_cases h : 32768 < l.length
  · have h' : (32768 : Int) < (l.length : Int) := by omega
    go_enter Try.func6, Try.ntmps6
    go_wp2_with fail
    go_ret
    exact ⟨true, rfl, (fun h => by cases h), Below.refl _ _⟩
  · have h' : ¬ (32768 : Int) < (l.length : Int) := by omega
    go_enter Try.func6, Try.ntmps6
    go_wp2_with fail
    refine hs.mono ?_
    rintro e w1 ⟨z, rfl, -, n, rfl⟩
    clear hs
    go_wp2_with (go_at_call 20; refine (long_any _ _).mono ?_; rintro e w2 ⟨rfl, rfl⟩)
    go_ret
    exact ⟨_, rfl, (fun _ => by omega), below_drewN (Below.refl _ _) _⟩
theorem pck_any (l : List Nd) (hl : l.length ≤ 100000) (hf : FitC l) (v : Value) (w : World) (hv : IsNodes w v l) :
    Calls Try.prog 9 #[v] w fun e w' => e = .returned (.tuple #[.string (ckS (Co.check l)), .int .i64 (ckE (Co.check l)), .int .i64 (ckA (Co.check l))]) ∧ Below w.heap.size w w' := by
  have := ccheck_any l hl hf v w hv
  rw [ckV_eq] at this
  exact this
theorem dck_any (H9 : Dru9) (l : List Nd) (hl : l.length ≤ 100000) (hf : FitC l) (v : Value) (w : World) (hv : IsNodes w v l) :
    Calls Try.prog 10 #[v] w fun e w' => e = .returned (.tuple #[.string (ckS (Co.check l)), .int .i64 (ckE (Co.check l)), .int .i64 (ckA (Co.check l))]) ∧ Below w.heap.size w w' := by
  have := dCheck_any H9 l hl hf v w hv
  rw [ckV_eq] at this
  exact this

set_option maxHeartbeats 4000000 in
theorem coreChecks_any (H9 : Dru9) (l : List Tr.Nd) (hn : l.length ≤ 2199023255552) (hf : FitC l) (hT : Texts l) (v : Value) (w : World) (hl : IsNodes w v l) :
    Calls Try.prog 3 #[v] w fun e w' => e = .returned (.bool true) ∧ Below w.heap.size w w' := by
  obtain ⟨a, c, rfl⟩ := hl.form
  have hL := dlong_any l hn hT _ w hl
  go_enter Try.func3, Try.ntmps3
  go_wp2_with fail
  refine hL.mono ?_
  rintro e w1 ⟨b, rfl, hb, hB1⟩
  clear hL
  have hl1 := hl.below hB1
  clear hl
  cases b with
  | true =>
    clear hb hl1
    go_wp2_with fail
    refine (works_any _).mono ?_
    rintro e w2 ⟨rfl, hB2⟩
    have hA := bt hB1 hB2
    clear hB1 hB2
    go_wp2_with fail
    go_ret
    exact ⟨rfl, hA⟩
  | false =>
    have h3 := hb rfl
    clear hb
    go_wp2_with fail
    refine (wideNodes_any l (by omega) _ w1 hl1).mono ?_
    rintro e w3 ⟨rfl, hW3, hB3⟩
    have hl3 := hl1.below hB3
    have hA3 := bt hB1 hB3
    generalize w1.heap.size = g at hW3 ⊢
    clear hl1 hB1 hB3
    go_wp2_with fail
    refine (pck_any l (by omega) hf _ w3 hW3.nodes).mono ?_
    rintro e w4 ⟨rfl, hB4⟩
    have hl4 := hl3.below hB4
    have hW4 := hW3.below hB4
    have hA4 := bt hA3 hB4
    clear hl3 hW3 hA3 hB4
    go_wp2_with fail
    refine (dck_any H9 l (by omega) hf _ w4 hl4).mono ?_
    rintro e w5 ⟨rfl, hB5⟩
    have hl5 := hl4.below hB5
    have hW5 := hW4.below hB5
    have hA5 := bt hA4 hB5
    clear hl4 hW4 hA4 hB5
    generalize ckS (Co.check l) = r1
    generalize ckE (Co.check l) = r2
    generalize ckA (Co.check l) = r3
    have q1 : (r1.toList == r1.toList) = true := by simp
    have q2 : (r2 == r2) = true := by simp
    have q3 : (r3 == r3) = true := by simp
    go_wp2_with fail
    refine (eqNodes_same l hn _ _ w5 hW5.nodes hl5).mono ?_
    rintro e w6 ⟨rfl, m, rfl⟩
    have hW6 : Wide (w5.drewN m) g l := hW5.below (below_drewN (Below.refl _ _) m)
    have hA6 : Below w.heap.size w (w5.drewN m) := below_drewN hA5 m
    clear hl5 hW5 hA5
    generalize w5.drewN m = w6 at *
    go_wp2_with fail
    refine (spareNodes_any l (by omega) g w6 hW6).mono ?_
    rintro e w7 ⟨rfl, hB7⟩
    have hA7 := bt hA6 hB7
    clear hW6 hA6 hB7
    go_wp2_with fail
    refine (works_any _).mono ?_
    rintro e w8 ⟨rfl, hB8⟩
    have hA8 := bt hA7 hB8
    clear hA7 hB8
    go_wp2_with fail
    go_ret
    exact ⟨rfl, hA8⟩
end Go.Proofs.Ytnhihajhhlilfaa
namespace Go.Proofs.Ytnhihajhhlilfaa
open Go.RowKit Co
open T3.Tp (Ty enc cns)
set_option maxRecDepth 100000
set_option linter.unusedSimpArgs false
set_option linter.unusedVariables false

set_option maxHeartbeats 16000000 in
theorem dru9 {w : World} {wb : Nat} {tv av : Value} {a : Int} (x : Tr.Nd) (i : Nat) (env : List Ty) (b o c : Nat) (t0 t1 t2 : Ty) (z0 : (enc t0).length ≤ 64) (z1 : (enc t1).length ≤ 64) (z2 : (enc t2).length ≤ 64) (hc : 3 ≤ c) (h : IsWk w wb tv av a 0 0) (hb : b < w.heap.size) (ht : ∀ j t, [t0, t1, t2][j]? = some t → w.cell? ⟨b, o + j, none⟩ = some (.string (S (enc t)))) (hne : b ≠ wb) (hκ : x.kind = 9) :
    Calls Try.prog 82 #[.pointer (some ⟨wb, 0, none⟩), .agg (ndA x), .slice (some ⟨b, o, none⟩) 3 c, .int .i64 (i : Int)] w (DrEnd w wb tv av a (rul env x i [t0, t1, t2])) := by
  have hR := Rt.mk' x h hb ht hne
  obtain ⟨W1, hW1⟩ : ∃ W1, W1 = w.alloc (.cells (ndA x) 44) := ⟨_, rfl⟩
  rw [← hW1] at hR
  have k0 : W1.cell? ⟨w.heap.size, 0, none⟩ = some (.int .i8 x.kind) := (block_cells hR.ah.n).1 0
  have k4 : W1.cell? ⟨w.heap.size, 4, none⟩ = some (.string x.t) := (block_cells hR.ah.n).1 4
  rw [hκ] at k0
  have p0 : W1.cell? ⟨b, o, none⟩ = some (.string (S (enc t0))) := hR.tx 0 t0 rfl
  have p1 : W1.cell? ⟨b, o + 1, none⟩ = some (.string (S (enc t1))) := hR.tx 1 t1 rfl
  have p2 : W1.cell? ⟨b, o + 2, none⟩ = some (.string (S (enc t2))) := hR.tx 2 t2 rfl
  have hw0 := fun k => want0_any (w := W1) wb k
  have hw1 := want1_any hR.ah.k (i : Int)
  have hw0 : ∀ (w : World) k, _ := fun w k => want0_any (w := w) wb k
  have hw1d := want1_drew hR.ah.k (i : Int)
  clear hw1
  have s0 : ((S (enc t0)).toList == [98]) = decide (t0 = .tb) := Sc_eq t0 .tb
  have s1 := Sx_eq t1 t2
  have HP : Aside (∀ w1, Fld W1 wb tv av a 23 (i : Int) w1 → w1.cell? ⟨b, o + 1, none⟩ = some (.string (S (enc t1)))) := fun w1 hF => hF.1.cell p1 (by simp; exact hne)
  by_cases e0 : t0 = .tb
  · rw [show decide (t0 = .tb) = true by simpa using e0] at s0
    by_cases e1 : t1 = t2
    · rw [show decide (t1 = t2) = true by simpa using e1] at s1
      have hr : rul env x i [t0, t1, t2] = .ok t1 := by unfold rul; simp [hκ, e0, e1]
      have HE : Aside (DrEnd w wb tv av a (rul env x i [t0, t1, t2]) (.returned (.string (S (enc t1)))) W1.drew) := hR.good_drew hr rfl
      clear hr hR h ht hκ hw1d e0 e1 HP z0 z1 z2
      generalize S (enc t0) = u0 at *
      generalize S (enc t1) = u1 at *
      generalize S (enc t2) = u2 at *
      go_enter Try.func82, Try.ntmps82
      go_upto_region 1 with fail
      try rw [← hW1]
      clear hW1
      go_wp2_with fail
      go_region_with (go_at_call 80; refine (hw0 _ _).mono ?_; rintro e w1 ⟨rfl, hw1⟩; replace hw1 := hw1.symm; subst hw1)
      all_goals
        go_wp2_with fail
        go_ret
        exact HE.out
    · rw [show decide (t1 = t2) = false by simpa using e1] at s1
      have hr : rul env x i [t0, t1, t2] = .error (23, i) := by unfold rul; simp [hκ, e0, e1]
      have HB := hR.bad hr
      clear hr hR h ht hκ hw0 e0 e1 z0 z1 z2
      generalize S (enc t0) = u0 at *
      generalize S (enc t1) = u1 at *
      generalize S (enc t2) = u2 at *
      go_enter Try.func82, Try.ntmps82
      go_upto_region 1 with fail
      try rw [← hW1]
      clear hW1
      go_wp2_with fail
      go_region_with (go_at_call 80; refine hw1d.mono ?_; rintro e w1 ⟨rfl, hF⟩; have hE := fun s => HB w1 s hF; have p1' := HP.out w1 hF)
      all_goals
        go_wp2_with fail
        go_ret
        exact hE _
  · rw [show decide (t0 = .tb) = false by simpa using e0] at s0
    have hr : rul env x i [t0, t1, t2] = .error (23, i) := by unfold rul; simp [hκ, e0]
    have HB := hR.bad hr
    have s0a : decide ((S (enc t0)).toList = [98]) = false := by simpa using s0
    have s0b : ¬ (S (enc t0)).toList = [98] := by simpa using s0
    clear hr hR h ht hκ hw0 e0 s1 z0 z1 z2
    generalize S (enc t0) = u0 at *
    generalize S (enc t1) = u1 at *
    generalize S (enc t2) = u2 at *
    go_enter Try.func82, Try.ntmps82
    go_upto_region 1 with fail
    try rw [← hW1]
    clear hW1
    go_wp2_with fail
    first | go_region_with (go_at_call 80; refine hw1d.mono ?_; rintro e w1 ⟨rfl, hF⟩; have hE := fun s => HB w1 s hF; have p1' := HP.out w1 hF) | fail
    all_goals
      go_wp2_with fail
      go_ret
      exact hE _

end Go.Proofs.Ytnhihajhhlilfaa
