/- What the program's Behind answers. -/
import Derived.Test.YtpikfdkgblghhaaGreatDoorXan
import Derived.Defers
import Derived.Recover
namespace Go.Proofs.YtpikfdkgblghhaaGreatDoor
open Go.RowKit
set_option maxRecDepth 100000
set_option linter.unusedSimpArgs false

theorem entersBehind2 : ∀ args w, (callFunc 215 args).run Tryz.prog w = .ok (.enter 215 args) w := enters_of Tryz.func215 (by kernel_rfl) rfl

theorem Tr.drop_kd {l : List Tr.Nd} {k : Nat} {x : Tr.Nd} (h : l[k]? = some x) : Tr.kd (l.drop k) = x.kids :: Tr.kd (l.drop (k + 1)) := by
  obtain ⟨hk, rfl⟩ := List.getElem?_eq_some_iff.1 h
  rw [List.drop_eq_getElem_cons hk]; rfl

set_option maxHeartbeats 400000 in
theorem behind2_any (k d : Int) (w : World) : Calls Tryz.prog 215 #[.int .i64 k, .int .i64 d] w fun e w' => e = .returned (.tuple #[]) ∧ w' = w := by
  go_enter Tryz.func215, Tryz.ntmps215
  go_wp2
  first
    | exact bodyPost_end rfl rfl ⟨rfl, rfl⟩
    | (go_end0; exact ⟨rfl, rfl⟩)

/-- The closure that catches, where nothing is thrown. -/
theorem bcatch_idle (p : Addr) (w : World) :
    CallsD Tryz.prog 214 #[.pointer (some p)] .returning w fun e u' w' => e = .returned (.tuple #[]) ∧ u' = .returning ∧ w' = w := by
  refine callsD_of_wpS Tryz.func214 rfl fun c₀ cs hu => ?_
  apply wpS_seq
  apply wpS_region
  simp [wpOpsS, go_sem, recoverD, hu, Tryz.ntmps214, Exit.thenS]
  refine wpS_cond (t := false) (by simp [Act.eval, Array.replicate]) ?_
  simp only [Bool.false_eq_true, if_false]
  refine wpS_of_wp (wp_skip ?_)
  cases c₀
  simp_all [bodyPostS, results, Tryz.results214]

theorem bcatch_panicking (p : Addr) (x : Int) (u : TypeId) (pv : Value) (older : List PanicEntry) (w : World) (hc : w.cell? p = some (.int .i64 x)) (hz : w.frozen? p = false) :
    CallsD Tryz.prog 214 #[.pointer (some p)] (.panicking ({ v := .iface u pv, recovered := false } :: older)) w fun e u' w' =>
      e = .returned (.tuple #[]) ∧ u' = .panicking ({ v := .iface u pv, recovered := true } :: older) ∧ w' = w.setCell p (.int .i64 0) := by
  refine callsD_of_wpS Tryz.func214 rfl fun c₀ cs hu => ?_
  apply wpS_seq
  apply wpS_region
  simp [wpOpsS, go_sem, recoverD, hu, Tryz.ntmps214, Exit.thenS]
  refine wpS_cond (t := true) (by simp [Act.eval, Array.replicate]) ?_
  simp only [if_true]
  apply wpS_region
  simp [wpOpsS, go_sem, hc, hz, bodyPostS, results, Tryz.results214]

/-- What Behind's walk keeps. -/
theorem behind_visits (l : List Tr.Nd) (v : Value) (base at0 : Nat) :
    Visits l v 215 #[] none base (fun k st _ => Tr.go (Tr.kd (l.drop at0)) [1] at0 = Tr.go (Tr.kd (l.drop k)) st k) (fun k _ _ => Tr.go (Tr.kd (l.drop at0)) [1] at0 = (false, k)) := by
  intro k m st x w hx _ _ _ hI
  refine (behind2_any _ _ w).mono ?_
  rintro e w' ⟨rfl, rfl⟩
  rw [Tr.drop_kd hx] at hI
  refine ⟨grownBy_refl _ _, .inl ⟨rfl, fun h => ?_, fun h => ?_⟩⟩
  · rw [hI, Tr.go_next (by simp [Tr.popz]) h]; rfl
  · rw [hI, Tr.go_neg (by simp [Tr.popz]) h]

/-- Where the part at a place ends; 0: there is none. -/
def bhI (l : List Tr.Nd) (at0 : Int) : Nat := if at0 < 0 then 0 else Tr.bh l at0.toNat
theorem bhI_neg {l : List Tr.Nd} {at0 : Int} (h : at0 < 0 ∨ (l.length : Int) ≤ at0) : bhI l at0 = 0 := by
  unfold bhI Tr.bh
  split
  · rfl
  · rw [if_neg]
    rintro ⟨h1, _⟩
    omega
theorem bhI_go {l : List Tr.Nd} {k : Nat} (hk : k < l.length) : bhI l k = if (Tr.go (Tr.kd (l.drop k)) [1] k).1 then (Tr.go (Tr.kd (l.drop k)) [1] k).2 else 0 := by
  unfold bhI Tr.bh
  rw [if_neg (by omega), Int.toNat_natCast, Tr.go_gs, show List.sum [1] = 1 from rfl]
  cases h : (Tr.gs (Tr.kd (l.drop k)) 1 k).1 <;> simp [h, hk]

set_option maxHeartbeats 2000000 in
theorem behind_any (l : List Tr.Nd) (hlen : l.length ≤ 2199023255552) (hwf : ∀ x ∈ l, x.kids ≤ 9223372036854775807) (v : Value) (at0 : Int) (w : World) (hl : IsNodes w v l) :
    Calls Tryz.prog 184 #[v, .int .i64 at0] w fun e w' => e = .returned (.int .i64 (bhI l at0 : Nat)) ∧ Below w.heap.size w w' := by
  have hmf : ∀ (fn : Fn) (first cap : Array Value) (w : World), (Instr.makeFunc fn first cap).run Tryz.prog w = .ok (.func fn first cap) w := fun _ _ _ _ => rfl
  have hB0 : ∀ o : Obj, Below w.heap.size w (w.alloc o) := fun o => (Below.refl _ _).alloc (Nat.le_refl _) _
  obtain ⟨a, c, rfl⟩ := hl.form
  by_cases hneg : at0 < 0
  · have HN : Aside (bhI l at0 = 0) := bhI_neg (.inl hneg)
    go_enter_defers Tryz.func184, Tryz.ntmps184
    go_wp2_with fail
    simp [bodyPostD, Leaves, settle, results, Tryz.results184, go_sem, HN.out, hB0]
  · by_cases hge : (l.length : Int) ≤ at0
    · have HN : Aside (bhI l at0 = 0) := bhI_neg (.inr hge)
      have hneg' : decide (at0 < 0) = false := by simpa using hneg
      go_enter_defers Tryz.func184, Tryz.ntmps184
      go_wp2_with fail
      simp [bodyPostD, Leaves, settle, results, Tryz.results184, go_sem, HN.out, hB0]
    · obtain ⟨k, rfl⟩ : ∃ k : Nat, at0 = k := ⟨at0.toNat, by omega⟩
      have hk : k < l.length := by omega
      have hk1 : decide ((k : Int) < 0) = false := by simp
      have hk2 : decide ((l.length : Int) ≤ (k : Int)) = false := by simp; omega
      have HG : Aside (bhI l k = if (Tr.go (Tr.kd (l.drop k)) [1] k).1 then (Tr.go (Tr.kd (l.drop k)) [1] k).2 else 0) := bhI_go hk
      have hB1 := hB0 (.cells #[.int .i64 0] 3)
      have hl1 := hl.below hB1
      have hW := walk_any l hlen hwf (.slice a l.length c) 215 #[] none k (by omega) (w.alloc (.cells #[.int .i64 0] 3)) _ _ entersBehind2 hl1 (fun b o n c h => by simp) (fun b h => by cases h) (behind_visits l _ _ k) (fun _ _ _ _ h _ => h) (fun k r w1 h => by rw [h, Tr.go_pop]) rfl
      clear hneg hge hl hl1
      go_enter_defers Tryz.func184, Tryz.ntmps184
      go_wp2_with fail
      refine hW.mono ?_
      rintro e w2 ⟨hg2, hend⟩
      have hB2 : Below w.heap.size w w2 := hB1.grown hg2 (by simp) (fun k e => by cases e)
      have c2 : w2.cell? ⟨w.heap.size, 0, none⟩ = some (.int .i64 0) := hg2.cell (by simp [go_sem]) (by simp)
      have f2 : w2.frozen? ⟨w.heap.size, 0, none⟩ = false := by
        rw [World.frozen?_of_block (w := w.alloc (.cells #[.int .i64 0] 3)) (hg2.block _ (by simp) (by simp))]; simp [go_sem]
      cases hend with
      | done j st hj hst hI =>
        have HR : Aside (bhI l k = j) := by show _ = _; rw [HG.out, hI, Tr.go_done hst]; rfl
        go_wp2_with fail
        refine leaves_cons (f := 214) (args := #[.pointer (some ⟨w.heap.size, 0, none⟩)]) (by simp) (by simp [go_sem]) ?_
        refine (bcatch_idle ⟨w.heap.size, 0, none⟩ _).mono ?_
        rintro e u' w'' ⟨rfl, rfl, rfl⟩
        simp [Leaves, settle, results, Tryz.results184, go_sem, HR.out, c2]
        exact hB2.setCell (Nat.le_refl _) _
      | short st hst hI =>
        have HR : Aside (bhI l k = 0) := by
          show _ = _
          rw [HG.out, hI, List.drop_length]
          show (if (Tr.go [] st l.length).1 then _ else _) = _
          rw [Tr.go_end hst]; rfl
        go_wp2_with fail
        refine leaves_cons (f := 214) (args := #[.pointer (some ⟨w.heap.size, 0, none⟩)]) (by simp) (by simp [go_sem]) ?_
        refine (bcatch_panicking ⟨w.heap.size, 0, none⟩ 0 _ _ [] _ c2 f2).mono ?_
        rintro e u' w'' ⟨rfl, rfl, rfl⟩
        simp [Leaves, settle, results, Tryz.results184, go_sem, HR.out, c2]
        exact hB2.setCell (Nat.le_refl _) _
      | bad j st hj hst hJ =>
        have HR : Aside (bhI l k = 0) := by show _ = _; rw [HG.out, hJ]; rfl
        go_wp2_with fail
        refine leaves_cons (f := 214) (args := #[.pointer (some ⟨w.heap.size, 0, none⟩)]) (by simp) (by simp [go_sem]) ?_
        refine (bcatch_panicking ⟨w.heap.size, 0, none⟩ 0 _ _ [] _ c2 f2).mono ?_
        rintro e u' w'' ⟨rfl, rfl, rfl⟩
        simp [Leaves, settle, results, Tryz.results184, go_sem, HR.out, c2]
        exact hB2.setCell (Nat.le_refl _) _
end Go.Proofs.YtpikfdkgblghhaaGreatDoor
