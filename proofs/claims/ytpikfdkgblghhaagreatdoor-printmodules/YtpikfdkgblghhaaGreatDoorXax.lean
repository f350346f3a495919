/- What the program's Deep and Equal answer. -/
import Derived.Test.YtpikfdkgblghhaaGreatDoorXaw
namespace Go.Proofs.YtpikfdkgblghhaaGreatDoor
open Go.RowKit
set_option maxRecDepth 100000
set_option linter.unusedSimpArgs false

theorem entersDeep1 : ∀ args w, (callFunc 185 args).run Tryz.prog w = .ok (.enter 185 args) w := enters_of Tryz.func185 (by kernel_rfl) rfl

/-- The greatest depth; 0 of a list that isn't whole. -/
def deepN (l : List Tr.Nd) : Nat := if bhI l 0 = 0 ∨ bhI l 0 < l.length then 0 else Tr.mx (Tr.dps (Tr.kd l) [1]) 0
def DI (l : List Tr.Nd) (bd : Nat) (k : Nat) (st : List Nat) (w : World) : Prop :=
  ∃ d : Nat, w.cell? ⟨bd, 0, none⟩ = some (.int .i64 (d : Int)) ∧ w.frozen? ⟨bd, 0, none⟩ = false ∧ Tr.go (Tr.kd l) [1] 0 = Tr.go (Tr.kd (l.drop k)) st k ∧ Tr.mx (Tr.dps (Tr.kd l) [1]) 0 = Tr.mx (Tr.dps (Tr.kd (l.drop k)) st) d
def DJ (l : List Tr.Nd) (k : Nat) (_ : List Nat) (_ : World) : Prop := Tr.go (Tr.kd l) [1] 0 = (false, k)

set_option maxHeartbeats 1000000 in
theorem deep1_any (l : List Tr.Nd) (v : Value) (bd base : Nat) :
    Visits l v 185 #[.pointer (some ⟨bd, 0, none⟩)] (some bd) base (DI l bd) (DJ l) := by
  intro k m st x w hx hst hl hb hI
  obtain ⟨d, hcd, hfd, hgo, hmx⟩ := hI
  rw [Tr.drop_kd hx] at hgo hmx
  have HG1 : Aside (0 ≤ x.kids → Tr.go (Tr.kd l) [1] 0 = Tr.go (Tr.kd (l.drop (k + 1))) (x.kids.toNat :: m :: st) (k + 1)) := fun h => by rw [hgo, Tr.go_next (by simp [Tr.popz]) h]; rfl
  have HG2 : Aside (x.kids < 0 → Tr.go (Tr.kd l) [1] 0 = (false, k)) := fun h => by rw [hgo, Tr.go_neg (by simp [Tr.popz]) h]
  have HM : Aside (Tr.mx (Tr.dps (Tr.kd l) [1]) 0 = Tr.mx (Tr.dps (Tr.kd (l.drop (k + 1))) (x.kids.toNat :: m :: st)) (max d (st.length + 1))) := by
    show _ = _
    rw [hmx, Tr.dps_next (by simp [Tr.popz]), Tr.mx]; rfl
  clear hgo hmx hx hl
  show Calls Tryz.prog 185 #[.int .i64 (k : Int), .int .i64 ((st.length + 1 : Nat) : Int), .pointer (some ⟨bd, 0, none⟩)] w _
  go_enter Tryz.func185, Tryz.ntmps185
  go_wp2_with fail
  refine bodyPost_end (results_none rfl _ _ _) rfl ?_
  refine ⟨grownBy_set (grownBy_refl _ _) _, .inl ⟨rfl, fun h => ⟨max d (st.length + 1), ?_, ?_, HG1.out h, HM.out⟩, fun h => HG2.out h⟩⟩
  · simp [go_sem, hcd]
    omega
  · rw [World.frozen?_setCell]; exact hfd

set_option maxHeartbeats 2000000 in
theorem deep_any (l : List Tr.Nd) (hf : Fits l) (v : Value) (w : World) (hl : IsNodes w v l) :
    Calls Tryz.prog 147 #[v] w fun e w' => e = .returned (.int .i64 (deepN l : Int)) ∧ Below w.heap.size w w' := by
  have hmf : ∀ (fn : Fn) (first cap : Array Value) (w : World), (Instr.makeFunc fn first cap).run Tryz.prog w = .ok (.func fn first cap) w := fun _ _ _ _ => rfl
  obtain ⟨a, c, rfl⟩ := hl.form
  have hb0 := behind_any l hf.len hf.kids (.slice a l.length c) 0 w hl
  have hend : bhI l 0 ≠ 0 → bhI l 0 ≤ l.length := fun h => by obtain ⟨x, n, _, _, _, _, h2, _⟩ := part_facts (p := 0) (l := l) (by simpa using h); simpa using h2
  have HBG : Aside (0 < l.length → bhI l 0 = if (Tr.go (Tr.kd (l.drop 0)) [1] 0).1 then (Tr.go (Tr.kd (l.drop 0)) [1] 0).2 else 0) := fun h => bhI_go h
  by_cases h0 : bhI l 0 = 0
  · have HN : Aside (deepN l = 0) := by show _ = _; unfold deepN; rw [if_pos (.inl h0)]
    rw [h0] at hb0
    clear h0 hend
    go_enter Tryz.func147, Tryz.ntmps147
    go_wp2_with (go_at_call 184; refine hb0.mono ?_; rintro e w1 ⟨rfl, hB1⟩)
    go_ret
    rw [HN.out]
    exact ⟨rfl, hB1⟩
  · have he := hend h0
    have hp : 0 < l.length := by omega
    have h0' : ((bhI l 0 : Int) == 0) = false := by simpa using h0
    by_cases h1 : bhI l 0 < l.length
    · have HN : Aside (deepN l = 0) := by show _ = _; unfold deepN; rw [if_pos (.inr h1)]
      have h1' : (bhI l 0 : Int) < (l.length : Int) := by omega
      clear h0 hend
      go_enter Tryz.func147, Tryz.ntmps147
      go_wp2_with (go_at_call 184; refine hb0.mono ?_; rintro e w1 ⟨rfl, hB1⟩)
      go_ret
      rw [HN.out]
      exact ⟨rfl, hB1⟩
    · have HN : Aside (deepN l = Tr.mx (Tr.dps (Tr.kd l) [1]) 0) := by show _ = _; unfold deepN; rw [if_neg (by omega)]
      have h1' : decide ((bhI l 0 : Int) < (l.length : Int)) = false := by simp; omega
      have HG : Aside (Tr.go (Tr.kd l) [1] 0 = (true, l.length)) := by
        show _ = _
        have := HBG.out hp
        rw [List.drop_zero] at this
        cases hg : Tr.go (Tr.kd l) [1] 0 with
        | mk b e =>
          rw [hg] at this
          cases b
          · simp at this; omega
          · simp at this
            rw [show e = l.length by omega]
      clear hend h0
      have hwk : ∀ w1 : World, Below w.heap.size w w1 → Calls Tryz.prog 50 #[.slice a l.length c, .int .i64 0, .func (.func 185) #[] #[.pointer (some ⟨w1.heap.size, 0, none⟩)]] (w1.alloc (.cells #[.int .i64 0] 3)) fun e w' => (w1.alloc (.cells #[.int .i64 0] 3)).grownBy w' (some w1.heap.size) ∧ WEnd l (DI l w1.heap.size) (DJ l) w' e := by
        intro w1 hB1
        have hl1 := (hl.below hB1).below ((Below.refl w1.heap.size w1).alloc (Nat.le_refl _) (.cells #[.int .i64 0] 3))
        refine walk_any l hf.len hf.kids (.slice a l.length c) 185 #[.pointer (some ⟨w1.heap.size, 0, none⟩)] (some w1.heap.size) 0 (by omega) _ (DI l w1.heap.size) (DJ l) entersDeep1 hl1 (Off.fresh hl hp hB1.size) (fun b h => by cases h; simp) (deep1_any l _ _ _) ?_ ?_ ?_
        · rintro k st w2 w3 ⟨d, a1, a2, a3, a4⟩ hB
          exact ⟨d, (hB.cell (p := ⟨w1.heap.size, 0, none⟩) (by simp)).trans a1, (hB.frozen (p := ⟨w1.heap.size, 0, none⟩) (by simp)).trans a2, a3, a4⟩
        · rintro k r w2 ⟨d, a1, a2, a3, a4⟩
          exact ⟨d, a1, a2, by rw [a3, Tr.go_pop], by rw [a4, Tr.dps_pop]⟩
        · exact ⟨0, by simp [go_sem], by simp [go_sem], rfl, rfl⟩
      go_enter Tryz.func147, Tryz.ntmps147
      go_wp2_with (first | (go_at_call 184; refine hb0.mono ?_; rintro e w1 ⟨rfl, hB1⟩) | (go_at_call 50; refine (hwk _ hB1).mono ?_))
      rintro e w2 ⟨hg2, hen⟩
      have hB2 : Below w.heap.size w w2 := (hB1.alloc hB1.size _).grown hg2 (by simp; have := hB1.size; omega) (fun k e => by cases e; exact hB1.size)
      cases hen with
      | done j st hj hst hI =>
        obtain ⟨d, a1, a2, a3, a4⟩ := hI
        have HD : Aside (deepN l = d) := by show _ = _; rw [HN.out, a4, Tr.dps_done hst]; rfl
        clear a3 a4
        go_wp2_with fail
        go_ret
        rw [HD.out]
        exact ⟨rfl, hB2⟩
      | short st hst hI =>
        obtain ⟨d, a1, a2, a3, a4⟩ := hI
        exfalso
        rw [HG.out, List.drop_length] at a3
        have := Tr.go_end hst l.length
        rw [show Tr.kd ([] : List Tr.Nd) = [] from rfl, this] at a3
        simp at a3
      | bad j st hj hst hJ =>
        exfalso
        unfold DJ at hJ
        rw [HG.out] at hJ
        simp at hJ
end Go.Proofs.YtpikfdkgblghhaaGreatDoor
