/- What the program's Meet and Join answer. -/
import Derived.Test.YtgkmoifibcmooaaDoorRelD
namespace Go.Proofs.YtgkmoifibcmooaaDoor
open Go.RowKit
set_option maxRecDepth 100000

set_option maxHeartbeats 2000000 in
theorem merge_any (F : Nat) (sv : Tp.Ty → Tp.Ty → Tp.Ty) (sb : Tp.Ty → Tp.Ty → Bool) (M : Tp.Ty → Tp.Ty → Tp.Ty) (D : Tp.Ty → Tp.Ty → Prop) (hE : ∀ args w, (callFunc F args).run Tryd.prog w = .ok (.enter F args) w) (hF : Settle2 F sv sb) (hM : Merges sv sb M D) (a b : Tp.Ty) (hD : D a b) (ha : (Tp.enc a).length ≤ 64) (hb : (Tp.enc b).length ≤ 64) (w : World) :
    Calls Tryd.prog 53 #[.string (S (Tp.enc a)), .string (S (Tp.enc b)), .func (.func F) #[] #[]] w fun e w' => e = .returned (.tuple #[.string (S (Tp.val (M a b))), .int .i64 (Tp.merr (M a b))]) ∧ Below w.heap.size w w' := by
  have hP := put_any F sv sb M D hE hF hM 64 a b
  have e41 := enters66
  have hsf := store_func
  clear hF hM
  generalize S (Tp.enc a) = s at *
  generalize S (Tp.enc b) = t at *
  go_enter Tryd.func53, Tryd.ntmps53
  go_wp2_with fail
  refine (hP _ _ _ hD ha ha hb (by simp; try omega) (by simp; try omega) ?_ ?_).mono ?_
  · exact cell_old rfl (by simp) (cell_new rfl rfl)
  · exact cell_new rfl (by simp)
  rintro e w' ⟨rfl, hB⟩
  go_wp2_with fail
  go_ret2
  refine ⟨rfl, Below.trans ?_ (hB.mono (by simp; omega))⟩
  exact ((Below.refl _ _).alloc (Nat.le_refl _) _).alloc (by simp) _

theorem enters54 : ∀ args w, (callFunc 54 args).run Tryd.prog w = .ok (.enter 54 args) w := enters_of Tryd.func54 (by kernel_rfl) rfl
theorem enters55 : ∀ args w, (callFunc 55 args).run Tryd.prog w = .ok (.enter 55 args) w := enters_of Tryd.func55 (by kernel_rfl) rfl

def msv (a b : Tp.Ty) : Tp.Ty := if Tp.isq a then b else a
theorem settle_meet : Settle2 54 msv (fun a b => Tp.isq a || Tp.isq b) := by
  intro a b w _ _
  have h := meet1_any a b w
  have e : (if Tp.isq a then S (Tp.enc b) else S (Tp.enc a)) = S (Tp.enc (msv a b)) := by unfold msv; split <;> rfl
  rw [e] at h
  exact h
theorem merges_meet : Merges msv (fun a b => Tp.isq a || Tp.isq b) Tp.met (fun a b => Tp.cns a b = true) := by
  refine ⟨?_, ?_, ?_, ?_, ?_⟩
  · intro a b h k; cases a <;> cases b <;> simp [Tp.isq, Tp.met, msv] at h k ⊢
  · intro a b h k; unfold msv; split <;> assumption
  · intro a b h k; cases a <;> cases b <;> simp [Tp.isq, Tp.met, Tp.cns, Tp.hd] at h k ⊢
  · intro a b h k; cases a <;> cases b <;> simp [Tp.isq, Tp.met, Tp.cns, Tp.kids] at h k ⊢
  · intro a b h k n x y hx hy
    cases a <;> cases b <;> simp [Tp.isq, Tp.cns, Tp.kids] at h k hx hy
    all_goals
      match n with
      | 0 => simp at hx hy; subst hx; subst hy; first | exact h.1 | exact h
      | 1 => simp at hx hy; try (subst hx; subst hy; exact h.2)
      | _ + 2 => simp at hx
def jsb (a b : Tp.Ty) : Bool := ((Tp.hd a).toNat : Int) != ((Tp.hd b).toNat : Int)
theorem jsb_false {a b : Tp.Ty} (h : jsb a b = false) : Tp.hd a = Tp.hd b := by
  unfold jsb at h
  simp only [bne_eq_false_iff_eq] at h
  exact UInt8.toNat_inj.1 (by omega)
theorem jsb_true {a b : Tp.Ty} (h : jsb a b = true) : Tp.hd a ≠ Tp.hd b := by
  unfold jsb at h
  intro e
  rw [e] at h
  simp at h
theorem settle_join : Settle2 55 (fun _ _ => .tq) jsb := fun a b w ha hb => join1_any a b ha hb w
theorem merges_join : Merges (fun _ _ => .tq) jsb Tp.joi (fun _ _ => True) := by
  refine ⟨?_, ?_, ?_, ?_, ?_⟩
  · intro a b _ k; have := jsb_true k; cases a <;> cases b <;> simp [Tp.joi, Tp.hd] at this ⊢
  · intro a b h k; simp [Tp.enc]
  · intro a b _ k; have := jsb_false k; cases a <;> cases b <;> simp [Tp.joi, Tp.hd] at this ⊢
  · intro a b _ k; have := jsb_false k; cases a <;> cases b <;> simp [Tp.joi, Tp.hd, Tp.kids] at this ⊢
  · intros; trivial

set_option maxHeartbeats 2000000 in
theorem meet_bad (l m : List UInt8) (h : (Tp.chk l).1 ≠ 0 ∨ (Tp.chk m).1 ≠ 0) (w : World) :
    Calls Tryd.prog 40 #[.string (S l), .string (S m)] w fun e w' => e = .returned (.tuple #[.string ⟨#[]⟩, .int .i64 (Tp.firstBad [l, m])]) ∧ Below w.heap.size w w' := by
  have hb := bad2 h
  have hb' : ((Tp.firstBad [l, m] : Int) != 0) = true := by simpa using hb
  have hc := fun w => rcheck2 w l m
  generalize S l = s at *
  generalize S m = t at *
  go_enter Tryd.func40, Tryd.ntmps40
  go_wp2_with (go_at_call 13; refine (hc _ _ rfl _ (by simp)).mono ?_; rintro e w' ⟨rfl, rfl⟩)
  go_ret2
  exact ⟨rfl, below_alloc _ _⟩
set_option maxHeartbeats 2000000 in
theorem join_bad (l m : List UInt8) (h : (Tp.chk l).1 ≠ 0 ∨ (Tp.chk m).1 ≠ 0) (w : World) :
    Calls Tryd.prog 41 #[.string (S l), .string (S m)] w fun e w' => e = .returned (.tuple #[.string ⟨#[]⟩, .int .i64 (Tp.firstBad [l, m])]) ∧ Below w.heap.size w w' := by
  have hb := bad2 h
  have hb' : ((Tp.firstBad [l, m] : Int) != 0) = true := by simpa using hb
  have hc := fun w => rcheck2 w l m
  generalize S l = s at *
  generalize S m = t at *
  go_enter Tryd.func41, Tryd.ntmps41
  go_wp2_with (go_at_call 13; refine (hc _ _ rfl _ (by simp)).mono ?_; rintro e w' ⟨rfl, rfl⟩)
  go_ret2
  exact ⟨rfl, below_alloc _ _⟩

/-- P3.2 of two types. -/
def mtS (a b : Tp.Ty) : List UInt8 := if Tp.cns a b then Tp.val (Tp.met a b) else []
def mtE (a b : Tp.Ty) : Nat := if Tp.cns a b then Tp.merr (Tp.met a b) else 30

set_option maxHeartbeats 2000000 in
theorem meet_yes (a b : Tp.Ty) (ha : (Tp.enc a).length ≤ 64) (hb : (Tp.enc b).length ≤ 64) (w : World) :
    Calls Tryd.prog 40 #[.string (S (Tp.enc a)), .string (S (Tp.enc b))] w fun e w' => e = .returned (.tuple #[.string (S (mtS a b)), .int .i64 (mtE a b)]) ∧ Below w.heap.size w w' := by
  have hg : Tp.firstBad [Tp.enc a, Tp.enc b] = 0 := good2 (by rw [Tp.chk_enc a ha]) (by rw [Tp.chk_enc b hb])
  have hc := fun w => rcheck2 w (Tp.enc a) (Tp.enc b)
  rw [hg] at hc
  have h2 := consistent_yes a b ha hb
  have h3 := fun h => merge_any 54 _ _ _ _ enters54 settle_meet merges_meet a b h ha hb
  generalize S (Tp.enc a) = s at *
  generalize S (Tp.enc b) = t at *
  cases hq : Tp.cns a b with
  | true =>
    have h3' := h3 hq
    have HM : Aside (mtS a b = Tp.val (Tp.met a b) ∧ mtE a b = Tp.merr (Tp.met a b)) := by show _ ∧ _; simp [mtS, mtE, hq]
    rw [hq] at h2
    clear h3
    go_enter Tryd.func40, Tryd.ntmps40
    go_wp2_with (first | (go_at_call 13; refine (hc _ _ rfl _ (by simp)).mono ?_; rintro e w' ⟨rfl, hw'⟩; replace hw' := hw'.symm; subst hw') | (go_at_call 42; refine (h2 _).mono ?_; rintro e w1 ⟨rfl, hB1⟩) | (go_at_call 53; refine (h3' _).mono ?_; rintro e w2 ⟨rfl, hB2⟩))
    go_ret2
    rw [HM.out.1, HM.out.2]
    exact ⟨rfl, (below_alloc _ _).trans ((hB1.mono (by simp)).trans (hB2.mono (by have := hB1.size; simp at this; omega)))⟩
  | false =>
    have HM : Aside (mtS a b = [] ∧ mtE a b = 30) := by show _ ∧ _; simp [mtS, mtE, hq]
    rw [hq] at h2
    clear h3
    go_enter Tryd.func40, Tryd.ntmps40
    go_wp2_with (first | (go_at_call 13; refine (hc _ _ rfl _ (by simp)).mono ?_; rintro e w' ⟨rfl, hw'⟩; replace hw' := hw'.symm; subst hw') | (go_at_call 42; refine (h2 _).mono ?_; rintro e w1 ⟨rfl, hB1⟩))
    go_ret2
    rw [HM.out.1, HM.out.2]
    exact ⟨rfl, (below_alloc _ _).trans (hB1.mono (by simp))⟩
set_option maxHeartbeats 2000000 in
theorem join_yes (a b : Tp.Ty) (ha : (Tp.enc a).length ≤ 64) (hb : (Tp.enc b).length ≤ 64) (w : World) :
    Calls Tryd.prog 41 #[.string (S (Tp.enc a)), .string (S (Tp.enc b))] w fun e w' => e = .returned (.tuple #[.string (S (Tp.enc (Tp.joi a b))), .int .i64 0]) ∧ Below w.heap.size w w' := by
  have hg : Tp.firstBad [Tp.enc a, Tp.enc b] = 0 := good2 (by rw [Tp.chk_enc a ha]) (by rw [Tp.chk_enc b hb])
  have hc := fun w => rcheck2 w (Tp.enc a) (Tp.enc b)
  rw [hg] at hc
  have h3 := merge_any 55 _ _ _ _ enters55 settle_join merges_join a b trivial ha hb
  have hl := Tp.joi_len a b
  rw [show Tp.val (Tp.joi a b) = Tp.enc (Tp.joi a b) by unfold Tp.val; rw [if_pos (by omega)], show Tp.merr (Tp.joi a b) = 0 by unfold Tp.merr; rw [if_pos (by omega)]] at h3
  generalize S (Tp.enc a) = s at *
  generalize S (Tp.enc b) = t at *
  go_enter Tryd.func41, Tryd.ntmps41
  go_wp2_with (first | (go_at_call 13; refine (hc _ _ rfl _ (by simp)).mono ?_; rintro e w' ⟨rfl, hw'⟩; replace hw' := hw'.symm; subst hw') | (go_at_call 53; refine (h3 _).mono ?_; rintro e w2 ⟨rfl, hB2⟩))
  go_ret2
  exact ⟨rfl, (below_alloc _ _).trans (hB2.mono (by simp))⟩
end Go.Proofs.YtgkmoifibcmooaaDoor
