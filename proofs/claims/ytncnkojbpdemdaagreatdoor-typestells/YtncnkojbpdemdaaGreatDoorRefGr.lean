/- What Ground answers, the program's and the document's. -/
import Derived.Test.YtncnkojbpdemdaaGreatDoorRefWd
namespace Go.Proofs.YtncnkojbpdemdaaGreatDoor
open Go.RowKit

/-- The ground of a type: its head, and ? for each part; of ? and of no type nothing. -/
def Tp.gr : Tp.Ty → List UInt8
  | .tq => []
  | t => Tp.hd t :: List.replicate (Tp.kids t).length 63

set_option maxRecDepth 100000 in
set_option maxHeartbeats 1000000 in
theorem rground_no (s : ByteArray) (h : (Tp.chk s.data.toList).1 ≠ 0) (w : World) :
    Calls Tryz.prog 15 #[.string s] w fun e w' => e = .returned (.string ⟨#[]⟩) ∧ w' = w := by
  go_enter Tryz.func15, Tryz.ntmps15
  go_wp2_with (go_at_call 27; refine (ris_no _ h _).mono ?_; rintro e w' ⟨rfl, rfl⟩)
  go_ret
  exact ⟨rfl, rfl⟩

set_option maxRecDepth 100000 in
set_option maxHeartbeats 1000000 in
theorem ground_no (s : ByteArray) (h : (Tp.chk s.data.toList).1 ≠ 0) (w : World) :
    Calls Tryz.prog 14 #[.string s] w fun e w' => e = .returned (.string ⟨#[]⟩) ∧ w' = w := by
  go_enter Tryz.func14, Tryz.ntmps14
  go_wp2_with (go_at_call 25; refine (isType_no _ h _).mono ?_; rintro e w' ⟨rfl, rfl⟩)
  go_ret
  exact ⟨rfl, rfl⟩

set_option maxRecDepth 100000 in
set_option maxHeartbeats 1000000 in
theorem rground_q (w : World) :
    Calls Tryz.prog 15 #[.string (S (Tp.enc .tq))] w fun e w' => e = .returned (.string (S (Tp.gr .tq))) ∧ w' = w := by
  have hc : (Tp.chk (S (Tp.enc .tq)).data.toList).1 = 0 := by decide
  obtain ⟨hp, hh⟩ := S_head .tq
  have hh' : ((S (Tp.enc .tq))[0]'hp).toNat = 63 := hh hp
  clear hh
  have hp' : (0 : Int) < ((S (Tp.enc .tq)).size : Int) := by omega
  generalize S (Tp.enc .tq) = s at *
  go_enter Tryz.func15, Tryz.ntmps15
  go_wp2_with (go_at_call 27; refine (ris_yes _ hc _).mono ?_; rintro e w' ⟨rfl, rfl⟩)
  go_ret
  exact ⟨rfl, rfl⟩

theorem gr_eq (t : Tp.Ty) (hq : t ≠ .tq) : Tp.gr t = Tp.hd t :: List.replicate (Tp.kids t).length 63 := by cases t <;> first | rfl | exact absurd rfl hq

set_option maxRecDepth 100000 in
set_option maxHeartbeats 1000000 in
theorem rground_yes (t : Tp.Ty) (h : (Tp.enc t).length ≤ 64) (hq : t ≠ .tq) (w : World) :
    Calls Tryz.prog 15 #[.string (S (Tp.enc t))] w fun e w' => e = .returned (.string (S (Tp.gr t))) ∧ w' = w := by
  have hc : (Tp.chk (S (Tp.enc t)).data.toList).1 = 0 := by rw [S_list, Tp.chk_enc t h]
  have HG : Aside (S (Tp.gr t) = S (Tp.hd t :: List.replicate (Tp.kids t).length 63)) := by show _ = _; rw [gr_eq t hq]
  have hne : ((((Tp.hd t).toNat : Nat) : Int) == 63) = false := by cases t <;> first | rfl | exact absurd rfl hq
  have HA : Aside (Tp.ar (Tp.hd t).toNat = (Tp.kids t).length) := Tp.ar_hd t
  have hk2 : (Tp.kids t).length ≤ 2 := by cases t <;> simp [Tp.kids]
  obtain ⟨hp, hh⟩ := S_head t
  have hh' := hh hp
  clear hh
  have hp' : (0 : Int) < ((S (Tp.enc t)).size : Int) := by omega
  have hp1 : (1 : Int) ≤ ((S (Tp.enc t)).size : Int) := by omega
  have HC : Aside ((S (Tp.enc t)).extract 0 1 = S [Tp.hd t]) := by show _ = _; rw [S_cut, Tp.enc_eq]; simp
  generalize S (Tp.enc t) = s at *
  generalize S (Tp.gr t) = g at *
  go_enter Tryz.func15, Tryz.ntmps15
  go_wp2_with (go_at_call 27; refine (ris_yes _ hc _).mono ?_; rintro e w' ⟨rfl, hw'⟩; replace hw' := hw'.symm; subst hw')
  go_loopg [3, 4] (Tp.kids t).length (fun g gv iv wr => ∃ k : Nat, wr = w ∧ k + g = (Tp.kids t).length ∧ iv = .int .i64 k ∧ ∃ v : ByteArray, gv = .string v ∧ v.size ≤ 3 ∧ Aside (v = S (Tp.hd t :: List.replicate k 63)))
  case atStart => exact ⟨0, rfl, by omega, rfl, _, rfl, by rw [HC.out, S_size]; simp, HC.out⟩
  case round =>
    obtain ⟨k, rfl, hkg, rfl, v, rfl, hv, HV⟩ := hrel
    by_cases hk : k < (Tp.kids t).length
    · have hl : (k : Int) < Tp.ar (Tp.hd t).toNat := by rw [HA.out]; omega
      have HV2 : Aside (v ++ (⟨#[63]⟩ : ByteArray) = S (Tp.hd t :: List.replicate (k + 1) 63)) := by
        show _ = _
        rw [HV.out]
        have := add_lit (Tp.hd t :: List.replicate k 63) [63] ⟨#[63]⟩ rfl
        rw [this, List.replicate_succ']
        rfl
      go_wp2_with (go_at_call 28; refine (arity_any _ _).mono ?_; rintro e w' ⟨rfl, hw'⟩; replace hw' := hw'.symm; subst hw')
      go_roundg (gk - 1)
      case measure => omega
      case rel => exact ⟨k + 1, rfl, by omega, by go_num, _, rfl, by rw [HV2.out, S_size]; simp; omega, HV2⟩
    · have hl : decide ((k : Int) < Tp.ar (Tp.hd t).toNat) = false := by rw [HA.out]; simp; omega
      obtain rfl : k = (Tp.kids t).length := by omega
      go_wp2_with (go_at_call 28; refine (arity_any _ _).mono ?_; rintro e w' ⟨rfl, hw'⟩; replace hw' := hw'.symm; subst hw')
      go_ret
      exact ⟨by rw [HG.out, ← HV.out]; rfl, rfl⟩

theorem rep_q (n : Nat) : Lib.repeatL [63] n = List.replicate n 63 := by
  induction n with
  | zero => simp [Lib.repeatL]
  | succ n ih => first | (rw [Lib.repeatL, ih]; rfl) | (unfold Lib.repeatL at *; simp_all [List.replicate_succ])

set_option maxRecDepth 100000 in
set_option maxHeartbeats 1000000 in
theorem ground_q (w : World) :
    Calls Tryz.prog 14 #[.string (S (Tp.enc .tq))] w fun e w' => e = .returned (.string (S (Tp.gr .tq))) ∧ w' = w := by
  have hc : (Tp.chk (S (Tp.enc .tq)).data.toList).1 = 0 := by decide
  have hq : ((S (Tp.enc .tq)).toList == [63]) = true := by rw [ByteArray.toList_eq]; rfl
  generalize S (Tp.enc .tq) = s at *
  go_enter Tryz.func14, Tryz.ntmps14
  go_wp2_with (go_at_call 25; refine (isType_yes _ hc _).mono ?_; rintro e w' ⟨rfl, rfl⟩)
  go_ret
  exact ⟨rfl, rfl⟩

set_option maxRecDepth 100000 in
set_option maxHeartbeats 1000000 in
theorem ground_yes (t : Tp.Ty) (h : (Tp.enc t).length ≤ 64) (hq : t ≠ .tq) (w : World) :
    Calls Tryz.prog 14 #[.string (S (Tp.enc t))] w fun e w' => e = .returned (.string (S (Tp.gr t))) ∧ Below w.heap.size w w' := by
  have hc : (Tp.chk (S (Tp.enc t)).data.toList).1 = 0 := by rw [S_list, Tp.chk_enc t h]
  have hne : ((S (Tp.enc t)).toList == [63]) = false := by
    rw [ByteArray.toList_eq, S_list]
    cases t <;> first | rfl | exact absurd rfl hq | simp [Tp.enc]
  have hk2 : (Tp.kids t).length ≤ 2 := by cases t <;> simp [Tp.kids]
  have hA : ∀ w : World, Calls Tryz.prog 23 #[.int .u8 (Tp.hd t).toNat] w fun e w' => e = .returned (.int .i64 ((Tp.kids t).length : Nat)) ∧ w' = w := by
    intro w
    have := partsOf_any ((Tp.hd t).toNat : Int) w
    rw [Tp.ar_hd t] at this
    exact this
  have hR : ∀ w : World, Calls Tryz.prog 32 #[.string ⟨#[63]⟩, .int .i64 ((Tp.kids t).length : Nat)] w fun e w' => e = .returned (.string (S (List.replicate (Tp.kids t).length 63))) ∧ Below w.heap.size w w' := by
    intro w
    have := Tryz.strings_Repeat ⟨#[63]⟩ (Tp.kids t).length w (by omega) (by show 1 * _ ≤ _; omega)
    rw [show (⟨#[63]⟩ : ByteArray).data.toList = [63] from rfl, rep_q] at this
    exact this
  have hz : (S (List.replicate (Tp.kids t).length 63)).size ≤ 2 := by rw [S_size, List.length_replicate]; exact hk2
  have e1 : S [Tp.hd t] ++ S (List.replicate (Tp.kids t).length 63) = S (Tp.gr t) := by rw [S_add, gr_eq t hq]; rfl
  have hz1 : (S [Tp.hd t]).size = 1 := S_size _
  obtain ⟨hp, hh⟩ := S_head t
  have hh' := hh hp
  clear hh
  have hp' : (0 : Int) < ((S (Tp.enc t)).size : Int) := by omega
  have hp1 : (1 : Int) ≤ ((S (Tp.enc t)).size : Int) := by omega
  have hcut : (S (Tp.enc t)).extract 0 1 = S [Tp.hd t] := by rw [S_cut, Tp.enc_eq]; simp
  generalize S (Tp.enc t) = s at *
  generalize S (Tp.gr t) = g at *
  generalize S [Tp.hd t] = g1 at *
  generalize S (List.replicate (Tp.kids t).length 63) = g2 at *
  generalize (Tp.kids t).length = n at *
  go_enter Tryz.func14, Tryz.ntmps14
  go_wp2_with (go_at_call 25; refine (isType_yes _ hc _).mono ?_; rintro e w' ⟨rfl, hw'⟩; replace hw' := hw'.symm; subst hw')
  go_region_with (first | (go_at_call 23; refine (hA _).mono ?_; rintro e w2 ⟨rfl, hw'⟩; subst hw') | (go_at_call 32; refine (hR _).mono ?_; rintro e w3 ⟨rfl, hB3⟩))
  all_goals
    go_wp2_with fail
    go_ret
    exact ⟨rfl, ((Below.refl _ _).drew).trans hB3⟩

end Go.Proofs.YtncnkojbpdemdaaGreatDoor
