/- What the program's Ground answers, and what its steps looser are. -/
import Derived.Test.YtcokgpmgknnihaaRelC
namespace Go.Proofs.Ytcokgpmgknnihaa
open Go.RowKit
set_option maxRecDepth 100000

theorem S_add (a b : List UInt8) : S a ++ S b = S (a ++ b) := by apply ByteArray.ext; simp [S]
/-- The ground of a type: its head, and ? for each part; of ? and of no type nothing. -/
def Tp.gr : Tp.Ty → List UInt8
  | .tq => []
  | t => Tp.hd t :: List.replicate (Tp.kids t).length 63
theorem gr_eq (t : Tp.Ty) (hq : t ≠ .tq) : Tp.gr t = Tp.hd t :: List.replicate (Tp.kids t).length 63 := by cases t <;> first | rfl | exact absurd rfl hq
theorem rep_q (n : Nat) : Lib.repeatL [63] n = List.replicate n 63 := by
  induction n with
  | zero => rfl
  | succ n ih => first | (rw [Lib.repeatL, ih]; rfl) | (unfold Lib.repeatL at *; simp_all [List.replicate_succ])

set_option maxHeartbeats 1000000 in
theorem ground_q (w : World) :
    Calls Try.prog 30 #[.string (S (Tp.enc .tq))] w fun e w' => e = .returned (.string (S (Tp.gr .tq))) ∧ w' = w := by
  have hc : (Tp.chk (S (Tp.enc .tq)).data.toList).1 = 0 := by decide
  have hq : ((S (Tp.enc .tq)).toList == [63]) = true := by rw [ByteArray.toList_eq]; rfl
  generalize S (Tp.enc .tq) = s at *
  go_enter Try.func30, Try.ntmps30
  go_wp2_with (go_at_call 36; refine (isType_yes _ hc _).mono ?_; rintro e w' ⟨rfl, rfl⟩)
  go_ret
  exact ⟨rfl, rfl⟩

set_option maxHeartbeats 1000000 in
theorem ground_yes (t : Tp.Ty) (h : (Tp.enc t).length ≤ 64) (hq : t ≠ .tq) (w : World) :
    Calls Try.prog 30 #[.string (S (Tp.enc t))] w fun e w' => e = .returned (.string (S (Tp.gr t))) ∧ Below w.heap.size w w' := by
  have hc : (Tp.chk (S (Tp.enc t)).data.toList).1 = 0 := by rw [S_list, Tp.chk_enc t h]
  have hne : ((S (Tp.enc t)).toList == [63]) = false := by
    rw [ByteArray.toList_eq, S_list]
    cases t <;> first | rfl | exact absurd rfl hq | simp [Tp.enc]
  have hk2 : (Tp.kids t).length ≤ 2 := by cases t <;> simp [Tp.kids]
  have hA : ∀ w : World, Calls Try.prog 35 #[.int .u8 (Tp.hd t).toNat] w fun e w' => e = .returned (.int .i64 ((Tp.kids t).length : Nat)) ∧ w' = w := by
    intro w
    have := partsOf_any ((Tp.hd t).toNat : Int) w
    rw [Tp.ar_hd t] at this
    exact this
  have hR : ∀ w : World, Calls Try.prog 37 #[.string ⟨#[63]⟩, .int .i64 ((Tp.kids t).length : Nat)] w fun e w' => e = .returned (.string (S (List.replicate (Tp.kids t).length 63))) ∧ Below w.heap.size w w' := by
    intro w
    have := Try.strings_Repeat ⟨#[63]⟩ (Tp.kids t).length w (by omega) (by show 1 * _ ≤ _; omega)
    rw [show (⟨#[63]⟩ : ByteArray).data.toList = [63] from rfl, rep_q] at this
    exact this
  have hz : (S (List.replicate (Tp.kids t).length 63)).size ≤ 2 := by rw [S_size, List.length_replicate]; exact hk2
  have e1 : S [Tp.hd t] ++ S (List.replicate (Tp.kids t).length 63) = S (Tp.gr t) := by rw [S_add, gr_eq t hq]; rfl
  have hz1 : (S [Tp.hd t]).size = 1 := S_size _
  obtain ⟨hp, hh⟩ := S_head t
  have hh' := hh hp
  clear hh
  have hp' : (0 : Int) < ((S (Tp.enc t)).size : Int) := by omega
  have hp1 : (1 : Int) ≤ ((S (Tp.enc t)).size : Int) := by omega
  have hcut : (S (Tp.enc t)).extract 0 1 = S [Tp.hd t] := by rw [S_cut, Tp.enc_eq]; simp
  generalize S (Tp.enc t) = s at *
  generalize S (Tp.gr t) = g at *
  generalize S [Tp.hd t] = g1 at *
  generalize S (List.replicate (Tp.kids t).length 63) = g2 at *
  generalize (Tp.kids t).length = n at *
  go_enter Try.func30, Try.ntmps30
  go_wp2_with (go_at_call 36; refine (isType_yes _ hc _).mono ?_; rintro e w' ⟨rfl, hw'⟩; replace hw' := hw'.symm; subst hw')
  go_region_with (first | (go_at_call 35; refine (hA _).mono ?_; rintro e w2 ⟨rfl, hw'⟩; subst hw') | (go_at_call 37; refine (hR _).mono ?_; rintro e w3 ⟨rfl, hB3⟩))
  all_goals
    go_wp2_with fail
    go_ret
    exact ⟨rfl, ((Below.refl _ _).drew).trans hB3⟩
theorem ground_all (t : Tp.Ty) (h : (Tp.enc t).length ≤ 64) (w : World) :
    Calls Try.prog 30 #[.string (S (Tp.enc t))] w fun e w' => e = .returned (.string (S (Tp.gr t))) ∧ Below w.heap.size w w' := by
  by_cases hq : t = .tq
  · subst hq
    exact (ground_q w).mono (fun e w' h => ⟨h.1, by rw [h.2]; exact Below.refl _ _⟩)
  · exact ground_yes t h hq w

end Go.Proofs.Ytcokgpmgknnihaa
