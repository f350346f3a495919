/- What the program's Ground answers, and what its steps looser are. -/
import Derived.Test.YtgkmoifibcmooaaDoorGrow
namespace Go.Proofs.YtgkmoifibcmooaaDoor
open Go.RowKit
set_option maxRecDepth 100000

theorem S_add (a b : List UInt8) : S a ++ S b = S (a ++ b) := by apply ByteArray.ext; simp [S]
/-- The ground of a type: its head, and ? for each part; of ? and of no type nothing. -/
def Tp.gr : Tp.Ty → List UInt8
  | .tq => []
  | t => Tp.hd t :: List.replicate (Tp.kids t).length 63
theorem gr_eq (t : Tp.Ty) (hq : t ≠ .tq) : Tp.gr t = Tp.hd t :: List.replicate (Tp.kids t).length 63 := by cases t <;> first | rfl | exact absurd rfl hq
theorem rep_q (n : Nat) : Lib.repeatL [63] n = List.replicate n 63 := by
  induction n with
  | zero => rfl
  | succ n ih => first | (rw [Lib.repeatL, ih]; rfl) | (unfold Lib.repeatL at *; simp_all [List.replicate_succ])

set_option maxHeartbeats 1000000 in
theorem ground_q (w : World) :
    Calls Tryd.prog 20 #[.string (S (Tp.enc .tq))] w fun e w' => e = .returned (.string (S (Tp.gr .tq))) ∧ w' = w := by
  have hc : (Tp.chk (S (Tp.enc .tq)).data.toList).1 = 0 := by decide
  have hq : ((S (Tp.enc .tq)).toList == [63]) = true := by rw [ByteArray.toList_eq]; rfl
  generalize S (Tp.enc .tq) = s at *
  go_enter Tryd.func20, Tryd.ntmps20
  go_wp2_with (go_at_call 45; refine (isType_yes _ hc _).mono ?_; rintro e w' ⟨rfl, rfl⟩)
  go_ret
  exact ⟨rfl, rfl⟩

set_option maxHeartbeats 1000000 in
theorem ground_yes (t : Tp.Ty) (h : (Tp.enc t).length ≤ 64) (hq : t ≠ .tq) (w : World) :
    Calls Tryd.prog 20 #[.string (S (Tp.enc t))] w fun e w' => e = .returned (.string (S (Tp.gr t))) ∧ Below w.heap.size w w' := by
  have hc : (Tp.chk (S (Tp.enc t)).data.toList).1 = 0 := by rw [S_list, Tp.chk_enc t h]
  have hne : ((S (Tp.enc t)).toList == [63]) = false := by
    rw [ByteArray.toList_eq, S_list]
    cases t <;> first | rfl | exact absurd rfl hq | simp [Tp.enc]
  have hk2 : (Tp.kids t).length ≤ 2 := by cases t <;> simp [Tp.kids]
  have hA : ∀ w : World, Calls Tryd.prog 50 #[.int .u8 (Tp.hd t).toNat] w fun e w' => e = .returned (.int .i64 ((Tp.kids t).length : Nat)) ∧ w' = w := by
    intro w
    have := partsOf_any ((Tp.hd t).toNat : Int) w
    rw [Tp.ar_hd t] at this
    exact this
  have hR : ∀ w : World, Calls Tryd.prog 49 #[.string ⟨#[63]⟩, .int .i64 ((Tp.kids t).length : Nat)] w fun e w' => e = .returned (.string (S (List.replicate (Tp.kids t).length 63))) ∧ Below w.heap.size w w' := by
    intro w
    have := Tryd.strings_Repeat ⟨#[63]⟩ (Tp.kids t).length w (by omega) (by show 1 * _ ≤ _; omega)
    rw [show (⟨#[63]⟩ : ByteArray).data.toList = [63] from rfl, rep_q] at this
    exact this
  have hz : (S (List.replicate (Tp.kids t).length 63)).size ≤ 2 := by rw [S_size, List.length_replicate]; exact hk2
  have e1 : S [Tp.hd t] ++ S (List.replicate (Tp.kids t).length 63) = S (Tp.gr t) := by rw [S_add, gr_eq t hq]; rfl
  have hz1 : (S [Tp.hd t]).size = 1 := S_size _
  obtain ⟨hp, hh⟩ := S_head t
  have hh' := hh hp
  clear hh
  have hp' : (0 : Int) < ((S (Tp.enc t)).size : Int) := by omega
  have hp1 : (1 : Int) ≤ ((S (Tp.enc t)).size : Int) := by omega
  have hcut : (S (Tp.enc t)).extract 0 1 = S [Tp.hd t] := by rw [S_cut, Tp.enc_eq]; simp
  generalize S (Tp.enc t) = s at *
  generalize S (Tp.gr t) = g at *
  generalize S [Tp.hd t] = g1 at *
  generalize S (List.replicate (Tp.kids t).length 63) = g2 at *
  generalize (Tp.kids t).length = n at *
  go_enter Tryd.func20, Tryd.ntmps20
  go_wp2_with (go_at_call 45; refine (isType_yes _ hc _).mono ?_; rintro e w' ⟨rfl, hw'⟩; replace hw' := hw'.symm; subst hw')
  go_region_with (first | (go_at_call 50; refine (hA _).mono ?_; rintro e w2 ⟨rfl, hw'⟩; subst hw') | (go_at_call 49; refine (hR _).mono ?_; rintro e w3 ⟨rfl, hB3⟩))
  all_goals
    go_wp2_with fail
    go_ret
    exact ⟨rfl, ((Below.refl _ _).drew).trans hB3⟩
theorem ground_all (t : Tp.Ty) (h : (Tp.enc t).length ≤ 64) (w : World) :
    Calls Tryd.prog 20 #[.string (S (Tp.enc t))] w fun e w' => e = .returned (.string (S (Tp.gr t))) ∧ Below w.heap.size w w' := by
  by_cases hq : t = .tq
  · subst hq
    exact (ground_q w).mono (fun e w' h => ⟨h.1, by rw [h.2]; exact Below.refl _ _⟩)
  · exact ground_yes t h hq w

namespace Tp
/-- The texts of the steps looser, with what stands ahead and behind. -/
def lo (pre post : List UInt8) (t : Ty) : List (List UInt8) := (loo t).map (fun u => pre ++ (enc u ++ post))
def los (pre post : List UInt8) : List Ty → List (List UInt8)
  | [] => []
  | x :: ks => lo pre (encs ks ++ post) x ++ los (pre ++ enc x) post ks
theorem lo_ground {t : Ty} (h : gr t = enc t) (pre post : List UInt8) : lo pre post t = [pre ++ ([63] ++ post)] := by
  have q : ∀ a : Ty, [(63 : UInt8)] = enc a → a = .tq := fun a h => (enc_inj (a := .tq) h).symm
  cases t with
  | ti | tb | tt => rfl
  | tq => simp [gr, enc] at h
  | tl a | tx a =>
    have := q a (by simpa [gr, enc, hd, kids] using h)
    subst this; rfl
  | tf a b | tp a b =>
    have h2 : [(63 : UInt8), 63] = enc a ++ enc b := by simpa [gr, enc, hd, kids, List.replicate] using h
    obtain ⟨rfl, h3⟩ := enc_pre .tq a [63] (enc b) h2
    have := q b h3
    subst this; rfl
theorem lo_kids {t : Ty} (h : gr t ≠ enc t) (pre post : List UInt8) : lo pre post t = los (pre ++ [hd t]) post (kids t) := by
  cases t with
  | ti | tb | tt => exact absurd rfl h
  | tq => rfl
  | tl a | tx a =>
    have ha : a ≠ .tq := by rintro rfl; exact h rfl
    simp [lo, los, loo, ha, kids, hd, enc, encs]
  | tf a b | tp a b =>
    have ha : ¬ (a = .tq ∧ b = .tq) := by rintro ⟨rfl, rfl⟩; exact h rfl
    simp only [lo, los, loo, if_neg ha, kids, hd, encs, List.map_append, List.map_map, List.map_cons, List.map_nil, List.flatten_cons, List.flatten_nil, List.append_nil]
    congr 1 <;> (apply List.map_congr_left; intro u _; simp [enc])
theorem loo_len : ∀ t : Ty, (loo t).length ≤ (enc t).length
  | .ti | .tb | .tt | .tq => by decide
  | .tl a | .tx a => by have := loo_len a; unfold loo; split <;> simp [enc]; omega
  | .tf a b | .tp a b => by have := loo_len a; have := loo_len b; unfold loo; split <;> simp [enc]; omega
theorem lo_len (pre post : List UInt8) (t : Ty) : (lo pre post t).length ≤ (enc t).length := by simpa [lo] using loo_len t
end Tp
end Go.Proofs.YtgkmoifibcmooaaDoor
