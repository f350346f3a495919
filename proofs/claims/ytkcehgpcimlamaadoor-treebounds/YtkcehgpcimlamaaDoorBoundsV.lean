/- The call of TreeBounds, whole: it returns true. -/
import Derived.Test.YtkcehgpcimlamaaDoorBoundsW
namespace Go.Proofs.YtkcehgpcimlamaaDoor
open Go.RowKit
set_option maxRecDepth 100000
set_option linter.unusedSimpArgs false

def aS (k : Nat) : List UInt8 := List.replicate k 97
def lS (k : Nat) : List UInt8 := List.replicate k 108 ++ [105]
def bdE : List Tr.Nd := [nd 2 0 0 (aS 63 ++ [10]) [] []]
def bdF : List Tr.Nd := [nd 2 0 0 (aS 63 ++ [10, 98]) [] []]
def bdG : List Tr.Nd := [nd 29 1 0 [] (lS 63) [], nd 1 0 0 [] [] []]
def bdH : List Tr.Nd := [nd 29 1 0 [] ([108] ++ lS 63) [], nd 1 0 0 [] [] []]
theorem bdE_chk : chkN bdE = (0, 0) := by kernel_rfl
theorem bdF_chk : chkN bdF = (18, 0) := by kernel_rfl
theorem bdG_chk : chkN bdG = (0, 0) := by kernel_rfl
theorem bdH_chk : chkN bdH = (18, 0) := by kernel_rfl
theorem bdE_fits : Fits bdE := fits_of (by decide) (by intro x hx; simp [bdE] at hx; subst hx; decide)
theorem bdF_fits : Fits bdF := fits_of (by decide) (by intro x hx; simp [bdF] at hx; subst hx; decide)
theorem bdG_fits : Fits bdG := fits_of (by decide) (by intro x hx; simp [bdG] at hx; rcases hx with rfl | rfl <;> decide)
theorem bdH_fits : Fits bdH := fits_of (by decide) (by intro x hx; simp [bdH] at hx; rcases hx with rfl | rfl <;> decide)
theorem chk_lit {l : List Tr.Nd} (hf : Fits l) {a b : Nat} (hc : chkN l = (a, b)) {v : Value} {W : World} (hl : IsNodes W v l) :
    Calls Tryd.prog 12 #[v] W fun e w' => e = .returned (.tuple #[.int .i64 (a : Int), .int .i64 (b : Int)]) ∧ Below W.heap.size W w' := by
  have := treeCheck_any l hf v W hl
  rw [hc] at this
  exact this
theorem S_app (a c : List UInt8) : (S a ++ S c) = S (a ++ c) := str_app a c

set_option maxHeartbeats 4000000 in
theorem treeBounds_any (w : World) : Calls Tryd.prog 7 #[] w fun e w' => e = .returned (.bool true) ∧ Below w.heap.size w w' := by
  go_enter Tryd.func7, Tryd.ntmps7
  go_wp2_with fail
  refine (chain_any 63 (by decide) w).mono ?_
  rintro e w1 ⟨v1, rfl, h1, hB1⟩
  obtain ⟨a1, c1, rfl⟩ := h1.form
  go_wp2_with fail
  refine (chk_lit (chain_fits 63 (by decide)) chain_chk63 h1).mono ?_
  rintro e w2 ⟨rfl, hB2⟩
  have hA2 := bt hB1 hB2
  clear h1 hB1 hB2
  go_wp2_with fail
  refine (chain_any 64 (by decide) w2).mono ?_
  rintro e w3 ⟨v3, rfl, h3, hB3⟩
  obtain ⟨a3, c3, rfl⟩ := h3.form
  go_wp2_with fail
  refine (chk_lit (chain_fits 64 (by decide)) chain_chk64 h3).mono ?_
  rintro e w4 ⟨rfl, hB4⟩
  have hA4 := bt (bt hA2 hB3) hB4
  clear h3 hB3 hB4 hA2
  go_wp2_with fail
  refine (wide_any 4095 (by decide) w4).mono ?_
  rintro e w5 ⟨v5, rfl, h5, hB5⟩
  obtain ⟨a5, c5, rfl⟩ := h5.form
  go_wp2_with fail
  refine (chk_lit (wide_fits 4095 (by decide)) (wide_chk 4095 (by decide)) h5).mono ?_
  rintro e w6 ⟨rfl, hB6⟩
  have hA6 := bt (bt hA4 hB5) hB6
  clear h5 hB5 hB6 hA4
  go_wp2_with fail
  refine (wide_any 4096 (by decide) w6).mono ?_
  rintro e w7 ⟨v7, rfl, h7, hB7⟩
  obtain ⟨a7, c7, rfl⟩ := h7.form
  go_wp2_with fail
  refine (chk_lit (wide_fits 4096 (by decide)) wide_many h7).mono ?_
  rintro e w8 ⟨rfl, hB8⟩
  have hA8 := bt (bt hA6 hB7) hB8
  clear h7 hB7 hB8 hA6
  go_wp2_with fail
  go_loopg [9, 10, 11] 63 (fun g s1 s2 t wr => w8 = wr ∧ ∃ (k : Nat) (A C : List UInt8), k + g = 63 ∧ t = .int .i64 (k : Int) ∧ s1 = .string (S A) ∧ s2 = .string (S C) ∧ A.length ≤ k ∧ C.length ≤ k + 1 ∧ Aside (A = aS k ∧ C = lS k))
  case atStart => exact ⟨rfl, 0, [], [105], by omega, rfl, rfl, rfl, by simp, by simp, ⟨rfl, rfl⟩⟩
  case round =>
    obtain ⟨rfl, k, A, C, hkg, rfl, rfl, rfl, hAl, hCl, HK⟩ := hrel
    have hs1 := S_size A
    have hs2 := S_size C
    have e1 : (⟨#[97]⟩ : ByteArray).size = 1 := rfl
    have HA : Aside (S A ++ (⟨#[97]⟩ : ByteArray) = S (A ++ [97])) := S_app A [97]
    have HC : Aside ((⟨#[108]⟩ : ByteArray) ++ S C = S (108 :: C)) := S_app [108] C
    have HE : Aside (S A ++ (⟨#[10]⟩ : ByteArray) = S (A ++ [10])) := S_app A [10]
    have HF : Aside (S A ++ (⟨#[10, 98]⟩ : ByteArray) = S (A ++ [10, 98])) := S_app A [10, 98]
    have hsA : (S A).size ≤ 63 := by omega
    have hsC : (S C).size ≤ 64 := by omega
    clear hs1 hs2
    by_cases hk : k < 63
    · have hk' : (k : Int) < 63 := by omega
      go_wp2_with fail
      go_roundg (gk - 1)
      case measure => omega
      case rel =>
        refine ⟨rfl, k + 1, A ++ [97], 108 :: C, by omega, by go_num, by rw [← HA.out], by rw [← HC.out], by simp; omega, by simp; omega, ?_⟩
        obtain ⟨h1, h2⟩ := HK.out
        exact ⟨by rw [h1]; unfold aS; rw [List.replicate_succ'], by rw [h2]; rfl⟩
    · obtain rfl : k = 63 := by omega
      obtain ⟨hA, hC⟩ := HK.out
      subst hA
      subst hC
      generalize hsa : S (aS 63) = sa at *
      generalize hsc : S (lS 63) = sc at *
      have Hsa : Aside (S (aS 63) = sa) := hsa
      have Hsc : Aside (S (lS 63) = sc) := hsc
      clear hsa hsc HK hk HA
      go_wp2_with fail
      generalize hW : w8.alloc _ = W
      have hBW : Below w8.heap.size w8 W := by rw [← hW]; exact balloc (Below.refl _ _) _
      have hlW : IsNodes W (.slice (some ⟨w8.heap.size, 0, none⟩) 1 1) bdE := by
        rw [← hW, HE.out]; exact IsNodes.lit w8 bdE 65 (0, 0) 1 (by decide)
      clear hW
      refine (chk_lit bdE_fits bdE_chk hlW).mono ?_
      rintro e w9 ⟨rfl, hB9⟩
      have hA9 := bt (bt hA8 hBW) hB9
      clear hBW hlW hB9
      go_wp2_with fail
      generalize hW : w9.alloc _ = W
      have hBW : Below w9.heap.size w9 W := by rw [← hW]; exact balloc (Below.refl _ _) _
      have hlW : IsNodes W (.slice (some ⟨w9.heap.size, 0, none⟩) 1 1) bdF := by
        rw [← hW, HF.out]; exact IsNodes.lit w9 bdF 65 (0, 0) 1 (by decide)
      clear hW
      refine (chk_lit bdF_fits bdF_chk hlW).mono ?_
      rintro e w10 ⟨rfl, hB10⟩
      have hA10 := bt (bt hA9 hBW) hB10
      clear hBW hlW hB10 hA9
      go_wp2_with fail
      generalize hW : w10.alloc _ = W
      have hBW : Below w10.heap.size w10 W := by rw [← hW]; exact balloc (Below.refl _ _) _
      have hlW : IsNodes W (.slice (some ⟨w10.heap.size, 0, none⟩) 2 2) bdG := by
        rw [← hW, ← Hsc.out]; exact IsNodes.lit w10 bdG 65 (0, 0) 2 (by decide)
      clear hW
      refine (chk_lit bdG_fits bdG_chk hlW).mono ?_
      rintro e w11 ⟨rfl, hB11⟩
      have hA11 := bt (bt hA10 hBW) hB11
      clear hBW hlW hB11 hA10
      go_wp2_with fail
      generalize hW : w11.alloc _ = W
      have hBW : Below w11.heap.size w11 W := by rw [← hW]; exact balloc (Below.refl _ _) _
      have hlW : IsNodes W (.slice (some ⟨w11.heap.size, 0, none⟩) 2 2) bdH := by
        rw [← hW, HC.out]; exact IsNodes.lit w11 bdH 65 (0, 0) 2 (by decide)
      clear hW
      refine (chk_lit bdH_fits bdH_chk hlW).mono ?_
      rintro e w12 ⟨rfl, hB12⟩
      have hA12 := bt (bt hA11 hBW) hB12
      clear hBW hlW hB12 hA11
      go_wp2_with (go_at_call 8; refine (works_any _).mono ?_; rintro e w13 ⟨rfl, hB13⟩)
      go_ret
      exact ⟨rfl, bt hA12 hB13⟩
end Go.Proofs.YtkcehgpcimlamaaDoor
