/- What the program's Height answers. -/
import Derived.Test.YtncnkojbpdemdaaGreatDoorMake
namespace Go.Proofs.YtncnkojbpdemdaaGreatDoor
open Go.RowKit

namespace Tp
def mx : List Ty → Nat
  | [] => 0
  | a :: r => max (high a) (mx r)
theorem mx_app : ∀ (a b : List Ty), mx (a ++ b) = max (mx a) (mx b)
  | [], b => by simp [mx]
  | x :: r, b => by rw [List.cons_append, mx, mx, mx_app r b]; omega
theorem high_mx (t : Ty) : high t = mx (kids t) + 1 := by cases t <;> simp [high, kids, mx]
theorem mx_take {ks : List Ty} {k : Nat} {u : Ty} (h : ks[k]? = some u) : mx (ks.take (k + 1)) = max (mx (ks.take k)) (high u) := by
  rw [List.take_add_one, h, mx_app]; simp [mx]
theorem high_le : ∀ t : Ty, high t ≤ (enc t).length
  | .ti | .tb | .tt | .tq => by decide
  | .tl a => by have := high_le a; simp [high, enc]; omega
  | .tx a => by have := high_le a; simp [high, enc]; omega
  | .tf a b => by have := high_le a; have := high_le b; simp [high, enc]; omega
  | .tp a b => by have := high_le a; have := high_le b; simp [high, enc]; omega
end Tp

set_option maxRecDepth 100000 in
set_option maxHeartbeats 400000 in
theorem height_no (s : ByteArray) (h : (Tp.chk s.data.toList).1 ≠ 0) (w : World) :
    Calls Tryz.prog 18 #[.string s] w fun e w' => e = .returned (.int .i64 0) ∧ w' = w := by
  go_enter Tryz.func18, Tryz.ntmps18
  go_wp2_with (go_at_call 25; refine (isType_no _ h _).mono ?_; rintro e w' ⟨rfl, rfl⟩)
  go_ret
  exact ⟨rfl, rfl⟩

theorem own_at {W : World} {base n : Nat} {v : Value} {ps : List (List UInt8)} (h : W.ownsRow base 9 1 v n (tcells ps)) (hn : n = ps.length) : IsTexts W v ps := by subst hn; exact IsTexts.own h

set_option maxRecDepth 100000 in
set_option maxHeartbeats 1000000 in
theorem height_yes (n : Nat) : ∀ (t : Tp.Ty) (w : World), (Tp.enc t).length ≤ n → (Tp.enc t).length ≤ 64 →
    Calls Tryz.prog 18 #[.string (S (Tp.enc t))] w fun e w' => e = .returned (.int .i64 (Tp.high t)) ∧ Below w.heap.size w w' := by
  induction n with
  | zero => intro t w h _; have := Tp.enc_pos t; omega
  | succ n ih =>
    intro t w hn h64
    have hc : (Tp.chk (S (Tp.enc t)).data.toList).1 = 0 := by rw [S_list, Tp.chk_enc t h64]
    have hkl := Tp.kid_len t
    have HH : Aside (Tp.high t = Tp.mx (Tp.kids t) + 1) := Tp.high_mx t
    have hhl := Tp.high_le t
    go_enter Tryz.func18, Tryz.ntmps18
    go_wp2_with (first | (go_at_call 25; refine (isType_yes _ hc _).mono ?_; rintro e w' ⟨rfl, hw'⟩; replace hw' := hw'.symm; subst hw') | (go_at_call 7; refine (parts_yes t h64 _).mono ?_; rintro e w1 ⟨v, rfl, hown, hB1⟩; obtain ⟨va, vc, rfl⟩ := own_len hown))
    have hT := own_at hown (by simp)
    have hkn : (Tp.kids t).length ≤ 2 := by cases t <;> simp [Tp.kids]
    go_loopg [3, 12] (Tp.kids t).length (fun g hv cv wr => ∃ k : Nat, k + g = (Tp.kids t).length ∧ cv = .int .i64 k ∧ hv = .int .i64 (Tp.mx ((Tp.kids t).take k)) ∧ Below w1.heap.size w1 wr)
    case atStart => exact ⟨0, by omega, rfl, rfl, Below.refl _ _⟩
    case round =>
      obtain ⟨k, hkg, rfl, rfl, hB⟩ := hrel
      by_cases hk : k < (Tp.kids t).length
      · have hk' : (k : Int) < ((Tp.kids t).length : Int) := by omega
        have hge := List.getElem?_eq_getElem hk
        have hmem := List.getElem_mem hk
        generalize (Tp.kids t)[k] = u at *
        have hul := hkl u hmem
        obtain ⟨b, o, c, hsl, hcap, hbl, hcell⟩ : ∃ b o c', Value.slice va (Tp.kids t).length vc = .slice (some ⟨b, o, none⟩) (Tp.kids t).length c' ∧ (Tp.kids t).length ≤ c' ∧ b < w1.heap.size ∧ w1.cell? ⟨b, o + k, none⟩ = some (.string (S (Tp.enc u))) := by
          rcases hT with ⟨h0, _⟩ | ⟨b, o, c, h1, h2, h3, h4⟩
          · have : (Tp.kids t).length = 0 := by simpa using congrArg List.length h0
            omega
          · rw [List.length_map] at h1 h2
            exact ⟨b, o, c, h1, h2, h3, h4 k _ (by rw [List.getElem?_map, hge]; rfl)⟩
        obtain ⟨rfl, rfl⟩ : va = some ⟨b, o, none⟩ ∧ _ := by simpa using hsl
        have hck := (hB.cell (p := ⟨b, o + k, none⟩) hbl).trans hcell
        have HM : Aside (Tp.mx ((Tp.kids t).take (k + 1)) = max (Tp.mx ((Tp.kids t).take k)) (Tp.high u)) := Tp.mx_take hge
        have hul2 := Tp.high_le u
        clear hcell hge
        go_wp2_with (go_at_call 18; refine (ih u _ (by omega) (by omega)).mono ?_; rintro e w2 ⟨rfl, hB2⟩)
        go_roundg (gk - 1)
        case measure => omega
        case rel =>
          refine ⟨k + 1, by omega, by go_num, ?_, hB.trans (hB2.mono hB.size)⟩
          rw [HM.out]
          go_num
      · have hk' : decide ((k : Int) < ((Tp.kids t).length : Int)) = false := by simp; omega
        obtain rfl : k = (Tp.kids t).length := by omega
        rw [List.take_length]
        have hmb : Tp.mx (Tp.kids t) < 64 := by rw [HH.out] at hhl; omega
        go_wp2_with fail
        go_ret
        rw [HH.out]
        exact ⟨by rfl, hB1.trans (hB.mono hB1.size)⟩
end Go.Proofs.YtncnkojbpdemdaaGreatDoor
