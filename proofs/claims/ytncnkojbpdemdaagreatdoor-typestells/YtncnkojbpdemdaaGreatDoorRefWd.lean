/- What the document's Static, wrapped, words, Words answer. -/
import Derived.Test.YtncnkojbpdemdaaGreatDoorRefPts
import Derived.Lib.IndexLaws
import Derived.Deep.RegionWith
namespace Go.Proofs.YtncnkojbpdemdaaGreatDoor
open Go.RowKit

theorem stat_q {l : List UInt8} {k : Nat} (h : l[k]? = some 63) : statB l = false := by
  have h1 := Lib.indexByte_ge l 63
  have : ¬ Lib.indexByte l 63 < 0 := fun h2 => Lib.indexByte_none (show Lib.indexByte l 63 = -1 by omega) k h
  unfold statB; simp; omega
theorem stat_all {l : List UInt8} (hc : (Tp.chk l).1 = 0) (h : ∀ k : Nat, k < l.length → l[k]? ≠ some 63) : statB l = true := by
  have h1 := Lib.indexByte_ge l 63
  have : Lib.indexByte l 63 < 0 := by
    apply Classical.byContradiction
    intro h2
    have h3 : Lib.indexByte l 63 = ((Lib.indexByte l 63).toNat : Nat) := by omega
    have h4 := (Lib.indexByte_some h3).1
    exact h _ (by rw [List.getElem?_eq_some_iff] at h4; exact h4.1) h4
  unfold statB; simp [hc]; exact this
theorem stat_no {l : List UInt8} (hc : (Tp.chk l).1 ≠ 0) : statB l = false := by unfold statB; simp [hc]

set_option maxRecDepth 100000 in
set_option maxHeartbeats 400000 in
theorem rstatic_no (s : ByteArray) (h : (Tp.chk s.data.toList).1 ≠ 0) (w : World) :
    Calls Tryz.prog 17 #[.string s] w fun e w' => e = .returned (.bool (statB s.data.toList)) ∧ w' = w := by
  have HN : Aside (statB s.data.toList = false) := stat_no h
  go_enter Tryz.func17, Tryz.ntmps17
  go_wp2_with (go_at_call 27; refine (ris_no _ h _).mono ?_; rintro e w' ⟨rfl, rfl⟩)
  go_ret
  exact ⟨ret_bool HN.out.symm, rfl⟩

theorem B_63 {s : ByteArray} {k : Nat} (hk : k < s.size) (h : Tp.B s.data.toList k = 63) : s.data.toList[k]? = some 63 := by
  have hl : k < s.data.toList.length := by rw [str_len]; exact hk
  rw [List.getElem?_eq_getElem hl]
  unfold Tp.B at h
  rw [List.getElem?_eq_getElem hl] at h
  simp only [Option.getD_some] at h
  congr 1
  apply UInt8.toNat_inj.mp
  have : (63 : UInt8).toNat = 63 := rfl
  omega
theorem B_n63 {s : ByteArray} {k : Nat} (h : Tp.B s.data.toList k ≠ 63) : s.data.toList[k]? ≠ some 63 := by
  intro h2
  apply h
  unfold Tp.B
  rw [h2]
  rfl

set_option maxRecDepth 100000 in
set_option maxHeartbeats 1000000 in
theorem rstatic_yes (s : ByteArray) (h : (Tp.chk s.data.toList).1 = 0) (hsz : s.size ≤ 64) (w : World) :
    Calls Tryz.prog 17 #[.string s] w fun e w' => e = .returned (.bool (statB s.data.toList)) ∧ w' = w := by
  have HC : Aside ((Tp.chk s.data.toList).1 = 0) := h
  go_enter Tryz.func17, Tryz.ntmps17
  go_wp2_with (go_at_call 27; refine (ris_yes _ HC.out _).mono ?_; rintro e w' ⟨rfl, hw'⟩; replace hw' := hw'.symm; subst hw')
  clear h
  go_loopg [3] s.size (fun g iv wr => ∃ k : Nat, wr = w ∧ k + g = s.size ∧ iv = .int .i64 k ∧ Aside (∀ j, j < k → s.data.toList[j]? ≠ some 63))
  case atStart => exact ⟨0, rfl, by omega, rfl, fun j hj => by omega⟩
  case round =>
    obtain ⟨k, rfl, hkg, rfl, HA⟩ := hrel
    by_cases hk : k < s.size
    · have hk' : (k : Int) < (s.size : Int) := by omega
      have hk0 : (0 : Int) ≤ (k : Int) := by omega
      have hBk := str_B s k hk
      by_cases hq : Tp.B s.data.toList k = 63
      · have HN : Aside (statB s.data.toList = false) := stat_q (B_63 hk hq)
        rw [hq] at hBk
        go_wp2_with fail
        go_ret
        exact ⟨ret_bool HN.out.symm, rfl⟩
      · have HQ : Aside (s.data.toList[k]? ≠ some 63) := B_n63 hq
        have hq' : (Tp.B s.data.toList k == 63) = false := by simpa using hq
        go_wp2_with fail
        go_roundg (gk - 1)
        case measure => omega
        case rel =>
          refine ⟨k + 1, rfl, by omega, by go_num, ?_⟩
          intro j hj
          by_cases hjk : j = k
          · rw [hjk]; exact HQ.out
          · exact HA.out j (by omega)
    · have hk' : decide ((k : Int) < (s.size : Int)) = false := by simp; omega
      have HN : Aside (statB s.data.toList = true) := stat_all HC.out (fun j hj => HA.out j (by rw [str_len] at hj; omega))
      go_wp2_with fail
      go_ret
      exact ⟨ret_bool HN.out.symm, rfl⟩

theorem rstatic_any (s : ByteArray) (w : World) :
    Calls Tryz.prog 17 #[.string s] w fun e w' => e = .returned (.bool (statB s.data.toList)) ∧ w' = w := by
  by_cases h : (Tp.chk s.data.toList).1 = 0
  · obtain ⟨t, h1, h2⟩ := Tp.chk_dec h
    exact rstatic_yes s h (by rw [← str_len, h1]; exact h2) w
  · exact rstatic_no s h w

/-- What is called of words. -/
def WdC (t : Tp.Ty) : Prop := ∀ w : World, Calls Tryz.prog 31 #[.string (S (Tp.enc t))] w fun e w' => e = .returned (.string (S (Tp.wd t))) ∧ Below w.heap.size w w'
def WrC (t : Tp.Ty) : Prop := ∀ w : World, Calls Tryz.prog 58 #[.string (S (Tp.enc t))] w fun e w' => e = .returned (.string (S (Tp.par t (Tp.wd t)))) ∧ Below w.heap.size w w'

theorem S_add (a b : List UInt8) : S a ++ S b = S (a ++ b) := by apply ByteArray.ext; simp [S]
theorem lit_add (a b : List UInt8) (x : ByteArray) (h : x = S a) : x ++ S b = S (a ++ b) := by rw [h, S_add]
theorem add_lit (a b : List UInt8) (x : ByteArray) (h : x = S b) : S a ++ x = S (a ++ b) := by rw [h, S_add]

set_option maxRecDepth 100000 in
set_option maxHeartbeats 1000000 in
theorem wrapped_of (t : Tp.Ty) (hl : (Tp.enc t).length ≤ 64) (h : WdC t) : WrC t := by
  intro w
  obtain ⟨hp, hh⟩ := S_head t
  have hh' := hh hp
  clear hh
  have hp' : (0 : Int) < ((S (Tp.enc t)).size : Int) := by omega
  have hwl := Tp.wd_len t
  have hz1 : (S (Tp.wd t)).size ≤ 1000 := by rw [S_size]; omega
  have hz2 : (S ([40] ++ Tp.wd t)).size ≤ 1000 := by rw [S_size]; simp; omega
  have e1 : (⟨#[40]⟩ : ByteArray) ++ S (Tp.wd t) = S ([40] ++ Tp.wd t) := lit_add [40] _ _ rfl
  have e2 : S ([40] ++ Tp.wd t) ++ (⟨#[41]⟩ : ByteArray) = S ([40] ++ Tp.wd t ++ [41]) := add_lit _ [41] _ rfl
  clear hl hwl
  unfold WdC at h
  cases hf : Tp.isF t with
  | true =>
    have HP : Aside (S (Tp.par t (Tp.wd t)) = S ([40] ++ Tp.wd t ++ [41])) := by
      show _ = _
      rw [Tp.par, hf]; rfl
    have hd62 : (Tp.hd t).toNat = 62 := by cases t <;> simp_all [Tp.isF, Tp.hd]
    rw [hd62] at hh'
    generalize S (Tp.enc t) = s at *
    generalize S (Tp.par t (Tp.wd t)) = u at *
    generalize S ([40] ++ Tp.wd t ++ [41]) = v2 at *
    generalize S ([40] ++ Tp.wd t) = v1 at *
    generalize S (Tp.wd t) = v at *
    clear hf hd62
    go_enter Tryz.func58, Tryz.ntmps58
    go_wp2_with (go_at_call 31; refine (h _).mono ?_; rintro e w1 ⟨rfl, hB1⟩)
    go_ret
    exact ⟨by rw [HP.out]; rfl, hB1⟩
  | false =>
    have HP : Aside (S (Tp.par t (Tp.wd t)) = S (Tp.wd t)) := by
      show _ = _
      rw [Tp.par, hf]; rfl
    have hd62 : (Tp.hd t).toNat ≠ 62 := by cases t <;> simp_all [Tp.isF, Tp.hd]
    have hne : ((((S (Tp.enc t))[0]'hp).toNat : Int) == 62) = false := by rw [hh']; simp; omega
    clear hh' hd62 e1 e2
    generalize S (Tp.enc t) = s at *
    generalize S (Tp.par t (Tp.wd t)) = u at *
    generalize S (Tp.wd t) = v at *
    go_enter Tryz.func58, Tryz.ntmps58
    go_wp2_with (go_at_call 31; refine (h _).mono ?_; rintro e w1 ⟨rfl, hB1⟩)
    go_ret
    exact ⟨by rw [HP.out]; rfl, hB1⟩

theorem one_cell {W : World} {va : Option Addr} {n vc : Nat} {p : List UInt8} (h : IsTexts W (.slice va n vc) [p]) : ∃ b o, va = some ⟨b, o, none⟩ ∧ n = 1 ∧ b < W.heap.size ∧ W.cell? ⟨b, o, none⟩ = some (.string (S p)) := by
  rcases h with ⟨h, _⟩ | ⟨b, o, c, h1, h2, h3, h4⟩
  · simp at h
  · simp at h1
    exact ⟨b, o, h1.1, h1.2.1, h3, h4 0 p rfl⟩
theorem two_cells {W : World} {va : Option Addr} {n vc : Nat} {p q : List UInt8} (h : IsTexts W (.slice va n vc) [p, q]) : ∃ b o, va = some ⟨b, o, none⟩ ∧ n = 2 ∧ b < W.heap.size ∧ W.cell? ⟨b, o, none⟩ = some (.string (S p)) ∧ W.cell? ⟨b, o + 1, none⟩ = some (.string (S q)) := by
  rcases h with ⟨h, _⟩ | ⟨b, o, c, h1, h2, h3, h4⟩
  · simp at h
  · simp at h1
    exact ⟨b, o, h1.1, h1.2.1, h3, h4 0 p rfl, h4 1 q rfl⟩

set_option maxRecDepth 100000 in
set_option maxHeartbeats 1000000 in
theorem words_q : WdC .tq := by
  intro w
  go_enter Tryz.func31, Tryz.ntmps31
  go_wp2_with (go_at_call 8; refine (rparts_yes .tq (by decide) _).mono ?_; rintro e w1 ⟨v, rfl, hown, hB1⟩; obtain ⟨va, vc, rfl⟩ := own_len hown)
  go_ret
  exact ⟨rfl, hB1⟩

set_option maxRecDepth 100000 in
set_option maxHeartbeats 1000000 in
theorem words_l (a : Tp.Ty) (hl : (Tp.enc (.tl a)).length ≤ 64) (h : WdC a) : WdC (.tl a) := by
  intro w
  have hP := rparts_yes (.tl a) hl
  obtain ⟨hp, hh⟩ := S_head (.tl a)
  have hh' : ((S (Tp.enc (.tl a)))[0]'hp).toNat = 108 := hh hp
  clear hh
  have hp' : (0 : Int) < ((S (Tp.enc (.tl a))).size : Int) := by omega
  have hwl := Tp.wd_len (.tl a)
  have hwe : Tp.wd (.tl a) = [91] ++ Tp.wd a ++ [93] := rfl
  rw [hwe] at hwl
  simp only [List.length_append, List.length_cons, List.length_nil] at hwl
  have hz1 : (S (Tp.wd a)).size ≤ 1000 := by rw [S_size]; omega
  have hz2 : (S ([91] ++ Tp.wd a)).size ≤ 1000 := by rw [S_size]; simp; omega
  have e1 : (⟨#[91]⟩ : ByteArray) ++ S (Tp.wd a) = S ([91] ++ Tp.wd a) := lit_add [91] _ _ rfl
  have e2 : S ([91] ++ Tp.wd a) ++ (⟨#[93]⟩ : ByteArray) = S ([91] ++ Tp.wd a ++ [93]) := add_lit _ [93] _ rfl
  rw [hwe]
  clear hl hwl hwe
  unfold WdC at h
  have hT : ∀ W : World, ∀ v n, W.ownsRow w.heap.size 9 1 v n (tcells [Tp.enc a]) → n = 1 → IsTexts W v [Tp.enc a] := fun W v n h1 h2 => by subst h2; exact IsTexts.own h1
  replace hP : ∀ w : World, Calls Tryz.prog 8 #[.string (S (Tp.enc (.tl a)))] w fun e w' => ∃ v, e = .returned v ∧ w'.ownsRow w.heap.size 9 1 v 1 (tcells [Tp.enc a]) ∧ Below w.heap.size w w' := hP
  generalize S (Tp.enc (.tl a)) = s at *
  generalize hsa : S (Tp.enc a) = sa at *
  generalize S ([91] ++ Tp.wd a ++ [93]) = v2 at *
  generalize S ([91] ++ Tp.wd a) = v1 at *
  generalize S (Tp.wd a) = v at *
  go_enter Tryz.func31, Tryz.ntmps31
  go_wp2_with fail
  refine (hP _).mono ?_
  rintro e w1 ⟨v, rfl, hown, hB1⟩
  obtain ⟨va, vc, rfl⟩ := own_len hown
  obtain ⟨b, o, rfl, hn1, hb, hc0⟩ := one_cell (hT _ _ _ hown rfl)
  rw [hsa] at hc0
  clear hown hT hP
  go_wp2_with (go_at_call 31; refine (h _).mono ?_; rintro e w2 ⟨rfl, hB2⟩)
  go_ret
  exact ⟨rfl, hB1.trans (hB2.mono hB1.size)⟩

end Go.Proofs.YtncnkojbpdemdaaGreatDoor
