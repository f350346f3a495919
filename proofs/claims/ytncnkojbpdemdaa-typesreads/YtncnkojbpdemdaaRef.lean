/- The document's reader in memory: what wrong and now do to it. -/
import Derived.Test.YtncnkojbpdemdaaTake
namespace Go.Proofs.Ytncnkojbpdemdaa
open Go.RowKit

/-- The block rb holds the document's reader: the words, how far it is, how many are open, the fault, its place. -/
def Rf (w : World) (rb : Nat) (ws : ByteArray) (at_ op bd to : Nat) : Prop :=
  w.heap[rb]? = some (.cells #[.string ws, .int .i64 at_, .int .i64 op, .int .i64 bd, .int .i64 to] 44 (0, 0))
theorem Rf.c {w : World} {rb : Nat} {ws : ByteArray} {at_ op bd to : Nat} (h : Rf w rb ws at_ op bd to) :
    w.cell? ⟨rb, 0, none⟩ = some (.string ws) ∧ w.cell? ⟨rb, 1, none⟩ = some (.int .i64 at_) ∧ w.cell? ⟨rb, 2, none⟩ = some (.int .i64 op) ∧ w.cell? ⟨rb, 3, none⟩ = some (.int .i64 bd) ∧ w.cell? ⟨rb, 4, none⟩ = some (.int .i64 to) := by
  unfold Rf at h
  simp [World.cell?, h]
theorem Rf.f {w : World} {rb : Nat} {ws : ByteArray} {at_ op bd to : Nat} (h : Rf w rb ws at_ op bd to) (o : Nat) : w.frozen? ⟨rb, o, none⟩ = false := by
  unfold Rf at h
  simp [World.frozen?, h]
theorem Rf.lt {w : World} {rb : Nat} {ws : ByteArray} {at_ op bd to : Nat} (h : Rf w rb ws at_ op bd to) : rb < w.heap.size := by
  unfold Rf at h
  exact (Array.getElem?_eq_some_iff.1 h).1
theorem Rf.drewN {w : World} {rb : Nat} {ws : ByteArray} {at_ op bd to : Nat} (h : Rf w rb ws at_ op bd to) (n : Nat) : Rf (w.drewN n) rb ws at_ op bd to := h
theorem Rf.setAt {w : World} {rb : Nat} {ws : ByteArray} {at_ op bd to : Nat} (h : Rf w rb ws at_ op bd to) {x : Int} (k : Nat) (hx : x = k) : Rf (w.setCell ⟨rb, 1, none⟩ (.int .i64 x)) rb ws k op bd to := by
  subst hx
  unfold Rf at *
  simp [World.setCell, Array.getElem?_modify, h]
theorem Rf.setOp {w : World} {rb : Nat} {ws : ByteArray} {at_ op bd to : Nat} (h : Rf w rb ws at_ op bd to) {x : Int} (k : Nat) (hx : x = k) : Rf (w.setCell ⟨rb, 2, none⟩ (.int .i64 x)) rb ws at_ k bd to := by
  subst hx
  unfold Rf at *
  simp [World.setCell, Array.getElem?_modify, h]
theorem Rf.setBd {w : World} {rb : Nat} {ws : ByteArray} {at_ op bd to : Nat} (h : Rf w rb ws at_ op bd to) {x : Int} (k : Nat) (hx : x = k) : Rf (w.setCell ⟨rb, 3, none⟩ (.int .i64 x)) rb ws at_ op k to := by
  subst hx
  unfold Rf at *
  simp [World.setCell, Array.getElem?_modify, h]
theorem Rf.setTo {w : World} {rb : Nat} {ws : ByteArray} {at_ op bd to : Nat} (h : Rf w rb ws at_ op bd to) {x : Int} (k : Nat) (hx : x = k) : Rf (w.setCell ⟨rb, 4, none⟩ (.int .i64 x)) rb ws at_ op bd k := by
  subst hx
  unfold Rf at *
  simp [World.setCell, Array.getElem?_modify, h]

set_option maxHeartbeats 1000000 in
theorem wrong_no (w : World) (rb : Nat) (ws : ByteArray) (at_ op bd to : Nat) (h : Rf w rb ws at_ op bd to) (hb : bd ≠ 0) (x y : Int) :
    Calls Try.prog 21 #[.pointer (some ⟨rb, 0, none⟩), .int .i64 x, .int .i64 y] w fun e w' => e = .returned (.tuple #[]) ∧ w' = w := by
  obtain ⟨-, -, -, c3, -⟩ := h.c
  have hb' : ((bd : Int) == 0) = false := by simpa using hb
  go_enter Try.func21, Try.ntmps21
  go_wp2_with fail
  go_end0
  exact ⟨rfl, rfl⟩
set_option maxHeartbeats 1000000 in
theorem wrong_yes (w : World) (rb : Nat) (ws : ByteArray) (at_ op to : Nat) (h : Rf w rb ws at_ op 0 to) (x y : Nat) :
    Calls Try.prog 21 #[.pointer (some ⟨rb, 0, none⟩), .int .i64 x, .int .i64 y] w fun e w' => e = .returned (.tuple #[]) ∧ Rf w' rb ws at_ op x y ∧ w.grownBy w' (some rb) := by
  obtain ⟨-, -, -, c3, -⟩ := h.c
  have f3 := h.f 3
  have f4 := h.f 4
  have h1 := Rf.setBd h (x := (x : Int)) x rfl
  obtain ⟨-, -, -, -, d4⟩ := h1.c
  have e4 := h1.f 4
  go_enter Try.func21, Try.ntmps21
  go_wp2_with fail
  go_end0
  exact ⟨rfl, Rf.setTo h1 y rfl, grownBy_set (grownBy_set (grownBy_refl _ _) _) _⟩

/-- A byte that begins no token. -/
def Byte (ws : ByteArray) (q : Nat) : Prop := Tp.tk ws.data.toList q = [] ∧ q < ws.size
/-- How now leaves the reader. -/
def NowSt (w : World) (rb : Nat) (ws : ByteArray) (at_ op bd to q : Nat) : Prop :=
  (bd = 0 ∧ Byte ws q ∧ Rf w rb ws at_ op 11 q) ∨ (¬ (bd = 0 ∧ Byte ws q) ∧ Rf w rb ws at_ op bd to)
/-- What it hands back. -/
def nowT (ws : ByteArray) (bd q : Nat) : List UInt8 := if bd = 0 then Tp.tk ws.data.toList q else []
theorem tk_end (ws : ByteArray) : Tp.tk ws.data.toList ws.size = [] := by
  unfold Tp.tk
  rw [← str_len, List.drop_length]
  simp
theorem nowT_end (ws : ByteArray) (bd : Nat) : nowT ws bd ws.size = [] := by
  unfold nowT
  split
  · exact tk_end ws
  · rfl
theorem nowT_bad (ws : ByteArray) {bd : Nat} (q : Nat) (h : bd ≠ 0) : nowT ws bd q = [] := by unfold nowT; rw [if_neg h]
theorem nowT_ok (ws : ByteArray) (q : Nat) : nowT ws 0 q = Tp.tk ws.data.toList q := by unfold nowT; rw [if_pos rfl]
theorem byte_end (ws : ByteArray) : ¬ Byte ws ws.size := fun h => by have := h.2; omega

theorem B_drop (l : List UInt8) (j k : Nat) : Tp.B (l.drop j) k = Tp.B l (j + k) := by unfold Tp.B; rw [List.getElem?_drop]
theorem tk_facts (ws : ByteArray) (j : Nat) (hj : j < ws.size) :
    (Tp.markB (Tp.B ws.data.toList j) = true → S (Tp.tk ws.data.toList j) = ws.extract j (j + 1) ∧ ¬ Byte ws j) ∧
    (Tp.markB (Tp.B ws.data.toList j) = false →
      (Tp.B ws.data.toList j = 45 → j + 1 < ws.size → Tp.B ws.data.toList (j + 1) = 62 → Tp.tk ws.data.toList j = [45, 62]) ∧
      (Tp.letterB (Tp.B ws.data.toList j) = false → ¬ (Tp.B ws.data.toList j = 45 ∧ j + 1 < ws.size ∧ Tp.B ws.data.toList (j + 1) = 62) → Tp.tk ws.data.toList j = []) ∧
      (Tp.letterB (Tp.B ws.data.toList j) = true → Tp.tl ws.data.toList j = Tp.span Tp.innerB (ws.data.toList.drop j))) := by
  have hl : j < ws.data.toList.length := by rw [str_len]; exact hj
  have hd0 : 0 < (ws.data.toList.drop j).length := by rw [List.length_drop]; omega
  have hb0 : Tp.B (ws.data.toList.drop j) 0 = Tp.B ws.data.toList j := B_drop _ _ _
  have hb1 : Tp.B (ws.data.toList.drop j) 1 = Tp.B ws.data.toList (j + 1) := B_drop _ _ _
  refine ⟨fun hm => ?_, fun hm => ⟨fun h1 h2 h3 => ?_, fun h1 h2 => ?_, fun h1 => ?_⟩⟩
  · have ht : Tp.tl ws.data.toList j = 1 := by unfold Tp.tl; exact Tp.tokL_mark hd0 (by rw [hb0]; exact hm)
    have h1 := S_cut ws.data.toList j (j + 1)
    rw [← S_of] at h1
    refine ⟨by rw [h1]; unfold Tp.tk; rw [ht, show j + 1 - j = 1 by omega], fun hb => ?_⟩
    have := Tp.tk_len ws.data.toList j
    rw [hb.1, ht] at this
    simp at this
  · obtain ⟨c, hc1, hc2⟩ := Tp.drop_B hl
    obtain ⟨c', hc3, hc4⟩ := Tp.drop_B (l := ws.data.toList) (k := j + 1) (by rw [str_len]; exact h2)
    have e1 : c = 45 := by rw [h1] at hc2; have : c.toNat = 45 := by omega
                           exact UInt8.toNat_inj.1 this
    have e2 : c' = 62 := by rw [h3] at hc4; have : c'.toNat = 62 := by omega
                            exact UInt8.toNat_inj.1 this
    subst e1 e2
    rw [hc3] at hc1
    exact (Tp.tk_arrow hc1).1
  · have ht : Tp.tl ws.data.toList j = 0 := by
      unfold Tp.tl
      refine Tp.tokL_none hd0 ?_ (by rw [hb0]; exact hm) (by rw [hb0]; exact h1)
      cases hp : Lib.hasPrefix (ws.data.toList.drop j) [45, 62] with
      | false => rfl
      | true =>
        exfalso
        apply h2
        obtain ⟨c, hc1, hc2⟩ := Tp.drop_B hl
        unfold Lib.hasPrefix at hp
        have hlen := Tp.tokL_arrow (l := ws.data.toList.drop j) (by unfold Lib.hasPrefix; exact hp)
        have hj1 : j + 1 < ws.size := by have := hlen.2; rw [List.length_drop, str_len] at this; omega
        obtain ⟨c', hc3, hc4⟩ := Tp.drop_B (l := ws.data.toList) (k := j + 1) (by rw [str_len]; exact hj1)
        rw [hc1, hc3] at hp
        simp [List.isPrefixOf] at hp
        obtain ⟨rfl, rfl⟩ := hp
        exact ⟨hc2.symm, hj1, hc4.symm⟩
    unfold Tp.tk
    rw [ht]
    rfl
  · unfold Tp.tl
    rw [Tp.tokL_word hd0 (by rw [hb0]; exact hm) (by rw [hb0]; exact h1), List.drop_drop, Tp.span_in hl (by simp [Tp.innerB, h1])]
    omega

set_option maxRecDepth 100000 in
set_option maxHeartbeats 8000000 in
theorem now_any (w : World) (rb : Nat) (ws : ByteArray) (at_ op bd to : Nat) (h : Rf w rb ws at_ op bd to) (hs : ws.size ≤ 2147483647) (ha : at_ ≤ ws.size) :
    Calls Try.prog 20 #[.pointer (some ⟨rb, 0, none⟩)] w fun e w' => e = .returned (.tuple #[.string (S (nowT ws bd (Tp.sk ws.data.toList at_))), .int .i64 (Tp.sk ws.data.toList at_)]) ∧ NowSt w' rb ws at_ op bd to (Tp.sk ws.data.toList at_) ∧ w.grownBy w' (some rb) := by
  obtain ⟨c0, c1, c2, c3, c4⟩ := h.c
  have HL : Aside (ws.data.toList.length = ws.size) := str_len ws
  go_enter Try.func20, Try.ntmps20
  go_wp2_with fail
  go_loopg [4] (ws.size - at_) (fun g cv wr => ∃ j : Nat, j + g = ws.size ∧ cv = .int .i64 j ∧ w = wr ∧ Aside (Tp.sk ws.data.toList at_ = Tp.sk ws.data.toList j))
  case atStart => exact ⟨at_, by omega, rfl, rfl, rfl⟩
  case round =>
    obtain ⟨j, hjg, rfl, rfl, HJ⟩ := hrel
    have hj0 : (0 : Int) ≤ (j : Int) := by omega
    by_cases hj : j < ws.size
    · have hj' : (j : Int) < (ws.size : Int) := by omega
      have hB := str_B ws j hj
      have hjl : j < ws.data.toList.length := by rw [HL.out]; exact hj
      by_cases hb : Tp.blankB (Tp.B ws.data.toList j) = true
      · have HN : Aside (Tp.sk ws.data.toList at_ = Tp.sk ws.data.toList (j + 1)) := by
          show _ = _
          rw [HJ.out]
          unfold Tp.sk
          rw [Tp.span_in hjl hb]; omega
        have h4 : Tp.B ws.data.toList j = 9 ∨ Tp.B ws.data.toList j = 10 ∨ Tp.B ws.data.toList j = 13 ∨ Tp.B ws.data.toList j = 32 := by
          unfold Tp.blankB at hb; simp at hb; omega
        clear hb
        generalize Tp.B ws.data.toList j = b at *
        rcases h4 with rfl | rfl | rfl | rfl
        · go_wp2_with fail
          go_roundg (gk - 1)
          case measure => omega
          case rel => exact ⟨j + 1, by omega, by go_num, rfl, HN⟩
        · go_wp2_with fail
          go_roundg (gk - 1)
          case measure => omega
          case rel => exact ⟨j + 1, by omega, by go_num, rfl, HN⟩
        · go_wp2_with fail
          go_roundg (gk - 1)
          case measure => omega
          case rel => exact ⟨j + 1, by omega, by go_num, rfl, HN⟩
        · go_wp2_with fail
          go_roundg (gk - 1)
          case measure => omega
          case rel => exact ⟨j + 1, by omega, by go_num, rfl, HN⟩
      · have HN : Aside (Tp.sk ws.data.toList at_ = j) := by
          show _ = _
          rw [HJ.out]
          unfold Tp.sk
          rw [Tp.span_out hjl (by simpa using hb)]; rfl
        have h9 : (Tp.B ws.data.toList j == 9) = false := by unfold Tp.blankB at hb; simp at hb ⊢; omega
        have h10 : (Tp.B ws.data.toList j == 10) = false := by unfold Tp.blankB at hb; simp at hb ⊢; omega
        have h13 : (Tp.B ws.data.toList j == 13) = false := by unfold Tp.blankB at hb; simp at hb ⊢; omega
        have h32 : (Tp.B ws.data.toList j == 32) = false := by unfold Tp.blankB at hb; simp at hb ⊢; omega
        have hjs : ((j : Int) == (ws.size : Int)) = false := by simp; omega
        clear hb
        by_cases hbd : bd = 0
        · subst hbd
          obtain ⟨hX1, hX2⟩ := tk_facts ws j hj
          by_cases hm : Tp.markB (Tp.B ws.data.toList j) = true
          · have HT : Aside (S (Tp.tk ws.data.toList j) = ws.extract j (j + 1) ∧ ¬ Byte ws j) := hX1 hm
            have h6 : Tp.B ws.data.toList j = 63 ∨ Tp.B ws.data.toList j = 40 ∨ Tp.B ws.data.toList j = 41 ∨ Tp.B ws.data.toList j = 44 ∨ Tp.B ws.data.toList j = 91 ∨ Tp.B ws.data.toList j = 93 := by
              unfold Tp.markB at hm; simp at hm; omega
            have hj1 : (j : Int) + 1 ≤ (ws.size : Int) := by omega
            clear hm hX1 hX2 h9 h10 h13 h32
            generalize Tp.B ws.data.toList j = b at *
            rcases h6 with rfl | rfl | rfl | rfl | rfl | rfl
            all_goals
              go_wp2_with fail
              go_ret2
              rw [HN.out, nowT_ok, HT.out.1]
              exact ⟨rfl, .inr ⟨fun h => HT.out.2 h.2, h⟩, grownBy_refl _ _⟩
          · have m1 : (Tp.B ws.data.toList j == 63) = false := by unfold Tp.markB at hm; simp at hm ⊢; omega
            have m2 : (Tp.B ws.data.toList j == 40) = false := by unfold Tp.markB at hm; simp at hm ⊢; omega
            have m3 : (Tp.B ws.data.toList j == 41) = false := by unfold Tp.markB at hm; simp at hm ⊢; omega
            have m4 : (Tp.B ws.data.toList j == 44) = false := by unfold Tp.markB at hm; simp at hm ⊢; omega
            have m5 : (Tp.B ws.data.toList j == 91) = false := by unfold Tp.markB at hm; simp at hm ⊢; omega
            have m6 : (Tp.B ws.data.toList j == 93) = false := by unfold Tp.markB at hm; simp at hm ⊢; omega
            obtain ⟨hY1, hY2, hY3⟩ := hX2 (by simpa using hm)
            clear hX1 hX2 hm
            by_cases hl : Tp.letterB (Tp.B ws.data.toList j) = true
            · have HT : Aside (Tp.tl ws.data.toList j = Tp.span Tp.innerB (ws.data.toList.drop j)) := hY3 hl
              have m45 : (Tp.B ws.data.toList j == 45) = false := by unfold Tp.letterB at hl; simp at hl ⊢; omega
              have HB : Aside (Tp.innerB (Tp.B ws.data.toList j) = true) := by show _ = _; simp [Tp.innerB, hl]
              have cl := letter_any (Tp.B ws.data.toList j)
              rw [hl] at cl
              clear hY1 hY2 hY3 hl
              go_wp2_with (go_at_call 38; refine (cl _).mono ?_; rintro e w' ⟨rfl, hw'⟩; replace hw' := hw'.symm; subst hw')
              clear h9 h10 h13 h32 m1 m2 m3 m4 m5 m6 m45 cl hB hj'
              go_loopg [6] (ws.size - j) (fun g cv wr => ∃ k : Nat, k + g = ws.size ∧ j ≤ k ∧ cv = .int .i64 k ∧ w = wr ∧ Aside (Tp.span Tp.innerB (ws.data.toList.drop j) = (k - j) + Tp.span Tp.innerB (ws.data.toList.drop k)))
              case atStart => exact ⟨j, by omega, Nat.le_refl _, rfl, rfl, by show _ = _; omega⟩
              case round =>
                obtain ⟨k, hkg, hjk, rfl, rfl, HK⟩ := hrel
                have hk0 : (0 : Int) ≤ (k : Int) := by omega
                have hjk' : (j : Int) ≤ (k : Int) := by omega
                have hks : (k : Int) ≤ (ws.size : Int) := by omega
                have hfin : ∀ n : Nat, Tp.span Tp.innerB (ws.data.toList.drop j) = k - j → S (Tp.tk ws.data.toList j) = ws.extract j k := fun n hn => by
                  have h1 := S_cut ws.data.toList j k
                  rw [← S_of] at h1
                  rw [h1]
                  unfold Tp.tk
                  rw [HT.out, hn]
                by_cases hk : k < ws.size
                · have hk' : (k : Int) < (ws.size : Int) := by omega
                  have hkB := str_B ws k hk
                  have hkl : k < ws.data.toList.length := by rw [HL.out]; exact hk
                  have ci := inside_any (Tp.B ws.data.toList k)
                  by_cases hin : Tp.innerB (Tp.B ws.data.toList k) = true
                  · have HN2 : Aside (Tp.span Tp.innerB (ws.data.toList.drop j) = (k + 1 - j) + Tp.span Tp.innerB (ws.data.toList.drop (k + 1))) := by
                      show _ = _
                      rw [HK.out, Tp.span_in hkl hin]; omega
                    rw [hin] at ci
                    clear hfin hin
                    go_wp2_with (go_at_call 39; refine (ci _).mono ?_; rintro e w' ⟨rfl, hw'⟩; replace hw' := hw'.symm; subst hw')
                    go_roundg (gk - 1)
                    case measure => omega
                    case rel => exact ⟨k + 1, by omega, by omega, by go_num, rfl, HN2⟩
                  · have hin' : Tp.innerB (Tp.B ws.data.toList k) = false := by simpa using hin
                    have HF : Aside (S (Tp.tk ws.data.toList j) = ws.extract j k) := hfin 0 (by rw [HK.out, Tp.span_out hkl hin']; rfl)
                    have hne : j ≠ k := fun e => by subst e; rw [HB.out] at hin'; cases hin'
                    have HY : Aside (¬ Byte ws j) := fun hb => by
                      have := HF.out
                      rw [hb.1] at this
                      have := congrArg ByteArray.size this
                      have h1 := S_cut ws.data.toList j k
                      rw [← S_of] at h1
                      rw [h1, S_size, S_size, List.length_take, List.length_drop, HL.out] at this
                      simp at this
                      omega
                    rw [hin'] at ci
                    clear hfin hin hin' hne
                    go_wp2_with (go_at_call 39; refine (ci _).mono ?_; rintro e w' ⟨rfl, hw'⟩; replace hw' := hw'.symm; subst hw')
                    go_ret2
                    rw [HN.out, nowT_ok, HF.out]
                    exact ⟨rfl, .inr ⟨fun h => HY.out h.2, h⟩, grownBy_refl _ _⟩
                · have hk' : decide ((k : Int) < (ws.size : Int)) = false := by simp; omega
                  obtain rfl : k = ws.size := by omega
                  have HF : Aside (S (Tp.tk ws.data.toList j) = ws.extract j ws.size) := hfin 0 (by
                    have := Tp.span_end Tp.innerB ws.data.toList
                    rw [HL.out] at this
                    rw [HK.out, this]; rfl)
                  have HY : Aside (¬ Byte ws j) := fun hb => by
                    have := HF.out
                    rw [hb.1] at this
                    have := congrArg ByteArray.size this
                    have h1 := S_cut ws.data.toList j ws.size
                    rw [← S_of] at h1
                    rw [h1, S_size, S_size, List.length_take, List.length_drop, HL.out] at this
                    simp at this
                    omega
                  clear hfin
                  go_wp2_with fail
                  go_ret2
                  rw [HN.out, nowT_ok, HF.out]
                  exact ⟨rfl, .inr ⟨fun h => HY.out h.2, h⟩, grownBy_refl _ _⟩
            · have hl' : Tp.letterB (Tp.B ws.data.toList j) = false := by simpa using hl
              have cl := letter_any (Tp.B ws.data.toList j)
              rw [hl'] at cl
              have hWr := wrong_yes w rb ws at_ op to h 11 j
              by_cases ha : Tp.B ws.data.toList j = 45 ∧ j + 1 < ws.size ∧ Tp.B ws.data.toList (j + 1) = 62
              · obtain ⟨hb1, hb2, hb3⟩ := ha
                have HT : Aside (Tp.tk ws.data.toList j = [45, 62]) := hY1 hb1 hb2 hb3
                have HY : Aside (¬ Byte ws j) := fun hb => by have := hb.1; rw [HT.out] at this; cases this
                have hj1 : (j : Int) + 1 < (ws.size : Int) := by omega
                have hB1 := str_B ws (j + 1) hb2
                rw [hb3] at hB1
                rw [hb1] at hB
                clear hY1 hY2 hY3 hl hl' cl m1 m2 m3 m4 m5 m6 h9 h10 h13 h32
                go_wp2_with fail
                go_ret2
                rw [HN.out, nowT_ok, HT.out]
                exact ⟨rfl, .inr ⟨fun h => HY.out h.2, h⟩, grownBy_refl _ _⟩
              · have HT : Aside (Tp.tk ws.data.toList j = []) := hY2 hl' ha
                have HY : Aside (Byte ws j) := ⟨HT.out, hj⟩
                by_cases h45 : Tp.B ws.data.toList j = 45
                · by_cases hj1 : j + 1 < ws.size
                  · have hj1' : (j : Int) + 1 < (ws.size : Int) := by omega
                    have hB1 := str_B ws (j + 1) hj1
                    have hne : (Tp.B ws.data.toList (j + 1) == 62) = false := by
                      cases he : Tp.B ws.data.toList (j + 1) == 62 with
                      | false => rfl
                      | true => exact absurd ⟨h45, hj1, by simpa using he⟩ ha
                    rw [h45] at hB cl
                    clear hY1 hY2 hY3 hl hl' m1 m2 m3 m4 m5 m6 h9 h10 h13 h32 ha
                    go_wp2_with (first | (go_at_call 38; refine (cl _).mono ?_; rintro e w' ⟨rfl, hw'⟩; replace hw' := hw'.symm; subst hw') | (go_at_call 21; refine hWr.mono ?_; rintro e w3 ⟨rfl, h3, g3⟩))
                    go_ret2
                    rw [HN.out, nowT_ok, HT.out]
                    exact ⟨rfl, .inl ⟨rfl, HY.out, h3⟩, g3⟩
                  · have hj1' : decide ((j : Int) + 1 < (ws.size : Int)) = false := by simp; omega
                    rw [h45] at hB cl
                    clear hY1 hY2 hY3 hl hl' m1 m2 m3 m4 m5 m6 h9 h10 h13 h32 ha
                    go_wp2_with (first | (go_at_call 38; refine (cl _).mono ?_; rintro e w' ⟨rfl, hw'⟩; replace hw' := hw'.symm; subst hw') | (go_at_call 21; refine hWr.mono ?_; rintro e w3 ⟨rfl, h3, g3⟩))
                    go_ret2
                    rw [HN.out, nowT_ok, HT.out]
                    exact ⟨rfl, .inl ⟨rfl, HY.out, h3⟩, g3⟩
                · have m45 : (Tp.B ws.data.toList j == 45) = false := by simpa using h45
                  clear hY1 hY2 hY3 hl hl' ha h45
                  go_wp2_with (first | (go_at_call 38; refine (cl _).mono ?_; rintro e w' ⟨rfl, hw'⟩; replace hw' := hw'.symm; subst hw') | (go_at_call 21; refine hWr.mono ?_; rintro e w3 ⟨rfl, h3, g3⟩))
                  go_ret2
                  rw [HN.out, nowT_ok, HT.out]
                  exact ⟨rfl, .inl ⟨rfl, HY.out, h3⟩, g3⟩
        · have hbd' : ((bd : Int) != 0) = true := by simpa using hbd
          go_wp2_with fail
          go_ret2
          rw [HN.out, nowT_bad ws j hbd]
          exact ⟨rfl, .inr ⟨fun h => hbd h.1, h⟩, grownBy_refl _ _⟩
    · have hj' : decide ((j : Int) < (ws.size : Int)) = false := by simp; omega
      obtain rfl : j = ws.size := by omega
      have HN : Aside (Tp.sk ws.data.toList at_ = ws.size) := by
        show _ = _
        rw [HJ.out]
        unfold Tp.sk
        have := Tp.span_end Tp.blankB ws.data.toList
        rw [HL.out] at this
        rw [this]; rfl
      go_wp2_with fail
      go_ret2
      rw [HN.out, nowT_end]
      exact ⟨rfl, .inr ⟨fun h => byte_end ws h.2, h⟩, grownBy_refl _ _⟩
end Go.Proofs.Ytncnkojbpdemdaa
