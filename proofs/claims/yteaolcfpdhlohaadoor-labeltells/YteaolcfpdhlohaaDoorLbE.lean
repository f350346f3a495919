/- Sides, labels, their sites: what the program's and the document's small questions answer. -/
import Derived.Test.YteaolcfpdhlohaaDoorLbB
import Derived.Test.YteaolcfpdhlohaaDoorLbD
namespace Go.Proofs.YteaolcfpdhlohaaDoor
open Go.RowKit
set_option maxRecDepth 100000
set_option linter.unusedSimpArgs false

namespace Lb
def turn (b : Int) : Int := if b = -9223372036854775808 then 0 else -b
def lab (b : Int) : Int := if 0 < b then b else turn b
def ins (b : Int) : Bool := decide (0 < b)
/-- The site of the label that is blamed. -/
def site (l : List Si) (b : Int) : Option Si := if lab b = 0 ∨ (l.length : Int) < lab b then none else l[(lab b - 1).toNat]?
def zsi : Si := ⟨⟨#[]⟩, ⟨#[]⟩, 0, 0, 0⟩
/-- The module that a side is. -/
def who (x : Si) (b : Int) : ByteArray := if x.ru = 18 ∧ 0 < b then x.e else x.m
theorem lab_range {b : Int} (h : -9223372036854775808 ≤ b) (h' : b ≤ 9223372036854775807) : 0 ≤ lab b ∧ lab b ≤ 9223372036854775807 := by
  unfold lab turn; split
  · omega
  · split <;> omega
theorem site_none {l : List Si} {b : Int} (h : -9223372036854775808 ≤ b) (h' : b ≤ 9223372036854775807) (hs : site l b = none) : lab b = 0 ∨ (l.length : Int) < lab b := by
  obtain ⟨h1, h2⟩ := lab_range h h'
  unfold site at hs
  split at hs
  · assumption
  · rename_i hn
    rw [List.getElem?_eq_none_iff] at hs
    omega
theorem site_some {l : List Si} {b : Int} {x : Si} (h : -9223372036854775808 ≤ b) (h' : b ≤ 9223372036854775807) (hs : site l b = some x) : ∃ k : Nat, lab b = (k : Int) + 1 ∧ k < l.length ∧ l[k]? = some x := by
  obtain ⟨h1, h2⟩ := lab_range h h'
  unfold site at hs
  split at hs
  · simp at hs
  · rename_i hn
    have hk : (lab b - 1).toNat < l.length := (List.getElem?_eq_some_iff.1 hs).1
    exact ⟨(lab b - 1).toNat, by omega, hk, hs⟩
end Lb

set_option maxHeartbeats 1000000 in
theorem turn_any (b : Int) (h : -9223372036854775808 ≤ b) (h' : b ≤ 9223372036854775807) (w : World) :
    Calls Tryd.prog 17 #[.int .i64 b] w fun e w' => e = .returned (.int .i64 (Lb.turn b)) ∧ w' = w := by
  by_cases hm : b = -9223372036854775808
  · subst hm
    go_enter Tryd.func17, Tryd.ntmps17
    go_wp2
    go_ret
    exact ⟨rfl, rfl⟩
  · have h1 : -9223372036854775807 ≤ b := by omega
    go_enter Tryd.func17, Tryd.ntmps17
    go_wp2
    go_ret
    exact ⟨ret_int (by unfold Lb.turn; rw [if_neg hm]), rfl⟩

set_option maxHeartbeats 1000000 in
theorem refTurn_any (b : Int) (h : -9223372036854775808 ≤ b) (h' : b ≤ 9223372036854775807) (w : World) :
    Calls Tryd.prog 18 #[.int .i64 b] w fun e w' => e = .returned (.int .i64 (Lb.turn b)) ∧ w' = w := by
  by_cases hm : b = -9223372036854775808
  · subst hm
    go_enter Tryd.func18, Tryd.ntmps18
    go_wp2
    go_ret
    exact ⟨rfl, rfl⟩
  · have h1 : -9223372036854775807 ≤ b := by omega
    go_enter Tryd.func18, Tryd.ntmps18
    go_wp2
    go_ret
    exact ⟨ret_int (by unfold Lb.turn; rw [if_neg hm]), rfl⟩

theorem ret_side {a c : Int} {b d : Bool} (h : a = c) (h' : b = d) : Ending.returned (.tuple #[.int .i64 a, .bool b]) = .returned (.tuple #[.int .i64 c, .bool d]) := by rw [h, h']

set_option maxHeartbeats 1000000 in
theorem side_any (b : Int) (h : -9223372036854775808 ≤ b) (h' : b ≤ 9223372036854775807) (w : World) :
    Calls Tryd.prog 9 #[.int .i64 b] w fun e w' => e = .returned (.tuple #[.int .i64 (Lb.lab b), .bool (Lb.ins b)]) ∧ w' = w := by
  have ht := turn_any b h h'
  by_cases hp : 0 < b
  · go_enter Tryd.func9, Tryd.ntmps9
    go_wp2_with fail
    go_ret2
    exact ⟨ret_side (by unfold Lb.lab; rw [if_pos hp]) (by unfold Lb.ins; simp [hp]), rfl⟩
  · have HT : Aside (Lb.lab b = Lb.turn b) := by show _ = _; unfold Lb.lab; rw [if_neg hp]
    generalize Lb.turn b = t at *
    go_enter Tryd.func9, Tryd.ntmps9
    go_wp2_with (go_at_call 17; refine (ht _).mono ?_; rintro e w' ⟨rfl, rfl⟩)
    go_ret2
    exact ⟨ret_side HT.out.symm (by unfold Lb.ins; simp [hp]), rfl⟩

set_option maxHeartbeats 1000000 in
theorem refSide_any (b : Int) (h : -9223372036854775808 ≤ b) (h' : b ≤ 9223372036854775807) (w : World) :
    Calls Tryd.prog 10 #[.int .i64 b] w fun e w' => e = .returned (.tuple #[.int .i64 (Lb.lab b), .bool (Lb.ins b)]) ∧ w' = w := by
  by_cases h0 : b = 0
  · subst h0
    go_enter Tryd.func10, Tryd.ntmps10
    go_wp2_with fail
    go_ret2
    exact ⟨rfl, rfl⟩
  by_cases hm : b = -9223372036854775808
  · subst hm
    go_enter Tryd.func10, Tryd.ntmps10
    go_wp2_with fail
    go_ret2
    exact ⟨rfl, rfl⟩
  have h0' : (b == 0) = false := by simpa using h0
  have hm' : (b == -9223372036854775808) = false := by simpa using hm
  by_cases hp : b < 0
  · have h1 : -9223372036854775807 ≤ b := by omega
    go_enter Tryd.func10, Tryd.ntmps10
    go_wp2_with fail
    go_ret2
    exact ⟨ret_side (by unfold Lb.lab Lb.turn; rw [if_neg (by omega), if_neg hm]) (by unfold Lb.ins; simp; omega), rfl⟩
  · go_enter Tryd.func10, Tryd.ntmps10
    go_wp2_with fail
    go_ret2
    exact ⟨ret_side (by unfold Lb.lab; rw [if_pos (by omega)]) (by unfold Lb.ins; simp; omega), rfl⟩

set_option maxHeartbeats 1000000 in
theorem isBorder_any (x : Lb.Si) (w : World) :
    Calls Tryd.prog 30 #[.agg #[.string x.m, .string x.e, .int .i64 x.ln, .int .i64 x.co, .int .i64 x.ru]] w fun e w' => e = .returned (.bool (x.ru == 18)) ∧ Below w.heap.size w w' := by
  go_enter Tryd.func30, Tryd.ntmps30
  go_wp2_with fail
  go_ret
  exact ⟨rfl, (Below.refl _ _).alloc (Nat.le_refl _) _⟩

namespace Lb
/-- How many letters there are, as far as they are counted. -/
def cnt : List Si → Nat → Nat
  | [], z => z
  | x :: r, z => if z ≤ 1048576 then cnt r (z + x.m.size + x.e.size) else z
/-- More than is asked for. -/
def wideB (l : List Si) : Bool := decide (1048576 < cnt l l.length) || decide (2048 < l.length)
theorem cnt_le : ∀ (r : List Si) (z : Nat), cnt r z ≤ 1048576 → z ≤ 1048576 ∧ ∀ x ∈ r, x.m.size ≤ 1048576 ∧ x.e.size ≤ 1048576
  | [], z, h => ⟨h, by simp⟩
  | x :: r, z, h => by
    rw [cnt] at h
    split at h
    · obtain ⟨h1, h2⟩ := cnt_le r _ h
      refine ⟨by omega, fun y hy => ?_⟩
      rcases List.mem_cons.1 hy with rfl | hy
      · omega
      · exact h2 y hy
    · omega
theorem cnt_over {r : List Si} {z : Nat} (h : 1048576 < z) : cnt r z = z := by
  cases r with
  | nil => rfl
  | cons x r => rw [cnt, if_neg (by omega)]
theorem wide_no {l : List Si} (h : wideB l = false) : l.length ≤ 2048 ∧ ∀ x ∈ l, x.m.size ≤ 1048576 ∧ x.e.size ≤ 1048576 := by
  unfold wideB at h
  simp at h
  exact ⟨h.2, (cnt_le l _ h.1).2⟩
end Lb
set_option maxHeartbeats 2000000 in
theorem wide_any (l : List Lb.Si) (hlen : l.length ≤ 4398046511104) (hs : ∀ x ∈ l, x.m.size ≤ 281474976710656 ∧ x.e.size ≤ 281474976710656) (v : Value) (w : World) (hl : IsSites w v l) :
    Calls Tryd.prog 6 #[v] w fun e w' => e = .returned (.bool (Lb.wideB l)) ∧ ∃ n, w' = w.drewN n := by
  obtain ⟨a, c, rfl⟩ := hl.form
  go_enter Tryd.func6, Tryd.ntmps6
  go_wp2_with fail
  go_loopg [3, 4] (l.length + 1) (fun g s t wr => ∃ k n z : Nat, k + g = l.length + 1 ∧ k ≤ l.length ∧ t = .int .i64 (k : Int) ∧ s = .int .i64 (z : Int) ∧ z ≤ 1048576 * 1048576 * 1024 ∧ Aside (True → Lb.cnt l l.length = Lb.cnt (l.drop k) z) ∧ wr = w.drewN n)
  case atStart => exact ⟨0, 0, l.length, by omega, by omega, rfl, rfl, by omega, fun _ => rfl, rfl⟩
  case round =>
    obtain ⟨k, n, z, hkg, hkl, rfl, rfl, hz, HZ, rfl⟩ := hrel
    have hk0 : (0 : Int) ≤ (k : Int) := by omega
    have hz0 : (0 : Int) ≤ (z : Int) := by omega
    by_cases hk : k < l.length
    · have hk' : (k : Int) < (l.length : Int) := by omega
      by_cases hz1 : z ≤ 1048576
      · have hz1' : (z : Int) ≤ 1048576 := by omega
        obtain ⟨x, hx, hd⟩ := getc hk
        obtain ⟨b1, o1, rfl, hc1, hl1, hcx⟩ := hl.at hx
        obtain ⟨p0, p1, p2, p3, p4⟩ := agg_cells (o := o1 + k * 5) hcx
        obtain ⟨hs1, hs2⟩ := hs x (List.mem_of_getElem? hx)
        have HX : Aside (True → Lb.cnt l l.length = Lb.cnt (l.drop (k + 1)) (z + x.m.size + x.e.size)) := fun _ => by
          rw [HZ.out trivial, hd, Lb.cnt, if_pos hz1]
        clear hcx hx HZ hs hl hd
        have hi1 : IntKind.i64.wrap ((z : Int) + (x.m.size : Int)) = (z : Int) + (x.m.size : Int) := IntWalk.i64_in _ (by omega)
        have hi2 : IntKind.i64.wrap ((z : Int) + (x.m.size : Int) + (x.e.size : Int)) = (z : Int) + (x.m.size : Int) + (x.e.size : Int) := IntWalk.i64_in _ (by omega)
        go_wp2_with fail
        go_quiet (fail)
        go_wp2_with fail
        go_roundg (l.length + 1 - (k + 1))
        case measure => omega
        case rel => exact ⟨k + 1, _, z + x.m.size + x.e.size, by omega, by omega, by go_num, by go_num, by omega, HX, by first | rfl | exact World.drewN_drewN⟩
      · have hz1' : ¬ (z : Int) ≤ 1048576 := by omega
        have hz2 : (1048576 : Int) < (z : Int) := by omega
        have HF : Aside (True → Lb.wideB l = true) := fun _ => by
          unfold Lb.wideB
          rw [HZ.out trivial, Lb.cnt_over (by omega)]
          simp; omega
        clear HZ
        go_wp2_with fail
        go_ret
        exact ⟨ret_bool (HF.out trivial).symm, n, rfl⟩
    · have hk' : ¬ (k : Int) < (l.length : Int) := by omega
      have HZ' : Aside (True → Lb.cnt l l.length = z) := fun _ => by rw [HZ.out trivial, List.drop_eq_nil_of_le (by omega)]; rfl
      clear HZ
      by_cases hz1 : 1048576 < z
      · have hz2 : (1048576 : Int) < (z : Int) := by omega
        have HF : Aside (True → Lb.wideB l = true) := fun _ => by
          unfold Lb.wideB
          rw [HZ'.out trivial]
          simp; omega
        clear HZ'
        go_wp2_with fail
        go_ret
        exact ⟨ret_bool (HF.out trivial).symm, n, rfl⟩
      · have hz2 : ¬ (1048576 : Int) < (z : Int) := by omega
        have HF : Aside (True → Lb.wideB l = decide (2048 < (l.length : Int))) := fun _ => by
          unfold Lb.wideB
          rw [HZ'.out trivial, Bool.eq_iff_iff]
          simp; omega
        clear HZ'
        go_wp2_with fail
        go_ret
        exact ⟨ret_bool (HF.out trivial).symm, n, rfl⟩
end Go.Proofs.YteaolcfpdhlohaaDoor
