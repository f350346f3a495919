/- Package value: Read and Write of a box under one cast, or none; numbers. -/
import Derived.Test.YtkmoeflodafoeaaGreatDoorUau
namespace Go.Proofs.YtkmoeflodafoeaaGreatDoor.Vl
open Go.RowKit
open T3.Tp (Ty)
set_option maxRecDepth 100000
set_option linter.unusedSimpArgs false
set_option linter.unusedVariables false
/-- A variable that holds a passage. -/
def HasP (w : World) (gl : Nat) (i k : Nat) (inw : Bool) : Prop := (w.cell? ⟨gl, 0, none⟩ = some (.int .u8 120) ∧ w.cell? ⟨gl, 1, none⟩ = some (.int .i64 (i : Int)) ∧ w.cell? ⟨gl, 2, none⟩ = some (.int .i64 (k : Int)) ∧ w.cell? ⟨gl, 3, none⟩ = some (.bool inw)) ∧ gl < w.heap.size
theorem HasP.below {w w' : World} {gl i k : Nat} {inw : Bool} {B : Nat} (h : HasP w gl i k inw) (hB : Below B w w') (hg : gl < B) : HasP w' gl i k inw := by
  obtain ⟨⟨a, b, c, d⟩, e⟩ := h
  exact ⟨⟨(hB.cell (p := ⟨gl, 0, none⟩) hg).trans a, (hB.cell (p := ⟨gl, 1, none⟩) hg).trans b, (hB.cell (p := ⟨gl, 2, none⟩) hg).trans c, (hB.cell (p := ⟨gl, 3, none⟩) hg).trans d⟩, Nat.lt_of_lt_of_le e hB.size⟩
/-- A number. -/
def nm (n : Int) : Value := .iface 139 (.int .i64 n)
set_option maxHeartbeats 400000 in
theorem Num_any (n : Int) (w : World) : Calls Tryz.prog 27 #[.int .i64 n] w fun e w' => e = .returned (nm n) ∧ w' = w := by
  go_enter Tryz.func27, Tryz.ntmps27
  go_wp2
  go_ret
  exact ⟨rfl, rfl⟩
theorem ta_num (v : Value) (w : World) : (Instr.typeAssert (.iface 139 v) 26 139 true).run Tryz.prog w = .ok (.tuple #[v, .bool true]) w := by kernel_rfl
set_option maxHeartbeats 400000 in
theorem AsNum_any (n : Int) (w : World) : Calls Tryz.prog 99 #[nm n] w fun e w' => e = .returned (.tuple #[.int .i64 n, .int .i64 0]) ∧ w' = w := by
  have h1 : Calls Tryz.prog 146 #[nm n] w fun e w' => e = .returned (.tuple #[.int .i64 n, .int .i64 0]) ∧ w' = w := by
    have ha := ta_num
    unfold nm
    go_enter Tryz.func146, Tryz.ntmps146
    go_wp2
    go_ret2
    exact ⟨rfl, rfl⟩
  unfold nm at *
  go_enter Tryz.func99, Tryz.ntmps99
  go_wp2_with (go_at_call 146; refine h1.mono ?_; rintro e w1 ⟨rfl, hw1⟩; replace hw1 := hw1.symm; subst hw1)
  go_ret2
  exact ⟨rfl, rfl⟩
theorem hd_of {w : World} {x v : Value} {s t : ByteArray} {p : Int} {h : Int} (k : RcAt w x v s t p) (hs : 0 < s.size) (he : ((s[0]'hs).toNat : Int) = h) : Hd w h x := ⟨v, s, t, p, k, hs, he⟩
set_option maxHeartbeats 1600000 in
/-- What a box that no cast is around is read as. -/
theorem Read_bare (x c : Value) (T : TypeId) (u : Value) (w : World) (hb : BxAt w x c) (hP : HasP w 2 0 0 false) :
    Calls Tryz.prog 30 #[x, .iface T u] w fun e w' => e = .returned (.tuple #[.iface T u, .int .i64 0, .int .i64 0]) ∧ Below w.heap.size w w' := by
  have ht : Calls Tryz.prog 70 #[x, .iface T u, psg 120 0 0 false, .func (.func 72) #[] #[]] w fun e w' => e = .returned (.tuple #[.iface T u, .int .i64 0, .int .i64 0]) ∧ Below w.heap.size w w' :=
    (through_box [] x x c T u 0 0 false w (.nil x) hb (by simp) (by simp) (fun _ v _ => v = .iface T u) (fun _ _ _ => False) (fun _ _ => rfl) (fun _ _ _ _ h => h) (fun _ v _ h => ⟨_, _, h⟩) (fun j _ _ _ hj => absurd hj (by simp))).mono (by
      rintro e w' ⟨v, p, k, rfl, hB, ⟨rfl, rfl, rfl⟩ | ⟨-, -, h⟩⟩
      · exact ⟨rfl, hB⟩
      · exact h.elim)
  obtain ⟨⟨c0, c1, c2, c3⟩, -⟩ := hP
  obtain ⟨g, rfl, -⟩ := hb
  unfold psg at ht
  go_enter Tryz.func30, Tryz.ntmps30
  go_wp2_with (go_at_call 70; refine ht.mono ?_; rintro e w1 ⟨rfl, hB1⟩)
  go_ret3
  exact ⟨rfl, hB1⟩
set_option maxHeartbeats 1600000 in
/-- What is set into a box under one cast, from xi to x?: a tagged number is the number. -/
theorem Write_one (x b c y : Value) (n : Int) (w : World) (hx : RcAt w x b (tx (.tx .ti)) (tx (.tx .tq)) 1) (hb : BxAt w b c) (hy : TgAt w y (nm n) 105) (hP : HasP w 3 0 1 true) :
    Calls Tryz.prog 31 #[x, y] w fun e w' => e = .returned (.tuple #[nm n, .int .i64 0, .int .i64 0]) ∧ Below w.heap.size w w' := by
  obtain ⟨gy, hye, hyg⟩ := hy
  have ht : Calls Tryz.prog 70 #[x, y, psg 120 0 1 true, .func (.func 72) #[] #[]] w fun e w' => e = .returned (.tuple #[nm n, .int .i64 0, .int .i64 0]) ∧ Below w.heap.size w w' := by
    rw [hye]
    refine (through_box [x] x b c _ _ 0 1 true w (.cons hx (.nil b)) hb (by simp) (fun z hz => by rw [show z = x from (by simpa using hz)]; exact hd_of hx (by decide) (by decide)) (fun j v _ => if j = 0 then v = .iface 199 (.pointer (some ⟨gy, 0, none⟩)) else v = nm n) (fun _ _ _ => False) (fun _ _ => rfl) (fun _ _ _ _ h => h) (fun j v _ h => by by_cases hj : j = 0 <;> simp only [hj, if_true, if_false] at h <;> exact ⟨_, _, h⟩) ?_).mono ?_
    · intro j v W z hj hz hI hW
      obtain rfl : j = 0 := by simpa using hj
      obtain rfl : x = z := by simpa using hz
      simp only [if_true] at hI
      subst hI
      obtain ⟨g, rfl, hg⟩ := hx
      refine ⟨g, rfl, rc_pass g b (.tx .ti) (.tx .tq) (by decide) (by decide) 1 (by decide) W (blk_keep hg hW) _ _ 120 0 1 true .ti .tq (by decide) rfl rfl _ ?_⟩
      intro W2 hW2
      rw [if_pos rfl]
      refine (castBy_untag _ (nm n) 105 (.inl rfl) (-1) W2 ⟨gy, rfl, blk_keep hyg (hW.trans (hW2.mono hW.size))⟩).mono ?_
      rintro e w' ⟨rfl, hB⟩
      exact ⟨_, _, _, rfl, _, _, _, rfl, hW2.trans (hB.mono hW2.size), .inl ⟨rfl, rfl, rfl⟩⟩
    · rintro e w' ⟨v, p, k, rfl, hB, ⟨rfl, rfl, h⟩ | ⟨-, -, h⟩⟩
      · have h : v = nm n := h
        subst h
        exact ⟨rfl, hB⟩
      · exact h.elim
  obtain ⟨⟨c0, c1, c2, c3⟩, -⟩ := hP
  obtain ⟨g, rfl, -⟩ := hx
  subst hye
  unfold psg nm at *
  go_enter Tryz.func31, Tryz.ntmps31
  go_wp2_with (go_at_call 70; refine ht.mono ?_; rintro e w1 ⟨rfl, hB1⟩)
  go_ret3
  exact ⟨rfl, hB1⟩
end Go.Proofs.YtkmoeflodafoeaaGreatDoor.Vl
