/- What the program's Modules answers. -/
import Derived.Test.YtkcehgpcimlamabGreatDoorMdN
namespace Go.Proofs.YtkcehgpcimlamabGreatDoor
open Go.RowKit
set_option maxRecDepth 100000
set_option linter.unusedSimpArgs false

theorem sumM_le : ∀ (l : List Md), (∀ m ∈ l, big m = false) → (∀ m ∈ l, ∀ x ∈ m.defs, x.tree.length ≤ 2199023255552) → sumM l ≤ l.length * 140737488355328
  | [], _, _ => by simp [sumM]
  | m :: r, h, h' => by
    have h1 := sumM_le r (fun x hx => h x (List.mem_cons_of_mem _ hx)) (fun x hx => h' x (List.mem_cons_of_mem _ hx))
    have h2 := h m (List.mem_cons_self ..)
    have h3 := sumT_le m.defs (h' m (List.mem_cons_self ..))
    simp [big] at h2
    have h4 : m.defs.length * 2199023255552 ≤ 64 * 2199023255552 := Nat.mul_le_mul_right _ (by omega)
    simp only [sumM, List.length_cons]; omega
theorem sumT_mono (l : List Df) (k : Nat) : sumT (l.take k) ≤ sumT l := by have := sumT_split l k; omega
theorem sumM_mono (l : List Md) (k : Nat) : sumM (l.take k) ≤ sumM l := by have := sumM_split l k; omega
theorem any_big {l : List Md} (h : ∀ j x, j < l.length → l[j]? = some x → big x = false) : l.any big = false := by
  rw [List.any_eq_false]
  intro x hx
  obtain ⟨j, hj⟩ := List.getElem?_of_mem hx
  rw [h j x (List.getElem?_eq_some_iff.1 hj).1 hj]
  simp
theorem some_big {l : List Md} {k : Nat} {x : Md} (hx : l[k]? = some x) (h : big x = true) : l.any big = true := List.any_eq_true.2 ⟨x, List.mem_of_getElem? hx, h⟩
theorem chkMs_next {l : List Md} {k : Nat} {x : Md} (h : l[k]? = some x) (h1 : chkM x = 0) : chkMs (l.drop k) = chkMs (l.drop (k + 1)) := by rw [drop_at h, chkMs, if_pos h1]
theorem chkMs_bad {l : List Md} {k : Nat} {x : Md} (h : l[k]? = some x) (h1 : chkM x ≠ 0) : chkMs (l.drop k) = chkM x := by rw [drop_at h, chkMs, if_neg h1]
theorem modN_many {l : List Md} (h : 8 < l.length) : modN l = 17 := by unfold modN; rw [if_pos h]
theorem modN_big {l : List Md} (h : ¬ 8 < l.length) (h2 : l.any big = true) : modN l = 17 := by unfold modN; rw [if_neg h, if_pos h2]
theorem modN_bad {l : List Md} (h : ¬ 8 < l.length) (h2 : l.any big = false) (h3 : chkMs l ≠ 0) : modN l = chkMs l := by unfold modN; rw [if_neg h, if_neg (by simp [h2]), if_neg h3]
theorem modN_fin {l : List Md} (h : ¬ 8 < l.length) (h2 : l.any big = false) (h3 : chkMs l = 0) : modN l = if 4096 < sumM l then 17 else 0 := by unfold modN; rw [if_neg h, if_neg (by simp [h2]), if_pos h3]

set_option maxHeartbeats 8000000 in
theorem treeModules_any (l : List Md) (hf : FitsM l) (v : Value) (w : World) (hl : IsMods w v l) :
    Calls Tryz.prog 7 #[v] w fun e w' => e = .returned (.int .i64 (modN l : Int)) ∧ Below w.heap.size w w' := by
  obtain ⟨a, c, rfl⟩ := RowOf.form hl
  by_cases h8 : 8 < l.length
  · have h8' : (8 : Int) < (l.length : Int) := by omega
    have HR : Aside (modN l = 17) := modN_many h8
    go_enter Tryz.func7, Tryz.ntmps7
    go_wp2_with fail
    go_ret
    rw [HR.out]
    exact ⟨rfl, Below.refl _ _⟩
  have h8' : decide ((8 : Int) < (l.length : Int)) = false := by simp; omega
  have HF : Aside (FitsM l) := hf
  have hl8 : l.length ≤ 8 := by omega
  clear h8 hf
  go_enter Tryz.func7, Tryz.ntmps7
  go_wp2_with fail
  clear h8'
  go_loopg [3, 16] l.length (fun g z t wr => ∃ k n : Nat, k + g = l.length ∧ t = .int .i64 (k : Int) ∧ z = .int .i64 (n : Int) ∧ n ≤ 1125899906842624 ∧ Below w.heap.size w wr ∧ Aside (n = sumM (l.take k) ∧ ∀ j x, j < k → l[j]? = some x → big x = false))
  case atStart => exact ⟨0, 0, by omega, rfl, rfl, by omega, Below.refl _ _, by simp [sumM], fun j x hj => absurd hj (by omega)⟩
  case round =>
    obtain ⟨k, n, hkg, rfl, rfl, hn, hB, HK⟩ := hrel
    have hws := hB.size
    by_cases hk : k < l.length
    · have hk' : (k : Int) < (l.length : Int) := by omega
      have hk0 : (0 : Int) ≤ (k : Int) := by omega
      obtain ⟨x, hx⟩ := getA hk
      have hxm := List.mem_of_getElem? hx
      obtain ⟨b1, o1, rfl, hlc, hb1, ia, ic, da, dc, hI, hD, p0, p1, p2, p3, p4⟩ := (hl.below hB).at hx
      have hil := HF.out.imps x hxm
      have hdl := HF.out.defs x hxm
      have htl : ∀ d ∈ x.defs, d.tree.length ≤ 2199023255552 := fun d hd => (HF.out.tree x hxm d hd).len
      by_cases hbg : 64 < x.imps.length + x.defs.length
      · have hbg' : (64 : Int) < (x.imps.length : Int) + (x.defs.length : Int) := by omega
        have HR : Aside (modN l = 17) := modN_big (by omega) (some_big hx (by unfold big; simpa using hbg))
        clear hx hl hI hD htl
        go_wp2_with fail
        go_ret
        rw [HR.out]
        exact ⟨rfl, hB.alloc hws _⟩
      · have hbg' : decide ((64 : Int) < (x.imps.length : Int) + (x.defs.length : Int)) = false := by simp; omega
        have HBG : Aside (∀ j y, j < k + 1 → l[j]? = some y → big y = false) := fun j y hj hy => by
          by_cases e : j = k
          · subst e; rw [hx] at hy; cases hy; unfold big; simpa using hbg
          · exact HK.out.2 j y (by omega) hy
        have hST : sumT x.defs ≤ 140737488355328 := by
          have h1 := sumT_le x.defs htl
          have h2 : x.defs.length * 2199023255552 ≤ 64 * 2199023255552 := Nat.mul_le_mul_right _ (by omega)
          omega
        have HN : Aside (n + sumT x.defs = sumM (l.take (k + 1))) := by show _ = _; rw [sumM_next hx, ← HK.out.1]
        have HLE : Aside (sumM (l.take (k + 1)) ≤ 1125899906842624) := by
          show _ ≤ _
          have h1 := sumM_le (l.take (k + 1)) (fun m hm => by
            obtain ⟨j, hj⟩ := List.getElem?_of_mem hm
            have hj' : j < k + 1 := by have := (List.getElem?_eq_some_iff.1 hj).1; simp at this; omega
            rw [List.getElem?_take, if_pos hj'] at hj
            exact HBG.out j m hj' hj) (fun m hm d hd => (HF.out.tree m (List.mem_of_mem_take hm) d hd).len)
          have h2 : (l.take (k + 1)).length ≤ 8 := by simp; omega
          have h3 : (l.take (k + 1)).length * 140737488355328 ≤ 8 * 140737488355328 := Nat.mul_le_mul_right _ h2
          omega
        have hB1 : ∀ o, Below w.heap.size w (wr.alloc o) := fun o => hB.alloc hws o
        have hD1 : ∀ o, IsDefs (wr.alloc o) (.slice da x.defs.length dc) x.defs := fun o => hD.below ((Below.refl _ _).alloc (Nat.le_refl _) o)
        clear HK hx hl hI
        go_upto_region 10 with fail
        have hBn := hB1 (.cells #[.string x.name, .slice ia x.imps.length ic, .slice da x.defs.length dc, .int .i64 x.ln, .int .i64 x.co] 50)
        have hDn := hD1 (.cells #[.string x.name, .slice ia x.imps.length ic, .slice da x.defs.length dc, .int .i64 x.ln, .int .i64 x.co] 50)
        clear hB1 hD1 hD hB hbg hbg' p0 p1 p2 p3 p4
        generalize wr.alloc (.cells #[.string x.name, .slice ia x.imps.length ic, .slice da x.defs.length dc, .int .i64 x.ln, .int .i64 x.co] 50) = w2 at *
        go_loopg [3, 31] x.defs.length (fun g z t w3 => ∃ j m : Nat, j + g = x.defs.length ∧ t = .int .i64 (j : Int) ∧ z = .int .i64 (m : Int) ∧ m ≤ n + 140737488355328 ∧ Below w2.heap.size w2 w3 ∧ Aside (m = n + sumT (x.defs.take j)))
        case atStart => exact ⟨0, n, by omega, rfl, rfl, by omega, Below.refl _ _, by show _ = _; simp [sumT]⟩
        case round =>
          obtain ⟨j, m, hjg, rfl, rfl, hm, hB3, HJ⟩ := hrel
          by_cases hj : j < x.defs.length
          · have hj' : (j : Int) < (x.defs.length : Int) := by omega
            have hj0 : (0 : Int) ≤ (j : Int) := by omega
            obtain ⟨y, hy⟩ := getA hj
            obtain ⟨b2, o2, rfl, hlc2, hb2, ta, tc, hnod, q0, q1, q2, q3, q4, q5⟩ := (hDn.below hB3).at hy
            have hyl := htl y (List.mem_of_getElem? hy)
            have HJ2 : Aside (m + y.tree.length = n + sumT (x.defs.take (j + 1))) := by show _ = _; rw [sumT_next hy, HJ.out]; omega
            have hm2 : m + y.tree.length ≤ n + 140737488355328 := by have h1 := sumT_mono x.defs (j + 1); have := HJ2.out; omega
            have hB4 : ∀ o, Below w2.heap.size w2 (wr.alloc o) := fun o => hB3.alloc hB3.size o
            clear hnod hy HJ hDn htl
            go_wp2_with fail
            go_roundg (x.defs.length - (j + 1))
            case measure => omega
            case rel => exact ⟨j + 1, m + y.tree.length, by omega, by go_num, by go_num, hm2, hB4 _, HJ2⟩
          · have hj' : ¬ (j : Int) < (x.defs.length : Int) := by omega
            have HE : Aside (m = sumM (l.take (k + 1))) := by show _ = _; rw [HJ.out, List.take_of_length_le (by omega), HN.out]
            have hm2 : m ≤ 1125899906842624 := by have := HE.out; have := HLE.out; omega
            clear HJ HN HLE
            go_wp2_with fail
            go_roundg (l.length - (k + 1))
            case measure => omega
            case rel => exact ⟨k + 1, m, by omega, by go_num, rfl, hm2, hBn.trans (hB3.mono hBn.size), HE.out, HBG.out⟩
    · have hk' : ¬ (k : Int) < (l.length : Int) := by omega
      have HNB : Aside (l.any big = false) := any_big fun j x hj hx => HK.out.2 j x (by omega) hx
      have HNN : Aside (n = sumM l) := by have := HK.out.1; rwa [List.take_of_length_le (by omega)] at this
      clear HK
      go_wp2_with fail
      go_loopg [44] l.length (fun g t w3 => ∃ j : Nat, j + g = l.length ∧ t = .int .i64 (j : Int) ∧ Below w.heap.size w w3 ∧ Aside (chkMs l = chkMs (l.drop j)))
      case atStart => exact ⟨0, by omega, rfl, hB, rfl⟩
      case round =>
        clear hB hws hkg hk hk'
        obtain ⟨j, hjg, rfl, hB, HJ⟩ := hrel
        have hws := hB.size
        by_cases hj : j < l.length
        · have hj' : (j : Int) < (l.length : Int) := by omega
          have hj0 : (0 : Int) ≤ (j : Int) := by omega
          obtain ⟨x, hx⟩ := getA hj
          have hxm := List.mem_of_getElem? hx
          obtain ⟨b1, o1, rfl, hlc, hb1, ia, ic, da, dc, hI, hD, p0, p1, p2, p3, p4⟩ := (hl.below hB).at hx
          have hB1 : ∀ o, Below wr.heap.size wr (wr.alloc o) := fun o => (Below.refl _ _).alloc (Nat.le_refl _) o
          have hcm := fun o => checkModule_any x (HF.out.imps x hxm) (HF.out.defs x hxm) (HF.out.name x hxm) (HF.out.istr x hxm) (HF.out.dstr x hxm) (HF.out.tree x hxm) ia da ic dc (wr.alloc o) (hI.below (hB1 o)) (hD.below (hB1 o))
          by_cases h0 : chkM x = 0
          · have HR : Aside (chkMs l = chkMs (l.drop (j + 1))) := by show _ = _; rw [HJ.out, chkMs_next hx h0]
            rw [h0] at hcm
            clear h0 HJ hx hl hI hD
            go_wp2_with (go_at_call 21; refine (hcm _).mono ?_; rintro e w4 ⟨rfl, hB4⟩)
            go_roundg (l.length - (j + 1))
            case measure => omega
            case rel => exact ⟨j + 1, by omega, by go_num, hB.trans (((hB1 _).trans (hB4.mono (by simp))).mono hws), HR⟩
          · have HR : Aside (modN l = chkM x) := by
              have h1 : chkMs l = chkM x := by rw [HJ.out, chkMs_bad hx h0]
              show _ = _
              rw [modN_bad (by omega) HNB.out (by rw [h1]; exact h0), h1]
            have h0' : ((chkM x : Int) != 0) = true := by simpa using h0
            clear h0 HJ hx hl hI hD
            go_wp2_with (go_at_call 21; refine (hcm _).mono ?_; rintro e w4 ⟨rfl, hB4⟩)
            go_ret
            rw [HR.out]
            exact ⟨rfl, hB.trans (((hB1 _).trans (hB4.mono (by simp))).mono hws)⟩
        · have hj' : ¬ (j : Int) < (l.length : Int) := by omega
          have HR : Aside (modN l = if 4096 < n then 17 else 0) := by
            show _ = _
            rw [modN_fin (by omega) HNB.out (by rw [HJ.out, List.drop_of_length_le (by omega)]; rfl), HNN.out]
          by_cases h4 : 4096 < n
          · have h4' : (4096 : Int) < (n : Int) := by omega
            go_wp2_with fail
            go_ret
            rw [HR.out, if_pos h4]
            exact ⟨rfl, hB⟩
          · have h4' : decide ((4096 : Int) < (n : Int)) = false := by simp; omega
            go_wp2_with fail
            go_ret
            rw [HR.out, if_neg h4]
            exact ⟨rfl, hB⟩
end Go.Proofs.YtkcehgpcimlamabGreatDoor
