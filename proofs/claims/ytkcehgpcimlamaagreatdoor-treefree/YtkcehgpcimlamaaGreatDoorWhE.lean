/- What the document's Binds answers; likeness of texts. -/
import Derived.Test.YtkcehgpcimlamaaGreatDoorRefB
import Derived.Test.YtkcehgpcimlamaaGreatDoorRefI
namespace Go.Proofs.YtkcehgpcimlamaaGreatDoor
open Go.RowKit
set_option maxRecDepth 100000
set_option linter.unusedSimpArgs false

theorem own_lit1 (w : World) (ls : List (List UInt8)) : IsTexts (w.alloc (.cells (tcells ls).toArray 9)) (.slice (some ⟨w.heap.size, 0, none⟩) ls.length ls.length) ls := IsTexts.pcs w ls

set_option maxHeartbeats 2000000 in
theorem refBinds_any (x : Tr.Nd) (hs : x.s.size ≤ maxLen) (hm : Tr.mayB x = true) (j : Nat) (w : World) :
    Calls Tryz.prog 55 #[Tr.agg x, .int .i64 (j : Int)] w fun e w' => ∃ a c, e = .returned (.slice a (Tr.binds x j).length c) ∧ IsTexts w' (.slice a (Tr.binds x j).length c) (Tr.binds x j) ∧ High (.slice a (Tr.binds x j).length c) w.heap.size ∧ Below w.heap.size w w' := by
  have hB1 : ∀ o : Obj, Below w.heap.size w (w.alloc o) := fun o => balloc (Below.refl _ _) _
  rw [val_node]
  by_cases h5 : x.kind = 5
  · have HN : Aside (Tr.binds x j = [Tr.nm x]) := by show _ = _; unfold Tr.binds; rw [h5]; rfl
    have fin : ∀ o : Obj, IsTexts ((w.alloc o).alloc (.cells #[.string x.s] 9)) (.slice (some ⟨w.heap.size + 1, 0, none⟩) 1 1) [Tr.nm x] := fun o => by have := IsTexts.pcs (w.alloc o) [Tr.nm x]; rw [show (w.alloc o).heap.size = w.heap.size + 1 by simp] at this; exact this
    rw [h5]
    clear hm h5
    go_enter Tryz.func55, Tryz.ntmps55
    go_wp2_with fail
    go_ret
    rw [HN.out]
    exact ⟨_, _, rfl, fin _, (fun b o n c h => by simp at h; omega), balloc (hB1 _) _⟩
  by_cases h6 : x.kind = 6
  · have ht := twoNames_any x.s hs
    have HN : Aside (Tr.binds x j = [(two x.s.data.toList).1, (two x.s.data.toList).2.1]) := by
      show _ = _
      have hn : (nameB (Tr.cut32 (Tr.nm x)).1 && nameB (Tr.cut32 (Tr.nm x)).2.1) = true := by
        have := Tr.mayB_s hm; unfold Tr.sB at this; rw [h6] at this; exact this
      have hc : (Tr.cut32 (Tr.nm x)).2.2 = true := by
        simp only [Bool.and_eq_true] at hn
        by_cases h1 : Lib.indexByte (Tr.nm x) 32 = -1
        · rw [Tr.cut32_none h1] at hn; simp [Tr.nameB_nil] at hn
        · obtain ⟨o, ho⟩ : ∃ o : Nat, Lib.indexByte (Tr.nm x) 32 = o := ⟨(Lib.indexByte (Tr.nm x) 32).toNat, by have := Lib.indexByte_ge (Tr.nm x) 32; omega⟩
          rw [(Tr.cut32_some ho).2]
      unfold two Tr.binds
      rw [h6]
      unfold Tr.nm at hc ⊢
      rw [if_neg (by decide), if_pos rfl, if_pos hc]
    generalize (two x.s.data.toList).1 = p at *
    generalize (two x.s.data.toList).2.1 = q at *
    generalize (two x.s.data.toList).2.2 = f at *
    have fin : ∀ W : World, IsTexts (W.alloc (.cells #[.string (S p), .string (S q)] 9)) (.slice (some ⟨W.heap.size, 0, none⟩) 2 2) [p, q] := fun W => IsTexts.pcs W [p, q]
    rw [h6]
    clear hm h6 h5
    go_enter Tryz.func55, Tryz.ntmps55
    go_wp2_with (go_at_call 68; refine (ht _).mono ?_; rintro e w2 ⟨rfl, hB2⟩)
    go_ret
    rw [HN.out]
    have hA := bt (hB1 _) hB2
    have hz := hA.size
    exact ⟨_, _, rfl, fin _, (fun b o n c h => by simp at h; omega), balloc hA _⟩
  have e5 : (x.kind == 5) = false := by simpa using h5
  have e6 : (x.kind == 6) = false := by simpa using h6
  by_cases h8 : x.kind = 8 ∧ j = 1
  · obtain ⟨h8, rfl⟩ := h8
    have HN : Aside (Tr.binds x 1 = [Tr.nm x]) := by show _ = _; unfold Tr.binds; rw [h8]; rfl
    have fin : ∀ o : Obj, IsTexts ((w.alloc o).alloc (.cells #[.string x.s] 9)) (.slice (some ⟨w.heap.size + 1, 0, none⟩) 1 1) [Tr.nm x] := fun o => by have := IsTexts.pcs (w.alloc o) [Tr.nm x]; rw [show (w.alloc o).heap.size = w.heap.size + 1 by simp] at this; exact this
    rw [h8]
    clear hm h5 h6 h8 e5 e6
    go_enter Tryz.func55, Tryz.ntmps55
    go_wp2_with fail
    go_ret
    rw [HN.out]
    exact ⟨_, _, rfl, fin _, (fun b o n c h => by simp at h; omega), balloc (hB1 _) _⟩
  · have HN : Aside (Tr.binds x j = []) := by show _ = _; unfold Tr.binds; rw [if_neg h5, if_neg h6, if_neg h8]
    by_cases k8 : x.kind = 8
    · have j1 : ((j : Int) == 1) = false := by simp; intro e; exact h8 ⟨k8, by omega⟩
      rw [k8]
      clear hm h5 h6 h8 e5 e6 k8
      go_enter Tryz.func55, Tryz.ntmps55
      go_wp2_with fail
      go_ret
      rw [HN.out]
      exact ⟨_, _, rfl, .inl ⟨rfl, _, _, rfl⟩, (fun b o n c h => by simp at h), hB1 _⟩
    · have e8 : (x.kind == 8) = false := by simpa using k8
      clear hm h5 h6 h8 k8
      go_enter Tryz.func55, Tryz.ntmps55
      go_wp2_with fail
      go_ret
      rw [HN.out]
      exact ⟨_, _, rfl, .inl ⟨rfl, _, _, rfl⟩, (fun b o n c h => by simp at h), hB1 _⟩

theorem getT {a : List (List UInt8)} {k : Nat} (h : k < a.length) : ∃ x, a[k]? = some x := ⟨a[k], List.getElem?_eq_getElem h⟩

set_option maxHeartbeats 4000000 in
theorem eqTexts_same (l : List (List UInt8)) (hlen : l.length ≤ 2199023255552) (va vb : Value) (w : World) (hla : IsTexts w va l) (hlb : IsTexts w vb l) :
    Calls Tryz.prog 9 #[va, vb] w fun e w' => e = .returned (.bool true) ∧ ∃ n, w' = w.drewN n := by
  obtain ⟨a, c, rfl⟩ := hla.form
  obtain ⟨a2, c2, rfl⟩ := hlb.form
  have hne : ((l.length : Int) != (l.length : Int)) = false := by simp
  go_enter Tryz.func9, Tryz.ntmps9
  go_wp2_with fail
  clear hne
  go_loopg [5] l.length (fun g t wr => ∃ k n : Nat, k + g = l.length ∧ t = .int .i64 (k : Int) ∧ wr = w.drewN n)
  case atStart => exact ⟨0, 0, by omega, rfl, rfl⟩
  case round =>
    obtain ⟨k, n, hkg, rfl, rfl⟩ := hrel
    by_cases hk : k < l.length
    · have hk' : (k : Int) < (l.length : Int) := by omega
      have hk0 : (0 : Int) ≤ (k : Int) := by omega
      obtain ⟨x, hx⟩ := getT hk
      obtain ⟨b1, o1, rfl, hc1, hl1, p0⟩ := hla.at hx
      obtain ⟨b2, o2, rfl, hc2, hl2, q0⟩ := hlb.at hx
      clear hx hla hlb
      go_wp2_with fail
      go_quiet (fail)
      go_wp2_with fail
      go_roundg (l.length - (k + 1))
      case measure => omega
      case rel => exact ⟨k + 1, _, by omega, by go_num, by first | rfl | exact World.drewN_drewN⟩
    · have hk' : ¬ (k : Int) < (l.length : Int) := by omega
      go_wp2_with fail
      go_ret
      exact ⟨rfl, n, rfl⟩
end Go.Proofs.YtkcehgpcimlamaaGreatDoor
