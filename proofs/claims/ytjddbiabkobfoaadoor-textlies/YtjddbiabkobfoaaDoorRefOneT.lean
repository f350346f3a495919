/- What the document's One answers: a text. -/
import Derived.Test.YtjddbiabkobfoaaDoorRefOneN
namespace Go.Proofs.YtjddbiabkobfoaaDoor
open Go.RowKit
set_option maxRecDepth 100000

theorem two_blocks (w : World) (o1 o2 : Obj) : ((w.alloc o1).alloc o2).heap[w.heap.size]? = some o1 ∧ ((w.alloc o1).alloc o2).heap[w.heap.size + 1]? = some o2 := by
  refine ⟨((World.grownBy_alloc _ _ none).block _ (by simp) (by simp)).trans (heap_alloc_new _ _), ?_⟩
  have h := heap_alloc_new (w.alloc o1) o2
  rwa [show (w.alloc o1).heap.size = w.heap.size + 1 by simp] at h
theorem grownBy_set7 (w : World) (g : Nat) (v0 v1 v2 v3 v4 v5 v6 : Value) :
    w.grownBy (((((((w.setCell ⟨g, 0, none⟩ v0).setCell ⟨g, 1, none⟩ v1).setCell ⟨g, 2, none⟩ v2).setCell ⟨g, 3, none⟩ v3).setCell ⟨g, 4, none⟩ v4).setCell ⟨g, 5, none⟩ v5).setCell ⟨g, 6, none⟩ v6) (some g) :=
  grownBy_set (grownBy_set (grownBy_set (grownBy_set (grownBy_set (grownBy_set (grownBy_set (grownBy_refl w _) _) _) _) _) _) _) _
theorem set_size (W : World) (p : Addr) (v : Value) : (W.setCell p v).heap.size = W.heap.size := by simp [World.setCell]

set_option maxHeartbeats 4000000 in
theorem one_text (w : World) (b off cap : Nat) (bs : List UInt8) (hl : bs.length ≤ 65536) (hb : b < w.heap.size) (hc : Lies w b off bs) (k : Nat) (hk : k < bs.length)
    (h1 : Tx.letterB (Tx.B bs k) = false) (h2 : Tx.digitB (Tx.B bs k) = false) (h3 : (Tx.B bs k == 34) = true) :
    Calls Tryd.prog 19 #[.slice (some ⟨b, off, none⟩) bs.length cap, .int .i64 k] w fun e w' => OneEnd (Tx.one bs k) k e ∧ Below w.heap.size w w' := by
  have k0 : (0 : Int) ≤ (k : Int) := by omega
  have k1 : (k : Int) < (bs.length : Int) := by omega
  have hck := hc k hk
  have hq := fun o1 o2 => quoted_any ((w.alloc o1).alloc o2) b off cap bs hl (by simp; omega) ((hc.alloc o1).alloc o2) k hk
  have H : Aside (Tx.one bs k = Tx.oneText bs k) := by show _ = _; unfold Tx.one; rw [h1, h2, h3]; rfl
  have HT : Aside (Tx.textAt bs k = Tx.cut64 (Tx.qd bs (bs.length + 1) (k + 1) [])) := Tx.txt_qd bs _ _ _ (by simp)
  generalize Tx.qd bs (bs.length + 1) (k + 1) [] = r at *
  have e3 : (Tx.B bs k == 34) = true := h3
  generalize Tx.B bs k = c at *
  clear hc
  go_enter Tryd.func19, Tryd.ntmps19
  go_wp2_with (first | (go_at_call 37; refine (letter_any _ _).mono ?_; rintro e w' ⟨rfl, hw'⟩; replace hw' := hw'.symm; subst hw') | (go_at_call 39; refine (digit_any _ _).mono ?_; rintro e w' ⟨rfl, hw'⟩; replace hw' := hw'.symm; subst hw'))
  refine (hq _ _).mono ?_
  rintro e w1 ⟨he, hB1⟩
  have hB : Below w.heap.size w w1 := (((Below.refl _ _).alloc (Nat.le_refl _) _).alloc (by simp) _).trans (hB1.mono (by simp; omega))
  have hS := hB1.size
  have hr0 := (hB1.block w.heap.size (by simp; omega)).trans (two_blocks w _ _).1
  have hr1 := (hB1.block (w.heap.size + 1) (by simp)).trans (two_blocks w _ _).2
  simp at hS
  clear hB1 hq
  have hm := block_cells hr0
  have hn := block_cells hr1
  have m0 := hm.1 0
  have m1 := hm.1 1
  have m2 := hm.1 2
  have m3 := hm.1 3
  have m4 := hm.1 4
  have m5 := hm.1 5
  have m6 := hm.1 6
  have n0 := hn.1 0
  have n1 := hn.1 1
  have n2 := hn.1 2
  have n3 := hn.1 3
  have n4 := hn.1 4
  have n5 := hn.1 5
  have n6 := hn.1 6
  simp at m0 m1 m2 m3 m4 m5 m6 n0 n1 n2 n3 n4 n5 n6
  have mf := hm.2
  have nf := hn.2
  clear hm hn hr0 hr1
  cases r with
  | none =>
    obtain ⟨qa, qb, rfl⟩ := he
    have HR : Aside (Tx.one bs k = .error 14) := by show _ = _; rw [H.out]; exact Tx.oneText_none HT.out
    clear H HT
    go_wp2_with fail
    refine bodyPost_ret (v := .tuple #[rtok 0 0 [] 0 0, .int .i64 14]) (by simp [results, Tryd.results19, go_sem, rtok, m0, m1, m2, m3, m4, m5, m6]) rfl ?_
    exact ⟨OneEnd.no HR.out rfl, hB.grown (grownBy_set7 _ _ _ _ _ _ _ _ _) (by omega) (fun x e => by cases e; omega)⟩
  | some p =>
    obtain ⟨s, j⟩ := p
    have he' : e = .returned (.tuple #[.string ⟨s.toArray⟩, .int .i64 j, .bool (decide (s.length ≤ 64))]) := he
    clear he
    subst he'
    by_cases h64 : s.length ≤ 64
    · have HR : Aside (Tx.one bs k = .ok (⟨4, 0, s⟩, j)) := by show _ = _; rw [H.out]; exact Tx.oneText_some (HT.out.trans (by unfold Tx.cut64; simp [h64]))
      clear H HT
      have hd : decide (s.length ≤ 64) = true := by simp [h64]
      rw [hd]
      go_wp2_with fail
      refine bodyPost_ret (v := .tuple #[rtok 4 0 s k j, .int .i64 0]) (by simp [results, Tryd.results19, go_sem, rtok, m0, m1, m2, m3, m4, m5, m6]) rfl ?_
      exact ⟨OneEnd.yes HR.out rfl, (hB.grown (grownBy_set (grownBy_set (grownBy_set (grownBy_refl w1 _) _) _) _) (by omega) (fun x e => by cases e; omega)).grown (grownBy_set7 _ _ _ _ _ _ _ _ _) (by simp only [set_size]; omega) (fun x e => by cases e; omega)⟩
    · have HR : Aside (Tx.one bs k = .error 14) := by show _ = _; rw [H.out]; exact Tx.oneText_none (HT.out.trans (by unfold Tx.cut64; simp [h64]))
      clear H HT
      have hd : decide (s.length ≤ 64) = false := by simp; omega
      rw [hd]
      go_wp2_with fail
      refine bodyPost_ret (v := .tuple #[rtok 0 0 [] 0 0, .int .i64 14]) (by simp [results, Tryd.results19, go_sem, rtok, m0, m1, m2, m3, m4, m5, m6]) rfl ?_
      exact ⟨OneEnd.no HR.out rfl, hB.grown (grownBy_set7 _ _ _ _ _ _ _ _ _) (by omega) (fun x e => by cases e; omega)⟩
end Go.Proofs.YtjddbiabkobfoaaDoor
