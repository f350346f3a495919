/- What the document's One answers: a word. -/
import Derived.Test.YtjddbiabkobfoaaDoorRefOneT
namespace Go.Proofs.YtjddbiabkobfoaaDoor
open Go.RowKit
set_option maxRecDepth 100000

set_option maxHeartbeats 4000000 in
theorem one_word (w : World) (b off cap : Nat) (bs : List UInt8) (hl : bs.length ≤ 65536) (hb : b < w.heap.size) (hcap : bs.length ≤ cap) (hc : Lies w b off bs) (k : Nat) (hk : k < bs.length)
    (h1 : Tx.letterB (Tx.B bs k) = true) :
    Calls Tryd.prog 19 #[.slice (some ⟨b, off, none⟩) bs.length cap, .int .i64 k] w fun e w' => OneEnd (Tx.one bs k) k e ∧ Below w.heap.size w w' := by
  have k0 : (0 : Int) ≤ (k : Int) := by omega
  have k1 : (k : Int) < (bs.length : Int) := by omega
  have hck := hc k hk
  have hrun := fun o1 o2 => run_any _ b off cap bs hl hcap ((hc.alloc o1).alloc o2) k hk
  have H : Aside (Tx.one bs k = Tx.oneWord bs k) := by show _ = _; unfold Tx.one; rw [h1]; rfl
  unfold Tx.oneWord at H
  have hj : k ≤ Tx.upTo Tx.innerB bs k := Tx.upTo_le _ _ _
  have hn := Tx.upTo_len Tx.innerB (Nat.le_of_lt hk)
  have hsl := Tx.sub_length (bs := bs) (i := k) (j := Tx.upTo Tx.innerB bs k) (by omega) hn
  generalize Tx.upTo Tx.innerB bs k = j at *
  generalize Tx.sub bs k j = s at *
  have hss : (⟨s.toArray⟩ : ByteArray).size = j - k := hsl
  have hwd := fun w => refIsWord_any ⟨s.toArray⟩ w
  have hwb : Tx.wordB (⟨s.toArray⟩ : ByteArray).data.toList = Tx.wordB s := rfl
  rw [hwb] at hwd
  clear hwb
  generalize hsb : (⟨s.toArray⟩ : ByteArray) = sb at *
  generalize Tx.B bs k = c at *
  have ejk : (k : Int) + ((j - k : Nat) : Int) = (j : Int) := by omega
  have HS : Aside (Tx.wordB s = true → s.length ≤ 32) := (fun h => Nat.le_trans (Tx.wordB_short h) (by decide))
  generalize hbb : Tx.wordB s = bb at *
  clear hc hbb
  go_enter Tryd.func19, Tryd.ntmps19
  go_wp2_with (first | (go_at_call 37; refine (letter_any _ _).mono ?_; rintro e w' ⟨rfl, hw'⟩; replace hw' := hw'.symm; subst hw') | (go_at_call 38; refine (hrun _ _).mono ?_; rintro e w' ⟨rfl, hw'⟩; replace hw' := hw'.symm; subst hw'))
  refine (hwd _).mono ?_
  rintro e w1 ⟨rfl, hB1⟩
  have hB : Below w.heap.size w w1 := (((Below.refl _ _).alloc (Nat.le_refl _) _).alloc (by simp) _).trans (hB1.mono (by simp; omega))
  have hS := hB1.size
  have hr0 := (hB1.block w.heap.size (by simp; omega)).trans (two_blocks w _ _).1
  have hr1 := (hB1.block (w.heap.size + 1) (by simp)).trans (two_blocks w _ _).2
  simp at hS
  clear hB1 hwd hrun
  have hm := block_cells hr0
  have hn := block_cells hr1
  have m0 := hm.1 0
  have m1 := hm.1 1
  have m2 := hm.1 2
  have m3 := hm.1 3
  have m4 := hm.1 4
  have m5 := hm.1 5
  have m6 := hm.1 6
  have n0 := hn.1 0
  have n1 := hn.1 1
  have n2 := hn.1 2
  have n3 := hn.1 3
  have n4 := hn.1 4
  have n5 := hn.1 5
  have n6 := hn.1 6
  simp at m0 m1 m2 m3 m4 m5 m6 n0 n1 n2 n3 n4 n5 n6
  have mf := hm.2
  have nf := hn.2
  clear hm hn hr0 hr1
  cases bb with
  | true =>
    have h32 : s.length ≤ 32 := HS.out rfl
    have h32' : ((j - k : Nat) : Int) ≤ 32 := by omega
    have HR : Aside (Tx.one bs k = .ok (⟨1, 0, s⟩, j)) := by show _ = _; rw [H.out]; rfl
    clear H HS
    go_wp2_with fail
    refine bodyPost_ret (v := .tuple #[rtok 1 0 s k j, .int .i64 0]) (by simp [results, Tryd.results19, go_sem, rtok, m0, m1, m2, m3, m4, m5, m6]; exact hsb.symm) rfl ?_
    exact ⟨OneEnd.yes HR.out rfl, (hB.grown (grownBy_set (grownBy_set (grownBy_refl w1 _) _) _) (by omega) (fun x e => by cases e; omega)).grown (grownBy_set7 _ _ _ _ _ _ _ _ _) (by simp only [set_size]; omega) (fun x e => by cases e; omega)⟩
  | false =>
    by_cases h32 : s.length ≤ 32
    · have h32' : ((j - k : Nat) : Int) ≤ 32 := by omega
      have HR : Aside (Tx.one bs k = .ok (⟨2, 0, s⟩, j)) := by show _ = _; rw [H.out, if_neg (by simp), if_neg (by omega)]
      clear H HS
      go_wp2_with fail
      refine bodyPost_ret (v := .tuple #[rtok 2 0 s k j, .int .i64 0]) (by simp [results, Tryd.results19, go_sem, rtok, m0, m1, m2, m3, m4, m5, m6]; exact hsb.symm) rfl ?_
      exact ⟨OneEnd.yes HR.out rfl, (hB.grown (grownBy_set (grownBy_refl w1 _) _) (by omega) (fun x e => by cases e; omega)).grown (grownBy_set7 _ _ _ _ _ _ _ _ _) (by simp only [set_size]; omega) (fun x e => by cases e; omega)⟩
    · have h32' : 32 < ((j - k : Nat) : Int) := by omega
      have HR : Aside (Tx.one bs k = .error 12) := by show _ = _; rw [H.out, if_neg (by simp), if_pos (by omega)]
      clear H HS
      go_wp2_with fail
      refine bodyPost_ret (v := .tuple #[rtok 0 0 [] 0 0, .int .i64 12]) (by simp [results, Tryd.results19, go_sem, rtok, m0, m1, m2, m3, m4, m5, m6]) rfl ?_
      exact ⟨OneEnd.no HR.out rfl, (hB.grown (grownBy_set (grownBy_refl w1 _) _) (by omega) (fun x e => by cases e; omega)).grown (grownBy_set7 _ _ _ _ _ _ _ _ _) (by simp only [set_size]; omega) (fun x e => by cases e; omega)⟩
end Go.Proofs.YtjddbiabkobfoaaDoor
