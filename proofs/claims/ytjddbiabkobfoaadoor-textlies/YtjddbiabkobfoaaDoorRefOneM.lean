/- What the document's One answers: a mark. -/
import Derived.Test.YtjddbiabkobfoaaDoorRefOneW
namespace Go.Proofs.YtjddbiabkobfoaaDoor
open Go.RowKit
set_option maxRecDepth 100000

theorem marks_len : ∀ l ∈ Tx.marks, l.length ≤ 2 := by decide
theorem marks_22 : Tx.marks.length = 22 := by decide
theorem find_drop {bs : List UInt8} {k i : Nat} (h : i < Tx.marks.length) : (Tx.marks.drop i).find? (Tx.markB bs k) = if Tx.markB bs k (Tx.marks[i]) = true then some (Tx.marks[i]) else (Tx.marks.drop (i + 1)).find? (Tx.markB bs k) := by
  rw [List.drop_eq_getElem_cons h, List.find?_cons]
  cases Tx.markB bs k (Tx.marks[i]) <;> rfl

/-- How the world lies in the loop over the marks. -/
structure OneM (w wr : World) (b off : Nat) (bs : List UInt8) (k : Nat) : Prop where
  below : Below w.heap.size w wr
  size : w.heap.size + 3 ≤ wr.heap.size
  r0 : wr.heap[w.heap.size]? = some (.cells #[.int .i8 0, .int .i64 0, .string ⟨#[]⟩, .int .i64 0, .int .i64 0, .int .i64 0, .int .i64 0] 44 (0, 0))
  r1 : wr.heap[w.heap.size + 1]? = some (.cells #[.int .i8 0, .int .i64 0, .string ⟨#[]⟩, .int .i64 0, .int .i64 0, .int .i64 k, .int .i64 0] 44 (0, 0))
  mks : ∀ i (h : i < Tx.marks.length), wr.cell? ⟨w.heap.size + 1 + 1, i, none⟩ = some (.string ⟨(Tx.marks[i]'h).toArray⟩)
  cl : Lies wr b off bs
theorem OneM.drew {w wr : World} {b off : Nat} {bs : List UInt8} {k : Nat} (h : OneM w wr b off bs k) (x : Nat) : OneM w (wr.drewN x) b off bs k where
  below := h.below.grown (grownBy_drewN (grownBy_refl _ none) _) (by have := h.size; omega) (fun _ e => by cases e)
  size := h.size
  r0 := h.r0
  r1 := h.r1
  mks := h.mks
  cl := h.cl

set_option maxHeartbeats 4000000 in
theorem one_mark (w : World) (b off cap : Nat) (bs : List UInt8) (hl : bs.length ≤ 65536) (hb : b < w.heap.size) (hcap : bs.length ≤ cap) (hc : Lies w b off bs) (k : Nat) (hk : k < bs.length)
    (h1 : Tx.letterB (Tx.B bs k) = false) (h2 : Tx.digitB (Tx.B bs k) = false) (h3 : (Tx.B bs k == 34) = false) :
    Calls Tryd.prog 19 #[.slice (some ⟨b, off, none⟩) bs.length cap, .int .i64 k] w fun e w' => OneEnd (Tx.one bs k) k e ∧ Below w.heap.size w w' := by
  have k0 : (0 : Int) ≤ (k : Int) := by omega
  have k1 : (k : Int) < (bs.length : Int) := by omega
  have hck := hc k hk
  have H : Aside (Tx.one bs k = Tx.oneMark bs k) := by show _ = _; unfold Tx.one; rw [h1, h2, h3]; rfl
  have HM : Aside (_) := Tx.mark_find hk
  have hcc : ∀ o1 o2, Lies (((w.alloc o1).alloc o2).alloc (.cells mcells 9)) b off bs := fun o1 o2 => ((hc.alloc o1).alloc o2).alloc _
  clear hc
  generalize Tx.B bs k = c at *
  go_enter Tryd.func19, Tryd.ntmps19
  go_wp2_with (first | (go_at_call 37; refine (letter_any _ _).mono ?_; rintro e w' ⟨rfl, hw'⟩; replace hw' := hw'.symm; subst hw') | (go_at_call 39; refine (digit_any _ _).mono ?_; rintro e w' ⟨rfl, hw'⟩; replace hw' := hw'.symm; subst hw'))
  refine (Marks_any _).mono ?_
  rintro e w1 ⟨rfl, hw1⟩
  have hB : Below w.heap.size w w1 := by rw [hw1]; exact (((Below.refl _ _).alloc (Nat.le_refl _) _).alloc (by simp) _).alloc (by simp; omega) _
  have hr0 := (congrArg (fun W : World => W.heap[w.heap.size]?) hw1).trans (((World.grownBy_alloc _ _ none).block _ (by simp; omega) (by simp)).trans (two_blocks w _ _).1)
  have hr1 := (congrArg (fun W : World => W.heap[w.heap.size + 1]?) hw1).trans (((World.grownBy_alloc _ _ none).block _ (by simp) (by simp)).trans (two_blocks w _ _).2)
  have hS : w.heap.size + 3 ≤ w1.heap.size := by rw [hw1]; simp
  have hcl : Lies w1 b off bs := by rw [hw1]; exact hcc _ _
  have hmk : ∀ i (h : i < Tx.marks.length), w1.cell? ⟨w.heap.size + 1 + 1, i, none⟩ = some (.string ⟨(Tx.marks[i]'h).toArray⟩) := by
    intro i h
    rw [hw1]
    have := scells_cell ((w.alloc (.cells #[.int .i8 0, .int .i64 0, .string ⟨#[]⟩, .int .i64 0, .int .i64 0, .int .i64 0, .int .i64 0] 44)).alloc (.cells #[.int .i8 0, .int .i64 0, .string ⟨#[]⟩, .int .i64 0, .int .i64 0, .int .i64 k, .int .i64 0] 44)) Tx.marks 9 i h
    rwa [show ((w.alloc (.cells #[.int .i8 0, .int .i64 0, .string ⟨#[]⟩, .int .i64 0, .int .i64 0, .int .i64 0, .int .i64 0] 44)).alloc (.cells #[.int .i8 0, .int .i64 0, .string ⟨#[]⟩, .int .i64 0, .int .i64 0, .int .i64 k, .int .i64 0] 44)).heap.size = w.heap.size + 1 + 1 by simp] at this
  clear hw1 hcc
  have hOM : OneM w w1 b off bs k := ⟨hB, hS, hr0, hr1, hmk, hcl⟩
  clear hB hS hr0 hr1 hmk hcl
  have h22 := marks_22
  have HF : Aside (Tx.one bs k = match Tx.marks.find? (Tx.markB bs k) with
    | some l => .ok (⟨5, 0, l⟩, k + l.length)
    | none => .error 11) := by show _ = _; rw [H.out]; exact HM.out
  clear H HM
  go_wp2_with fail
  go_loopg [15] 22 (fun g t wr => OneM w wr b off bs k ∧ ∃ i : Nat, i + g = 22 ∧ t = .int .i64 i ∧ Aside (Tx.marks.find? (Tx.markB bs k) = (Tx.marks.drop i).find? (Tx.markB bs k)))
  case atStart => exact ⟨hOM, 0, by omega, rfl, rfl⟩
  case round =>
    obtain ⟨hM, i, hig, rfl, HI⟩ := hrel
    clear hOM
    have hB := hM.below
    have hS := hM.size
    have hr0 := hM.r0
    have hr1 := hM.r1
    have hm := block_cells hr0
    have hn := block_cells hr1
    have m0 := hm.1 0
    have m1 := hm.1 1
    have m2 := hm.1 2
    have m3 := hm.1 3
    have m4 := hm.1 4
    have m5 := hm.1 5
    have m6 := hm.1 6
    have n0 := hn.1 0
    have n1 := hn.1 1
    have n2 := hn.1 2
    have n3 := hn.1 3
    have n4 := hn.1 4
    have n5 := hn.1 5
    have n6 := hn.1 6
    simp at m0 m1 m2 m3 m4 m5 m6 n0 n1 n2 n3 n4 n5 n6
    have mf := hm.2
    have nf := hn.2
    clear hm hn hr0 hr1
    by_cases hi : i < 22
    · have hi' : (i : Int) < 22 := by omega
      have hi0 : (0 : Int) ≤ (i : Int) := by omega
      have hci := hM.mks i (by omega)
      have HD : Aside (_) := find_drop (bs := bs) (k := k) (i := i) (by omega)
      have hll := marks_len (Tx.marks[i]'(by omega)) (List.getElem_mem _)
      generalize hle : Tx.marks[i]'(by omega) = l at *
      have hsz : (⟨l.toArray⟩ : ByteArray).size = l.length := rfl
      clear hle
      generalize hlb : (⟨l.toArray⟩ : ByteArray) = lb at *
      by_cases hfit : k + l.length ≤ bs.length
      · have hfit' : (k : Int) + (l.length : Int) ≤ (bs.length : Int) := by omega
        have hfc : (k : Int) + (l.length : Int) ≤ (cap : Int) := by omega
        have hkl : (k : Int) ≤ (k : Int) + (l.length : Int) := by omega
        have hwr : IntKind.i64.wrap ((k : Int) + (l.length : Int)) = (k : Int) + (l.length : Int) := IntWalk.i64_in _ (by omega)
        have hcv : ∀ x, (convert 22 9 (.slice (some ⟨b, off + k, none⟩) l.length (cap - k))).run Tryd.prog (wr.drewN x) = .ok (.string ⟨(Tx.sub bs k (k + l.length)).toArray⟩) (wr.drewN x) := fun x => by
          have := conv_sub (wr.drewN x) b off (cap - k) bs k (k + l.length) (by omega) hfit hM.cl
          rwa [show k + l.length - k = l.length by omega] at this
        have hbq : ((⟨(Tx.sub bs k (k + l.length)).toArray⟩ : ByteArray).toList == lb.toList) = (Tx.sub bs k (k + l.length) == l) := by rw [beq_bytes, ← hlb]
        have HB : Aside (Tx.markB bs k l = (Tx.sub bs k (k + l.length) == l)) := by show _ = _; unfold Tx.markB; simp [hfit]
        generalize (⟨(Tx.sub bs k (k + l.length)).toArray⟩ : ByteArray) = sb at *
        cases hq : (Tx.sub bs k (k + l.length) == l) with
        | true =>
          rw [hq] at hbq HB
          have HR : Aside (Tx.one bs k = .ok (⟨5, 0, l⟩, k + l.length)) := by show _ = _; rw [HF.out, HI.out, HD.out, if_pos HB.out]
          clear hq HF HI HD HB
          go_wp2_with fail
          go_quiet (fail)
          go_wp2_with fail
          refine bodyPost_ret (v := .tuple #[rtok 5 0 l k ((k + l.length : Nat) : Int), .int .i64 0]) (by simp [results, Tryd.results19, go_sem, rtok, m0, m1, m2, m3, m4, m5, m6]; exact hlb.symm) rfl ?_
          exact ⟨OneEnd.yes HR.out rfl, ((hM.drew _).below.grown (grownBy_set (grownBy_set (grownBy_set (grownBy_refl (wr.drewN _) _) _) _) _) (by have := (hM.drew 0).size; show _ ≤ wr.heap.size; omega) (fun x e => by cases e; omega)).grown (grownBy_set7 _ _ _ _ _ _ _ _ _) (by simp only [set_size]; show _ ≤ wr.heap.size; omega) (fun x e => by cases e; omega)⟩
        | false =>
          rw [hq] at hbq HB
          have HR : Aside (Tx.marks.find? (Tx.markB bs k) = (Tx.marks.drop (i + 1)).find? (Tx.markB bs k)) := by show _ = _; rw [HI.out, HD.out, if_neg (by rw [HB.out]; simp)]
          clear hq HF HI HD HB
          go_wp2_with fail
          go_quiet (fail)
          go_wp2_with fail
          go_roundg (gk - 1)
          case measure => omega
          case rel => exact ⟨hM.drew _, i + 1, by omega, by go_num, HR⟩
      · have hfit' : decide ((k : Int) + (l.length : Int) ≤ (bs.length : Int)) = false := by simp; omega
        have HB : Aside (Tx.markB bs k l = false) := by show _ = _; unfold Tx.markB; simp [hfit]
        have HR : Aside (Tx.marks.find? (Tx.markB bs k) = (Tx.marks.drop (i + 1)).find? (Tx.markB bs k)) := by show _ = _; rw [HI.out, HD.out, if_neg (by rw [HB.out]; simp)]
        have hwr : IntKind.i64.wrap ((k : Int) + (l.length : Int)) = (k : Int) + (l.length : Int) := IntWalk.i64_in _ (by omega)
        clear HF HI HD HB
        go_wp2_with fail
        go_quiet (fail)
        go_wp2_with fail
        go_roundg (gk - 1)
        case measure => omega
        case rel => exact ⟨hM.drew _, i + 1, by omega, by go_num, HR⟩
    · have hi' : decide ((i : Int) < 22) = false := by simp; omega
      have HR : Aside (Tx.one bs k = .error 11) := by show _ = _; rw [HF.out, HI.out, List.drop_eq_nil_of_le (by omega)]; rfl
      clear HF HI
      go_wp2_with fail
      refine bodyPost_ret (v := .tuple #[rtok 0 0 [] 0 0, .int .i64 11]) (by simp [results, Tryd.results19, go_sem, rtok, m0, m1, m2, m3, m4, m5, m6]) rfl ?_
      exact ⟨OneEnd.no HR.out rfl, hB.grown (grownBy_set7 _ _ _ _ _ _ _ _ _) (by omega) (fun x e => by cases e; omega)⟩

/-- What One answers. -/
theorem one_any (w : World) (b off cap : Nat) (bs : List UInt8) (hl : bs.length ≤ 65536) (hb : b < w.heap.size) (hcap : bs.length ≤ cap) (hc : Lies w b off bs) (k : Nat) (hk : k < bs.length) :
    Calls Tryd.prog 19 #[.slice (some ⟨b, off, none⟩) bs.length cap, .int .i64 k] w fun e w' => OneEnd (Tx.one bs k) k e ∧ Below w.heap.size w w' := by
  cases h1 : Tx.letterB (Tx.B bs k) with
  | true => exact one_word w b off cap bs hl hb hcap hc k hk h1
  | false =>
    cases h2 : Tx.digitB (Tx.B bs k) with
    | true => exact one_num w b off cap bs hl hb hcap hc k hk h1 h2
    | false =>
      cases h3 : (Tx.B bs k == 34) with
      | true => exact one_text w b off cap bs hl hb hc k hk h1 h2 h3
      | false => exact one_mark w b off cap bs hl hb hcap hc k hk h1 h2 h3
end Go.Proofs.YtjddbiabkobfoaaDoor
