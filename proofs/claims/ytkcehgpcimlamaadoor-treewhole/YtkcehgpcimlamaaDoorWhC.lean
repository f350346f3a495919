/- What the statement's own 'without' answers. -/
import Derived.Test.YtkcehgpcimlamaaDoorWhA
import Derived.Test.YtkcehgpcimlamaaDoorWhB
import Derived.Maps.AppendAt
namespace Go.Proofs.YtkcehgpcimlamaaDoor
open Go.RowKit
set_option maxRecDepth 100000
set_option linter.unusedSimpArgs false

theorem IsTexts.next {w w' : World} {v : Value} {l : List (List UInt8)} {r : Option Nat} (h : IsTexts w v l) (hg : w.grownBy w' r) (hne : Off v r) : IsTexts w' v l := by
  rcases h with h | ⟨b, o, c, rfl, h1, h2, h3⟩
  · exact .inl h
  · exact .inr ⟨b, o, c, rfl, h1, Nat.lt_of_lt_of_le h2 hg.size, fun j p hp => hg.cell (h3 j p hp) (hne b o _ _ rfl)⟩
theorem IsTexts.drewN {w : World} {v : Value} {l : List (List UInt8)} (h : IsTexts w v l) (n : Nat) : IsTexts (w.drewN n) v l := h
theorem mem_take {x : List UInt8} {l : List (List UInt8)} {k : Nat} {y : List UInt8} (h : l[k]? = some y) : x ∈ l.take (k + 1) ↔ x ∈ l.take k ∨ x = y := by
  rw [List.take_add_one, h]; simp
theorem dec_take {x : List UInt8} {l : List (List UInt8)} {k : Nat} {y : List UInt8} (h : l[k]? = some y) : decide (x ∈ l.take (k + 1)) = (decide (x ∈ l.take k) || decide (y = x)) := by
  rw [Bool.eq_iff_iff, decide_eq_true_eq, Bool.or_eq_true, decide_eq_true_eq, decide_eq_true_eq, mem_take h]
  exact or_congr Iff.rfl eq_comm
theorem dec_take2 {x : List UInt8} {ac l : List (List UInt8)} {k : Nat} {y : List UInt8} (h : l[k]? = some y) : decide (x ∈ ac ∨ x ∈ l.take (k + 1)) = (decide (x ∈ ac ∨ x ∈ l.take k) || decide (y = x)) := by
  rw [Bool.eq_iff_iff, decide_eq_true_eq, Bool.or_eq_true, decide_eq_true_eq, decide_eq_true_eq, mem_take h]
  exact or_assoc.symm.trans (or_congr Iff.rfl eq_comm)
theorem beq_S (p q : List UInt8) : ((S p).toList == (S q).toList) = decide (p = q) := by
  rw [beq_bytes, S_list, S_list, Bool.eq_iff_iff]; simp
/-- Where a list that grows lies: where it lay, or in a block that is new. -/
def Grew (N : Nat) (a b : Value) : Prop := b.ownBlock = a.ownBlock ∨ ∃ k, b.ownBlock = some k ∧ N ≤ k
theorem Grew.off {w : World} {a b v : Value} {l : List (List UInt8)} (h : Grew w.heap.size a b) (hv : IsTexts w v l) (ho : Off v a.ownBlock) (hl : l ≠ []) : Off v b.ownBlock := by
  intro g o n c e
  rcases h with h | ⟨k, h, hk⟩
  · rw [h]; exact ho g o n c e
  · rw [h]
    rcases hv with ⟨h0, _⟩ | ⟨b', o', c', e', _, hb, _⟩
    · exact absurd h0 hl
    · rw [e] at e'
      cases e'
      intro hh
      cases hh
      omega

set_option maxHeartbeats 8000000 in
theorem without_any (acc ms bd : List (List UInt8)) (base : Nat) (va vm vb : Value) (w : World) (hb0 : base ≤ w.heap.size) (ha : w.ownsRow base 9 1 va acc.length (tcells acc)) (hm : IsTexts w vm ms) (hb : IsTexts w vb bd)
    (ho1 : Off vm va.ownBlock) (ho2 : Off vb va.ownBlock) (hlen : acc.length + ms.length ≤ 100000) (hbl : bd.length ≤ 100000) :
    Calls Tryd.prog 30 #[va, vm, vb] w fun e w' => ∃ r, e = .returned r ∧ w'.ownsRow base 9 1 r (Tr.wo acc ms bd).length (tcells (Tr.wo acc ms bd)) ∧ w.grownBy w' va.ownBlock ∧ Grew w.heap.size va r := by
  obtain ⟨i0, hi, hz0, hz1, hz2⟩ := info_parts info9
  obtain ⟨am, cm, rfl⟩ := hm.form
  obtain ⟨ab, cb, rfl⟩ := hb.form
  go_enter Tryd.func30, Tryd.ntmps30
  go_wp2_with fail
  go_loopg [0, 7] ms.length (fun g v0 t wr => ∃ (i : Nat) (ac : List (List UInt8)), i + g = ms.length ∧ t = .int .i64 (i : Int) ∧ wr.ownsRow base 9 1 v0 ac.length (tcells ac) ∧ ac.length ≤ acc.length + i ∧ w.grownBy wr va.ownBlock ∧ Grew w.heap.size va v0 ∧ Aside (Tr.wo acc ms bd = Tr.wo ac (ms.drop i) bd))
  case atStart => exact ⟨0, acc, by omega, rfl, ha, by omega, grownBy_refl _ _, .inl rfl, rfl⟩
  case round =>
    obtain ⟨i, ac, hig, rfl, hown, hal, hg, hgr, HK⟩ := hrel
    obtain ⟨aa, ca, rfl⟩ := own_len hown
    by_cases hik : i < ms.length
    · have hik' : (i : Int) < (ms.length : Int) := by omega
      have hi0 : (0 : Int) ≤ (i : Int) := by omega
      obtain ⟨x, hx⟩ := getT hik
      have hmr := hm.next hg ho1
      have hbr := hb.next hg ho2
      obtain ⟨b1, o1, rfl, hc1, hl1, p0⟩ := hmr.at hx
      have HX : Aside (Tr.wo acc ms bd = Tr.wo (Tr.wo1 bd ac x) (ms.drop (i + 1)) bd) := by
        show _ = _
        obtain ⟨hh, rfl⟩ := List.getElem?_eq_some_iff.1 hx
        rw [HK.out, List.drop_eq_getElem_cons hh]; rfl
      have hal5 : ac.length ≤ 100000 := by omega
      clear HK
      go_wp2_with fail
      go_loopg [8, 9] ac.length (fun g f t w2 => ∃ k n : Nat, k + g = ac.length ∧ t = .int .i64 (k : Int) ∧ w2 = wr.drewN n ∧ ∃ q : Bool, f = .bool q ∧ Aside (q = decide (x ∈ ac.take k)))
      case atStart => exact ⟨0, 0, by omega, rfl, rfl, false, rfl, by show _ = _; simp⟩
      case round =>
        obtain ⟨k, n, hkg, rfl, rfl, q, rfl, HQ⟩ := hrel
        by_cases hk : k < ac.length
        · have hk' : (k : Int) < (ac.length : Int) := by omega
          have hk0 : (0 : Int) ≤ (k : Int) := by omega
          obtain ⟨y, hy⟩ := getT hk
          have HM : Aside (decide (x ∈ ac.take (k + 1)) = (decide (x ∈ ac.take k) || decide (y = x))) := by
            exact dec_take hy
          obtain ⟨gb, gc, hv, hgc, hgb, hcell⟩ := own_cells hown (by omega)
          cases hv
          have c0 : wr.cell? ⟨gb, k, none⟩ = some (.string (S y)) := by
            rw [hcell k (by omega)]; simp [tcells, hy]
          clear hcell hy
          cases q
          · have hs := beq_S y x
            generalize hr : decide (y = x) = r at hs HM
            go_wp2_with fail
            go_quiet (fail)
            go_wp2_with fail
            go_roundg (ac.length - (k + 1))
            case measure => omega
            case rel => exact ⟨k + 1, _, by omega, by go_num, by first | rfl | exact World.drewN_drewN, r, by first | rfl | (rw [hs]) | simp [hs], by show _ = _; rw [HM.out, ← HQ.out]; rfl⟩
          · go_wp2_with fail
            go_quiet (fail)
            go_wp2_with fail
            go_roundg (ac.length - (k + 1))
            case measure => omega
            case rel => exact ⟨k + 1, _, by omega, by go_num, by first | rfl | exact World.drewN_drewN, true, rfl, by show _ = _; rw [HM.out, ← HQ.out]; rfl⟩
        · have hk' : ¬ (k : Int) < (ac.length : Int) := by omega
          have HQ2 : Aside (q = decide (x ∈ ac)) := by show _ = _; rw [HQ.out, List.take_of_length_le (by omega)]
          clear HQ
          go_wp2_with fail
          go_loopg [8, 10] bd.length (fun g f t w2 => ∃ k n : Nat, k + g = bd.length ∧ t = .int .i64 (k : Int) ∧ w2 = wr.drewN n ∧ ∃ q : Bool, f = .bool q ∧ Aside (q = decide (x ∈ ac ∨ x ∈ bd.take k)))
          case atStart => exact ⟨0, n, by omega, rfl, rfl, q, rfl, by show _ = _; rw [HQ2.out]; simp⟩
          case round =>
            clear HQ2
            obtain ⟨k3, n3, hkg3, rfl, rfl, q3, rfl, HQ3⟩ := hrel
            by_cases hk3 : k3 < bd.length
            · have hk3' : (k3 : Int) < (bd.length : Int) := by omega
              have hk30 : (0 : Int) ≤ (k3 : Int) := by omega
              obtain ⟨y, hy⟩ := getT hk3
              have HM : Aside (decide (x ∈ ac ∨ x ∈ bd.take (k3 + 1)) = (decide (x ∈ ac ∨ x ∈ bd.take k3) || decide (y = x))) := by
                exact dec_take2 hy
              obtain ⟨b2, o2, rfl, hc2, hl2, q0⟩ := hbr.at hy
              clear hy
              cases q3
              · have hs := beq_S y x
                generalize hr : decide (y = x) = r at hs HM
                go_wp2_with fail
                go_quiet (fail)
                go_wp2_with fail
                go_roundg (bd.length - (k3 + 1))
                case measure => omega
                case rel => exact ⟨k3 + 1, _, by omega, by go_num, by first | rfl | exact World.drewN_drewN, r, by first | rfl | (rw [hs]) | simp [hs], by show _ = _; rw [HM.out, ← HQ3.out]; rfl⟩
              · go_wp2_with fail
                go_quiet (fail)
                go_wp2_with fail
                go_roundg (bd.length - (k3 + 1))
                case measure => omega
                case rel => exact ⟨k3 + 1, _, by omega, by go_num, by first | rfl | exact World.drewN_drewN, true, rfl, by show _ = _; rw [HM.out, ← HQ3.out]; rfl⟩
            · have hk3' : ¬ (k3 : Int) < (bd.length : Int) := by omega
              have HQ4 : Aside (q3 = decide (x ∈ ac ∨ x ∈ bd)) := by show _ = _; rw [HQ3.out, List.take_of_length_le (by omega)]
              clear HQ3
              cases q3
              · have HW : Aside (Tr.wo1 bd ac x = ac ++ [x]) := by
                  show _ = _; unfold Tr.wo1; rw [if_neg]; exact of_decide_eq_false HQ4.out.symm
                have hown2 : (wr.drewN n3).ownsRow base 9 1 (.slice aa ac.length ca) ac.length (tcells ac) := hown
                have hg2 : w.grownBy (wr.drewN n3) va.ownBlock := grownBy_drewN hg n3
                have hlr := hg.size
                have p1 : (wr.drewN n3).cell? ⟨b1, o1 + i, none⟩ = some (.string (S x)) := p0
                clear HQ4 hown hg hmr hbr
                generalize wr.drewN n3 = w3 at *
                have hlr3 := hg2.size
                go_wp2_with (at_builtin; go_must (refine wpList_append_own_at _ rfl _ _ 66 rfl base 9 i0 (.string ⟨#[]⟩) 1 16 tyTexts hi hz0 hz1 hz2 rfl (by decide) (.slice aa ac.length ca) _ _ rfl (hown2.alloc _) ⟨w3.heap.size, 0, none⟩ 1 1 [.string (S x)] rfl rfl (cells_list_new _ [.string (S x)] 9) (fun u hu => by simp at hu; subst hu; rfl) (by unfold maxLen; omega) (by omega) (by simp; omega) ?_); intro v5 w5 hown5 hg5 _ hloc5)
                go_roundg (ms.length - (i + 1))
                case measure => omega
                case rel =>
                  refine ⟨i + 1, ac ++ [x], by omega, by go_num, ?_, by simp; omega, ?_, ?_, by show _ = _; rw [HX.out, HW.out]⟩
                  · rw [tcells_append]; simpa [tcells] using hown5
                  · rcases hgr with h | ⟨k, h, hk⟩
                    · rw [← h]; exact grownBy_trans (by rw [h]; exact hg2) (grownBy_alloc_pre hg5)
                    · rw [h] at hg5
                      have hg6 := grownBy_alloc_pre hg5
                      exact ⟨hg6.os.trans hg2.os, hg6.tape.trans hg2.tape, hg6.output.trans hg2.output, Nat.le_trans hg2.size hg6.size, fun j hj hne => (hg6.block j (by omega) (by intro e; cases e; omega)).trans (hg2.block j hj hne)⟩
                  · rcases hloc5 with h | h
                    · rcases hgr with h' | ⟨k, h', hk⟩
                      · exact .inl (h.trans h')
                      · exact .inr ⟨k, h.trans h', hk⟩
                    · exact .inr ⟨_, h, by simp; omega⟩
              · have HW : Aside (Tr.wo1 bd ac x = ac) := by
                  show _ = _; unfold Tr.wo1; rw [if_pos]; exact of_decide_eq_true HQ4.out.symm
                have hown2 : (wr.drewN n3).ownsRow base 9 1 (.slice aa ac.length ca) ac.length (tcells ac) := hown
                have hg2 : w.grownBy (wr.drewN n3) va.ownBlock := grownBy_drewN hg n3
                clear HQ4 hmr hbr
                go_wp2_with fail
                go_roundg (ms.length - (i + 1))
                case measure => omega
                case rel => exact ⟨i + 1, ac, by omega, by go_num, hown2, by omega, hg2, hgr, by show _ = _; rw [HX.out, HW.out]⟩
    · have hik' : ¬ (i : Int) < (ms.length : Int) := by omega
      have HR : Aside (Tr.wo acc ms bd = ac) := by show _ = _; rw [HK.out, List.drop_eq_nil_of_le (by omega)]; rfl
      clear HK
      go_wp2_with fail
      go_ret
      rw [HR.out]
      exact ⟨_, rfl, hown, hg, hgr⟩
end Go.Proofs.YtkcehgpcimlamaaDoor
