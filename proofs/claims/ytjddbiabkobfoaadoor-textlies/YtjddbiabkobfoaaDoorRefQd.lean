/- What the document's quoted answers. -/
import Derived.Test.YtjddbiabkobfoaaDoorRefPlace
import Derived.Test.YtjddbiabkobfoaaDoorRefPlain
import Derived.Test.YtjddbiabkobfoaaDoorQuote
import Derived.OwnWalk
namespace Go.Proofs.YtjddbiabkobfoaaDoor
open Go.RowKit
set_option maxRecDepth 100000

/-- How quoted ends. -/
def QEnd (r : Option (List UInt8 × Nat)) (e : Ending) : Prop :=
  match r with
  | none => ∃ a b, e = .returned (.tuple #[.string a, .int .i64 b, .bool false])
  | some (s, j) => e = .returned (.tuple #[.string ⟨s.toArray⟩, .int .i64 j, .bool (decide (s.length ≤ 64))])
theorem QEnd.no {r : Option (List UInt8 × Nat)} {e : Ending} {a : ByteArray} {b : Int} (h : r = none) (he : e = .returned (.tuple #[.string a, .int .i64 b, .bool false])) : QEnd r e := by subst h; exact ⟨a, b, he⟩
theorem QEnd.yes {r : Option (List UInt8 × Nat)} {s : List UInt8} {j : Nat} {e : Ending} (h : r = some (s, j)) (he : e = .returned (.tuple #[.string ⟨s.toArray⟩, .int .i64 j, .bool (decide (s.length ≤ 64))])) : QEnd r e := by subst h; exact he

set_option maxHeartbeats 4000000 in
theorem quoted_any (w : World) (b off cap : Nat) (bs : List UInt8) (hl : bs.length ≤ 65536) (hb : b < w.heap.size) (hc : Lies w b off bs) (k : Nat) (hk : k < bs.length) :
    Calls Tryd.prog 41 #[.slice (some ⟨b, off, none⟩) bs.length cap, .int .i64 k] w fun e w' => QEnd (Tx.qd bs (bs.length + 1) (k + 1) []) e ∧ Below w.heap.size w w' := by
  obtain ⟨i0, hi, hz0, hz1, hz2⟩ := info_parts info5
  go_enter Tryd.func41, Tryd.ntmps41
  go_wp2_with fail
  go_loopg [7, 8] bs.length (fun g v t wr => ∃ (i : Nat) (acc : List UInt8), bs.length ≤ i + g ∧ i ≤ bs.length + 1 ∧ t = .int .i64 i ∧ acc.length ≤ i ∧ wr.ownsRow w.heap.size 5 1 v acc.length (bcells acc) ∧ Below w.heap.size w wr ∧ Aside (Tx.qd bs (bs.length + 1) (k + 1) [] = Tx.qd bs (g + 1) i acc))
  case atStart => exact ⟨k + 1, [], by omega, by omega, by go_num, by simp, World.ownsRow_nil _ _ _ _, Below.refl _ _, rfl⟩
  case round =>
    obtain ⟨i, acc, hig, hib, rfl, hacc, hown, hB, HQ⟩ := hrel
    obtain ⟨va, vc, rfl⟩ := own_len hown
    have hBs := hB.size
    have hi0 : (0 : Int) ≤ (i : Int) := by omega
    have hcv := conv_own wr w.heap.size _ acc hown
    by_cases hi1 : i < bs.length
    · have hi' : (i : Int) < (bs.length : Int) := by omega
      have hci := (hB.cell (p := ⟨b, off + i, none⟩) hb).trans (hc i hi1)
      have hbd := Tx.B_bd bs i
      cases h34 : (Tx.B bs i == 34) with
      | true =>
        have HN : Aside (Tx.qd bs (gk + 1) i acc = some (acc, i + 1)) := by
          show _ = _
          rw [Tx.qd, if_pos hi1, h34]; rfl
        have e34 : (Tx.B bs i != 34) = false := by simp at h34 ⊢; exact h34
        generalize Tx.B bs i = c at *
        go_wp2_with fail
        go_ret3
        exact ⟨QEnd.yes (HQ.out.trans HN.out) (by go_num), hB⟩
      | false =>
        have e34 : (Tx.B bs i != 34) = true := by simp at h34 ⊢; exact h34
        cases h92 : (Tx.B bs i == 92) with
        | true =>
          by_cases hi2 : i + 1 < bs.length
          · have hi2' : ((i : Int) + 1 == (bs.length : Int)) = false := by simp; omega
            have hi3' : (i : Int) + 1 < (bs.length : Int) := by omega
            have hci2 := (hB.cell (p := ⟨b, off + (i + 1), none⟩) hb).trans (hc (i + 1) hi2)
            have hbd2 := Tx.B_bd bs (i + 1)
            cases h110 : (Tx.B bs (i + 1) == 110) with
            | true =>
              have ht : Tx.txb bs i = (10, true, i + 2) := by unfold Tx.txb; rw [h92, if_pos rfl, if_pos hi2, h110]; rfl
              have e1 : (Tx.B bs (i + 1) != 34) = true := by simp at h110 ⊢; omega
              have e2 : (Tx.B bs (i + 1) != 92) = true := by simp at h110 ⊢; omega
              have e3 : (Tx.B bs (i + 1) != 110) = false := by simp at h110 ⊢; omega
              have HN : Aside (Tx.qd bs (gk + 1) i acc = Tx.qd bs gk (i + 2) (acc ++ [Tx.byteOf 10])) := by
                show _ = _
                rw [Tx.qd, if_pos hi1, h34]
                rw [ht]
                rfl
              clear ht
              generalize Tx.B bs (i + 1) = d at *
              generalize Tx.B bs i = c at *
              obtain ⟨g', rfl⟩ : ∃ g', gk = g' + 1 := ⟨gk - 1, by omega⟩
              go_wp2_with (at_builtin; go_must (refine wpList_append_own _ rfl _ _ 22 rfl w.heap.size 5 i0 (.int .u8 0) 1 1 ty22 hi hz0 hz1 hz2 rfl (by decide) (.slice va acc.length vc) _ _ rfl (hown.alloc _) ⟨wr.heap.size, 0, none⟩ 1 1 [.int .u8 10] rfl rfl (cells_list_new _ [.int .u8 10] 5) (fun u hu => by simp at hu; subst hu; rfl) (by unfold maxLen; omega) (by omega) (by simp; omega) ?_); intro v2 w2 hown2 hg2 _)
              go_roundg g'
              case measure => omega
              case rel =>
                refine ⟨(i + 2), acc ++ [Tx.byteOf 10], by omega, by omega, by go_num, by simp; omega, ?_, hB.grown (grownBy_alloc_pre hg2) hBs (fun x e => (hown.lt x e).1), ?_⟩
                · rw [bcells_append, List.length_append]
                  have e1 : bcells [Tx.byteOf 10] = [.int .u8 10] := by simp only [bcells, List.map_cons, List.map_nil]; rw [Tx.byteOf_toNat (by omega)]
                  rw [e1]
                  exact hown2
                · show _ = _
                  rw [HQ.out, HN.out]

            | false =>
              have e3 : (Tx.B bs (i + 1) != 110) = true := by simp at h110 ⊢; exact h110
              cases hd34 : (Tx.B bs (i + 1) == 34) with
              | true =>
                have ht : Tx.txb bs i = (34, true, i + 2) := by
                  have e : Tx.B bs (i + 1) = 34 := by simpa using hd34
                  unfold Tx.txb; rw [h92, if_pos rfl, if_pos hi2, h110, e]; rfl
                have e : Tx.B bs (i + 1) = 34 := by simpa using hd34
                rw [e] at hci2
                clear e hd34 e3 h110 hbd2
                have HN : Aside (Tx.qd bs (gk + 1) i acc = Tx.qd bs gk (i + 2) (acc ++ [Tx.byteOf 34])) := by
                  show _ = _
                  rw [Tx.qd, if_pos hi1, h34]
                  rw [ht]
                  rfl
                clear ht
                generalize Tx.B bs i = c at *
                obtain ⟨g', rfl⟩ : ∃ g', gk = g' + 1 := ⟨gk - 1, by omega⟩
                go_wp2_with (at_builtin; go_must (refine wpList_append_own _ rfl _ _ 22 rfl w.heap.size 5 i0 (.int .u8 0) 1 1 ty22 hi hz0 hz1 hz2 rfl (by decide) (.slice va acc.length vc) _ _ rfl (hown.alloc _) ⟨wr.heap.size, 0, none⟩ 1 1 [.int .u8 34] rfl rfl (cells_list_new _ [.int .u8 34] 5) (fun u hu => by simp at hu; subst hu; rfl) (by unfold maxLen; omega) (by omega) (by simp; omega) ?_); intro v2 w2 hown2 hg2 _)
                go_roundg g'
                case measure => omega
                case rel =>
                  refine ⟨(i + 2), acc ++ [Tx.byteOf 34], by omega, by omega, by go_num, by simp; omega, ?_, hB.grown (grownBy_alloc_pre hg2) hBs (fun x e => (hown.lt x e).1), ?_⟩
                  · rw [bcells_append, List.length_append]
                    have e1 : bcells [Tx.byteOf 34] = [.int .u8 34] := by simp only [bcells, List.map_cons, List.map_nil]; rw [Tx.byteOf_toNat (by omega)]
                    rw [e1]
                    exact hown2
                  · show _ = _
                    rw [HQ.out, HN.out]

              | false =>
                have f34 : (Tx.B bs (i + 1) != 34) = true := by simp at hd34 ⊢; exact hd34
                cases hd92 : (Tx.B bs (i + 1) == 92) with
                | true =>
                  have ht : Tx.txb bs i = (92, true, i + 2) := by
                    have e : Tx.B bs (i + 1) = 92 := by simpa using hd92
                    unfold Tx.txb; rw [h92, if_pos rfl, if_pos hi2, h110, e]; rfl
                  have e : Tx.B bs (i + 1) = 92 := by simpa using hd92
                  rw [e] at hci2
                  clear e hd34 e3 h110 hbd2 hd92 f34
                  have HN : Aside (Tx.qd bs (gk + 1) i acc = Tx.qd bs gk (i + 2) (acc ++ [Tx.byteOf 92])) := by
                    show _ = _
                    rw [Tx.qd, if_pos hi1, h34]
                    rw [ht]
                    rfl
                  clear ht
                  generalize Tx.B bs i = c at *
                  obtain ⟨g', rfl⟩ : ∃ g', gk = g' + 1 := ⟨gk - 1, by omega⟩
                  go_wp2_with (at_builtin; go_must (refine wpList_append_own _ rfl _ _ 22 rfl w.heap.size 5 i0 (.int .u8 0) 1 1 ty22 hi hz0 hz1 hz2 rfl (by decide) (.slice va acc.length vc) _ _ rfl (hown.alloc _) ⟨wr.heap.size, 0, none⟩ 1 1 [.int .u8 92] rfl rfl (cells_list_new _ [.int .u8 92] 5) (fun u hu => by simp at hu; subst hu; rfl) (by unfold maxLen; omega) (by omega) (by simp; omega) ?_); intro v2 w2 hown2 hg2 _)
                  go_roundg g'
                  case measure => omega
                  case rel =>
                    refine ⟨(i + 2), acc ++ [Tx.byteOf 92], by omega, by omega, by go_num, by simp; omega, ?_, hB.grown (grownBy_alloc_pre hg2) hBs (fun x e => (hown.lt x e).1), ?_⟩
                    · rw [bcells_append, List.length_append]
                      have e1 : bcells [Tx.byteOf 92] = [.int .u8 92] := by simp only [bcells, List.map_cons, List.map_nil]; rw [Tx.byteOf_toNat (by omega)]
                      rw [e1]
                      exact hown2
                    · show _ = _
                      rw [HQ.out, HN.out]

                | false =>
                  have f92 : (Tx.B bs (i + 1) != 92) = true := by simp at hd92 ⊢; exact hd92
                  have ht : Tx.txb bs i = (Tx.B bs (i + 1), false, i + 2) := by
                    unfold Tx.txb; rw [h92, if_pos rfl, if_pos hi2, h110, hd34, hd92]; rfl
                  have HN : Aside (Tx.qd bs (gk + 1) i acc = none) := by
                    show _ = _
                    rw [Tx.qd, if_pos hi1, h34]
                    rw [ht]
                    rfl
                  clear ht
                  generalize Tx.B bs (i + 1) = d at *
                  generalize Tx.B bs i = c at *
                  go_wp2_with fail
                  go_ret3
                  exact ⟨QEnd.no (HQ.out.trans HN.out) rfl, hB⟩

          · have hi2' : ((i : Int) + 1 == (bs.length : Int)) = true := by simp; omega
            have ht : Tx.txb bs i = (0, false, i + 1) := by unfold Tx.txb; rw [h92, if_pos rfl, if_neg hi2]
            have HN : Aside (Tx.qd bs (gk + 1) i acc = none) := by
              show _ = _
              rw [Tx.qd, if_pos hi1, h34]
              rw [ht]
              rfl
            clear ht
            generalize Tx.B bs i = c at *
            go_wp2_with fail
            go_ret3
            exact ⟨QEnd.no (HQ.out.trans HN.out) rfl, hB⟩

        | false =>
          cases hsn : Tx.seenB (Tx.B bs i) with
          | true =>
            have ht : Tx.txb bs i = (Tx.B bs i, true, i + 1) := by unfold Tx.txb; rw [h92, hsn]; rfl
            obtain ⟨s1, s2⟩ : 32 ≤ Tx.B bs i ∧ Tx.B bs i ≤ 126 := by unfold Tx.seenB at hsn; simpa using hsn
            have t1 : decide (Tx.B bs i < 32) = false := by simp; omega
            have t2 : decide (126 < Tx.B bs i) = false := by simp; omega
            clear hsn
            have HN : Aside (Tx.qd bs (gk + 1) i acc = Tx.qd bs gk (i + 1) (acc ++ [Tx.byteOf (Tx.B bs i)])) := by
              show _ = _
              rw [Tx.qd, if_pos hi1, h34]
              rw [ht]
              rfl
            clear ht
            generalize Tx.B bs i = c at *
            obtain ⟨g', rfl⟩ : ∃ g', gk = g' + 1 := ⟨gk - 1, by omega⟩
            go_wp2_with (at_builtin; go_must (refine wpList_append_own _ rfl _ _ 22 rfl w.heap.size 5 i0 (.int .u8 0) 1 1 ty22 hi hz0 hz1 hz2 rfl (by decide) (.slice va acc.length vc) _ _ rfl (hown.alloc _) ⟨wr.heap.size, 0, none⟩ 1 1 [.int .u8 c] rfl rfl (cells_list_new _ [.int .u8 c] 5) (fun u hu => by simp at hu; subst hu; rfl) (by unfold maxLen; omega) (by omega) (by simp; omega) ?_); intro v2 w2 hown2 hg2 _)
            go_roundg g'
            case measure => omega
            case rel =>
              refine ⟨(i + 1), acc ++ [Tx.byteOf c], by omega, by omega, by go_num, by simp; omega, ?_, hB.grown (grownBy_alloc_pre hg2) hBs (fun x e => (hown.lt x e).1), ?_⟩
              · rw [bcells_append, List.length_append]
                have e1 : bcells [Tx.byteOf c] = [.int .u8 c] := by simp only [bcells, List.map_cons, List.map_nil]; rw [Tx.byteOf_toNat (by omega)]
                rw [e1]
                exact hown2
              · show _ = _
                rw [HQ.out, HN.out]

          | false =>
            have ht : Tx.txb bs i = (Tx.B bs i, false, i + 1) := by unfold Tx.txb; rw [h92, hsn]; rfl
            by_cases t1 : Tx.B bs i < 32
            · skip
              have HN : Aside (Tx.qd bs (gk + 1) i acc = none) := by
                show _ = _
                rw [Tx.qd, if_pos hi1, h34]
                rw [ht]
                rfl
              clear ht
              generalize Tx.B bs i = c at *
              go_wp2_with fail
              go_ret3
              exact ⟨QEnd.no (HQ.out.trans HN.out) rfl, hB⟩

            · have t1' : decide (Tx.B bs i < 32) = false := by simp; omega
              have t2 : 126 < Tx.B bs i := by unfold Tx.seenB at hsn; simp at hsn; omega
              have HN : Aside (Tx.qd bs (gk + 1) i acc = none) := by
                show _ = _
                rw [Tx.qd, if_pos hi1, h34]
                rw [ht]
                rfl
              clear ht
              generalize Tx.B bs i = c at *
              go_wp2_with fail
              go_ret3
              exact ⟨QEnd.no (HQ.out.trans HN.out) rfl, hB⟩

    · have hi' : decide ((i : Int) < (bs.length : Int)) = false := by simp; omega
      have HN : Aside (Tx.qd bs (gk + 1) i acc = none) := by
        show _ = _
        rw [Tx.qd, if_neg hi1]
      go_wp2_with fail
      go_ret3
      exact ⟨QEnd.no (HQ.out.trans HN.out) rfl, hB⟩
end Go.Proofs.YtjddbiabkobfoaaDoor
