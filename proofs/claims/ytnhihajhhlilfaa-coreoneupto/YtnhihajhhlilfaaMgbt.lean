/- How deep a list is nested, as the statements tell it. -/
import Derived.Test.YtnhihajhhlilfaaMgag
import Derived.Test.YtnhihajhhlilfaaMgbs
namespace Go.Proofs.Ytnhihajhhlilfaa
open Go.RowKit Co
open Tr (T Nd flat flats high highs)
set_option maxRecDepth 100000
set_option linter.unusedSimpArgs false
set_option linter.unusedVariables false
namespace Co
def decI : List Int → List Int
  | [] => []
  | k :: r => (k - 1) :: r
def popN : Nat → List Int → List Int
  | 0, st => st
  | n + 1, [] => []
  | n + 1, k :: r => if k ≤ 0 then popN n (decI r) else k :: r
/-- What is done is popped; each pop counts one down. -/
def popI (st : List Int) : List Int := popN st.length st
theorem decI_len (st : List Int) : (decI st).length = st.length := by cases st <;> rfl
theorem popI_zero {k : Int} {r : List Int} (h : k ≤ 0) : popI (k :: r) = popI (decI r) := by
  unfold popI
  rw [List.length_cons, popN, if_pos h, decI_len]
theorem popI_pos {k : Int} {r : List Int} (h : ¬ k ≤ 0) : popI (k :: r) = k :: r := by
  unfold popI
  rw [List.length_cons, popN, if_neg h]
def run : List Nd → List Int → Nat → Nat
  | [], _, m => m
  | x :: l, st, m => run l (popI (x.kids :: st)) (max m (st.length + 1))
mutual
theorem run_T : ∀ (t : T) (st : List Int) (m : Nat) (rest : List Nd), wfC t → run (flat t ++ rest) st m = run rest (popI (decI st)) (max m (st.length + high t))
  | .nd x ks, st, m, rest, hw => by
    rw [wfC] at hw
    rw [flat, List.cons_append, run]
    by_cases h0 : ks = []
    · subst h0
      have hk : x.kids = 0 := by simpa using hw.2.1
      rw [hk, popI_zero (by omega), flats, List.nil_append, high, highs]
    · have hp := List.length_pos_iff.2 h0
      rw [hw.2.1, popI_pos (by omega), run_L ks st _ rest h0 hw.2.2, popI_zero (by omega), high]
      congr 1
      omega
theorem run_L : ∀ (ks : List T) (st : List Int) (m : Nat) (rest : List Nd), ks ≠ [] → wfsC ks → run (flats ks ++ rest) ((ks.length : Int) :: st) m = run rest (popI (0 :: st)) (max m (1 + st.length + highs ks))
  | [], st, m, rest, h, hw => absurd rfl h
  | t :: r, st, m, rest, h, hw => by
    rw [flats, List.append_assoc, run_T t _ _ _ hw.1]
    simp only [decI, List.length_cons]
    by_cases h0 : r = []
    · subst h0
      rw [flats, List.nil_append, highs, highs]
      simp only [List.length_nil]
      rw [show (((0 + 1 : Nat) : Int) - 1) = 0 by omega]
      congr 1
      omega
    · have hp := List.length_pos_iff.2 h0
      rw [show (((r.length + 1 : Nat) : Int) - 1) = (r.length : Int) by omega, popI_pos (by omega), run_L r st _ rest h0 hw.2]
      rw [show highs (t :: r) = max (high t) (highs r) from rfl]
      congr 1
      omega
end
theorem run_term {t : T} (hw : wfC t) : run (flat t) [] 0 = high t := by
  have := run_T t [] 0 [] hw
  simp only [List.append_nil] at this
  rw [this]
  simp [run]
/-- The counts are above 0. -/
def posI (st : List Int) : Prop := ∀ k ∈ st, 0 < k ∧ k ≤ 9223372036854775807
end Co
/-- The counts below the top are above 0. -/
def qI (st : List Int) : Prop := (∀ k ∈ st.tail, 0 < k ∧ k ≤ 9223372036854775807) ∧ ∀ k r, st = k :: r → k ≤ 9223372036854775807
theorem icells_own {w : World} {base n : Nat} {v : Value} {st : List Int} (h : w.ownsRow base 3 1 v n (st.reverse.map fun k => Value.int .i64 k)) : n = st.length := by
  have := h.1; simp at this; omega
theorem own_top {w : World} {base : Nat} {v : Value} {k : Int} {r : List Int} (h : w.ownsRow base 3 1 v (r.length + 1) ((k :: r).reverse.map fun k => Value.int .i64 k)) : ∃ g c, v = .slice (some ⟨g, 0, none⟩) (r.length + 1) c ∧ r.length + 1 ≤ c ∧ base ≤ g ∧ g < w.heap.size ∧ w.cell? ⟨g, r.length, none⟩ = some (.int .i64 k) ∧ (∀ q, w.frozen? ⟨g, q, none⟩ = false) ∧ w.ownsRow base 3 1 (.slice (some ⟨g, 0, none⟩) r.length c) r.length (r.reverse.map fun k => Value.int .i64 k) := by
  obtain ⟨h0, ⟨_, h⟩ | ⟨g, cap, cur, rfl, h1, h2, h3, h4, h5, h6⟩⟩ := h
  · omega
  · have hb := block_cells h2
    refine ⟨g, cap, rfl, h3, h1, (Array.getElem?_eq_some_iff.1 h2).1, ?_, hb.2, ⟨by simp, .inr ⟨g, cap, cur, rfl, h1, h2, by omega, h4, h5, ?_⟩⟩⟩
    · rw [hb.1]
      have := congrArg (fun l => l[r.length]?) h6
      simp only [List.getElem?_take, List.reverse_cons, List.map_append] at this
      rw [if_pos (by omega), List.getElem?_append_right (by simp)] at this
      simpa using this
    · have := congrArg (List.take r.length) h6
      rw [List.take_take, Nat.min_eq_left (by omega)] at this
      simp only [Nat.mul_one]
      rw [this]
      simp
theorem own_setTop {w : World} {base g c : Nat} {k k' : Int} {r : List Int} (h : w.ownsRow base 3 1 (.slice (some ⟨g, 0, none⟩) (r.length + 1) c) (r.length + 1) ((k :: r).reverse.map fun k => Value.int .i64 k)) : (w.setCell ⟨g, r.length, none⟩ (.int .i64 k')).ownsRow base 3 1 (.slice (some ⟨g, 0, none⟩) (r.length + 1) c) (r.length + 1) ((k' :: r).reverse.map fun k => Value.int .i64 k) := by
  obtain ⟨h0, ⟨h, _⟩ | ⟨g', cap, cur, h, h1, h2, h3, h4, h5, h6⟩⟩ := h
  · cases h
  · cases h
    obtain ⟨cur', e1, e2, e3, e4⟩ := set_facts h2 (k := r.length) (by omega) (.int .i64 k')
    refine ⟨by simp, .inr ⟨g, c, cur', rfl, h1, e1, h3, h4, by omega, ?_⟩⟩
    apply List.ext_getElem?
    intro j
    have hj := congrArg (fun l => l[j]?) h6
    simp only [List.getElem?_take, List.reverse_cons, List.map_append] at hj ⊢
    by_cases hjr : j < r.length
    · rw [if_pos (by omega), List.getElem?_append_left (by simp; omega)] at hj
      rw [if_pos (by omega), List.getElem?_append_left (by simp; omega), ← hj]
      have := e4 j (by omega)
      simpa using this
    · by_cases hje : j = r.length
      · subst hje
        rw [if_pos (by omega), List.getElem?_append_right (by simp)]
        simpa using e3
      · rw [if_neg (by omega)]
        rw [List.getElem?_eq_none (by simp; omega)]

set_option maxHeartbeats 4000000 in
theorem ldeep_any (l : List Tr.Nd) (hl : l.length ≤ 100000) (hf : FitC l) (v : Value) (w : World) (hv : IsNodes w v l) :
    Calls Try.prog 16 #[v] w fun e w' => e = .returned (.int .i64 (Co.run l [] 0 : Int)) ∧ Below w.heap.size w w' := by
  obtain ⟨i0, hi, hz0, hz1, hz2⟩ := info_parts info3
  obtain ⟨a, c, rfl⟩ := hv.form
  have HV : Aside (∀ w', Below w.heap.size w w' → IsNodes w' (.slice a l.length c) l) := fun w' hB => hv.below hB
  clear hv
  go_enter Try.func16, Try.ntmps16
  go_wp2_with fail
  go_loopg [3, 4, 5] l.length (fun g s t u wr => ∃ (k m : Nat) (st : List Int), k + g = l.length ∧ t = .int .i64 (m : Int) ∧ u = .int .i64 (k : Int) ∧ m ≤ k ∧ st.length ≤ k ∧ Aside (posI st) ∧ wr.ownsRow w.heap.size 3 1 s st.length (st.reverse.map fun k => Value.int .i64 k) ∧ Below w.heap.size w wr ∧ Aside (Co.run l [] 0 = Co.run (l.drop k) st m))
  case atStart => exact ⟨0, 0, [], by omega, rfl, rfl, by omega, by simp, fun k h => by simp at h, own_nil _ _ _ _, Below.refl _ _, rfl⟩
  case round =>
    obtain ⟨k, m, st, hkg, rfl, rfl, hmk, hstk, HP, hown, hB, HR⟩ := hrel
    have hk0 : (0 : Int) ≤ (k : Int) := by omega
    have hBz := hB.size
    by_cases hk : k < l.length
    · have hk' : (k : Int) < (l.length : Int) := by omega
      obtain ⟨x, hx⟩ : ∃ x, l[k]? = some x := ⟨_, List.getElem?_eq_getElem hk⟩
      obtain ⟨b, o, rfl, hlc, hb, hcx⟩ := (HV.out wr hB).at hx
      have p1 : wr.cell? ⟨b, o + k * 8 + 1, none⟩ = some (.int .i64 x.kids) := hcx 1 _ rfl
      have hxk := hf.kids x (List.mem_of_getElem? hx)
      have HR2 : Aside (Co.run l [] 0 = Co.run (l.drop (k + 1)) (popI (x.kids :: st)) (max m (st.length + 1))) := by
        show _ = _
        rw [HR.out, List.drop_eq_getElem_cons hk, (List.getElem?_eq_some_iff.1 hx).2]
        rfl
      obtain ⟨sa, sc, rfl⟩ := own_len hown
      clear hcx HR hx
      have hownA : ∀ ob, (wr.alloc ob).ownsRow w.heap.size 3 1 (.slice sa st.length sc) st.length (st.reverse.map fun k => Value.int .i64 k) := fun ob => hown.alloc _
      have hnews := cells_list_new wr [.int .i64 x.kids] 3
      go_upto_region 7 with (at_builtin; go_must (refine wpList_append_own _ rfl _ _ 62 rfl w.heap.size 3 i0 _ 1 8 tyInts hi hz0 hz1 hz2 rfl (by decide) (.slice sa st.length sc) _ _ rfl (hownA _) ⟨wr.heap.size, 0, none⟩ 1 1 [.int .i64 x.kids] rfl rfl hnews (by intro u hu; simp at hu; subst hu; rfl) (by unfold maxLen; omega) (by omega) (by simp; omega) ?_); intro v3 w3 hown3 hg3 _)
      have hown4 : w3.ownsRow w.heap.size 3 1 v3 (st.length + 1) ((x.kids :: st).reverse.map fun k => Value.int .i64 k) := by simpa using hown3
      have hB3 : Below w.heap.size w w3 := (balloc hB _).grown hg3 (by simp; omega) (fun q e => by
        obtain ⟨_, ⟨h, _⟩ | ⟨g, cap, cu, h, hge, _⟩⟩ := hown
        · rw [h] at e; cases e
        · rw [h] at e; cases e; exact hge)
      obtain ⟨ga, gc, rfl⟩ := own_len hown4
      clear hown hownA hnews hown3 hg3 p1
      have hm1 : ((max m (st.length + 1) : Nat) : Int) = max (m : Int) ((st.length : Int) + 1) := by omega
      have HP0 : Aside (qI (x.kids :: st)) := ⟨fun k hk => HP.out k hk, fun k r e => by cases e; exact hxk⟩
      clear HP hm1
      go_wp2_with fail
      go_loopg [3] (st.length + 1) (fun g s wv => ∃ st' : List Int, Aside (st'.length = g) ∧ st'.length ≤ st.length + 1 ∧ Aside (popI st' = popI (x.kids :: st)) ∧ Aside (qI st') ∧ wv.ownsRow w.heap.size 3 1 s st'.length (st'.reverse.map fun k => Value.int .i64 k) ∧ Below w.heap.size w wv)
      case atStart => exact ⟨x.kids :: st, (by show _ = _; simp), by simp, rfl, HP0, hown4, hB3⟩
      case round =>
        clear hown4 hB3 HP0
        obtain ⟨st', HG, hg', HPP, HQ, hown5, hB5⟩ := hrel
        have hB5z := hB5.size
        match st', HG, hg', HPP, HQ, hown5 with
        | [], HG, hg', HPP, HQ, hown5 =>
          obtain ⟨s5, c5, rfl⟩ := own_len hown5
          have HE : Aside (popI (x.kids :: st) = []) := by show _ = _; rw [← HPP.out]; rfl
          clear HPP HQ HV
          simp only [List.length_nil] at hown5 ⊢
          go_wp2_with fail
          go_roundg (l.length - (k + 1))
          case measure => omega
          case rel =>
            refine ⟨k + 1, max m (st.length + 1), [], by omega, by show Value.int _ _ = Value.int _ _; congr 1; omega, by go_num, by omega, by simp, fun k h => by simp at h, hown5, hB5, ?_⟩
            show _ = _
            rw [HR2.out, HE.out]
        | k1 :: r, HG, hg', HPP, HQ, hown5 =>
          obtain ⟨g5, c5, rfl, hc5, hg5, hl5, hcell, hfz, hownr⟩ := own_top hown5
          have hrk : r.length ≤ st.length := by simp at hg'; omega
          by_cases h0 : k1 ≤ 0
          · have HPP2 : Aside (popI (decI r) = popI (x.kids :: st)) := by show _ = _; rw [← HPP.out, popI_zero h0]
            have hr0 : (0 : Int) < (r.length : Int) + 1 := by omega
            have hrc : (r.length : Int) ≤ (c5 : Int) := by omega
            have hrn : (0 : Int) ≤ (r.length : Int) := by omega
            have hlt : (r.length : Int) < (r.length : Int) + 1 := by omega
            match r, HG, hg', HPP, HQ, hown5, hc5, hcell, hownr, HPP2, hr0, hrc, hrn, hlt, hrk with
            | [], HG, hg', HPP, HQ, hown5, hc5, hcell, hownr, HPP2, hr0, hrc, hrn, hlt, hrk =>
              clear HPP HQ hown5
              simp only [List.length_nil] at *
              go_wp2_with fail
              go_roundg 0
              case measure => have := HG.out; (try simp at this); omega
              case rel => exact ⟨[], rfl, by simp, HPP2, ⟨fun k h => by simp at h, fun k r h => by cases h⟩, hownr, hB5⟩
            | k2 :: r2, HG, hg', HPP, HQ, hown5, hc5, hcell, hownr, HPP2, hr0, hrc, hrn, hlt, hrk =>
              obtain ⟨g6, c6, he6, hc6, -, -, hcell2, -, -⟩ := own_top hownr
              cases he6
              obtain ⟨q1, q2⟩ := HQ.out
              have hk2 := q1 k2 (by simp)
              have hset := own_setTop (k' := k2 - 1) hownr
              have HSET : Aside _ := hset
              have HQ2 : Aside (qI ((k2 - 1) :: r2)) := ⟨fun k hk => q1 k (by simp at hk ⊢; exact .inr hk), fun k r e => by cases e; omega⟩
              have hr2 : (0 : Int) < (r2.length : Int) + 1 := by omega
              have hr3 : (0 : Int) ≤ (r2.length : Int) := by omega
              have hr4 : (r2.length : Int) < (r2.length : Int) + 1 := by omega
              have hk3 : 0 < k2 := hk2.1
              have hk4 : k2 ≤ 9223372036854775807 := hk2.2
              have HBS : Aside (∀ u, Below w.heap.size w (wr.setCell ⟨g5, r2.length, none⟩ u)) := fun u => hB5.setCell (by simpa using hg5) _
              clear HPP HQ hown5 hset hownr q1 q2 hk2
              simp only [List.length_cons] at *
              go_wp2_with fail
              go_roundg (r2.length + 1)
              case measure => have := HG.out; (try simp at this); omega
              case rel => exact ⟨(k2 - 1) :: r2, (by show _ = _; simp), by simp; omega, HPP2, HQ2, HSET.out, HBS.out _⟩
          · have HE : Aside (popI (x.kids :: st) = k1 :: r) := by show _ = _; rw [← HPP.out, popI_pos h0]
            have HPO : Aside (posI (k1 :: r)) := fun k hk => by
              rcases List.mem_cons.1 hk with rfl | hk
              · exact ⟨by omega, HQ.out.2 k r rfl⟩
              · exact HQ.out.1 k hk
            have hr0 : (0 : Int) < (r.length : Int) + 1 := by omega
            have hrn : (0 : Int) ≤ (r.length : Int) := by omega
            have hlt : (r.length : Int) < (r.length : Int) + 1 := by omega
            clear HPP HQ HV hownr
            simp only [List.length_cons] at hown5 hg' ⊢
            go_wp2_with fail
            go_roundg (l.length - (k + 1))
            case measure => omega
            case rel =>
              refine ⟨k + 1, max m (st.length + 1), k1 :: r, by omega, by show Value.int _ _ = Value.int _ _; congr 1; omega, by go_num, by omega, by simp; omega, HPO, hown5, hB5, ?_⟩
              show _ = _
              rw [HR2.out, HE.out]
    · have hk' : ¬ (k : Int) < (l.length : Int) := by omega
      have hfin : Co.run l [] 0 = m := by rw [HR.out, List.drop_eq_nil_of_le (by omega)]; rfl
      have HFI : Aside _ := hfin
      clear HR HP HV hown hfin
      go_wp2_with fail
      go_ret
      rw [HFI.out]
      exact ⟨rfl, hB⟩
end Go.Proofs.Ytnhihajhhlilfaa
