/- How long a tree's text may be; that a list which Check takes is a tree. What the pen's put writes; annotations, leaves, ranks, words, operators. Annotations, leaves, ranks, operators, words. Pieces with kids between, lists, functions: what is written where the kids are written as they must be. Lists, marks between, prefixes, operators, functions. Prefixes, operators, functions: what is written where the kids are written as they must be. A node of the pen: what all kinds need. -/
import Derived.Test.YtpikfdkgblghhaaGreatDoorXao
import Derived.Test.YtpikfdkgblghhaaGreatDoorXas
import Derived.Test.YtpikfdkgblghhaaGreatDoorXal
import Derived.Test.YtpikfdkgblghhaaGreatDoorXap
import Derived.Test.YtpikfdkgblghhaaGreatDoorXaj
import Derived.Lib.LaidTab
import Derived.Test.YtpikfdkgblghhaaGreatDoorXak
import Derived.Lib.AppendIntMem
import Derived.Deep.RegionWith
import Derived.Deep.RegionHeld3
namespace Go.Proofs.YtpikfdkgblghhaaGreatDoor
open Go.RowKit
set_option maxRecDepth 100000
set_option linter.unusedSimpArgs false
set_option linter.unusedVariables false
/-- A list that Check takes is a tree. -/
theorem Pn.beh_same : ∀ (l : List UInt8) (m : Nat), T3.Tp.beh l m = Tp.beh l m
  | [], 0 => rfl
  | [], _ + 1 => rfl
  | _ :: _, 0 => rfl
  | c :: r, m + 1 => by
    simp only [T3.Tp.beh, Tp.beh]
    rw [Pn.beh_same r]
    rfl
theorem Pn.chk_same (l : List UInt8) : T3.Tp.chk l = Tp.chk l := by
  unfold T3.Tp.chk Tp.chk
  rw [beh_same]
namespace Pn
theorem typ_enc {l : List UInt8} (h : typB l = true) : ∃ t, l = T3.Tp.enc t ∧ (T3.Tp.enc t).length ≤ 64 := by
  unfold typB at h
  rw [← Pn.chk_same] at h
  exact T3.Tp.chk_dec (by simpa using h)
theorem note_len {l : List UInt8} (h : noteB l = true) : (note l).length ≤ 643 := by
  unfold noteB at h
  by_cases h0 : l = []
  · subst h0; simp [note_nil]
  · have ht : typB l = true := by
      cases l with
      | nil => exact absurd rfl h0
      | cons a r => simpa using h
    obtain ⟨t, rfl, hl⟩ := typ_enc ht
    have := T3.Tp.wd_len t
    rw [note_enc]
    simp
    omega
theorem quo_len (bs : List UInt8) : ∀ (f k : Nat) (acc q : List UInt8), Tx.quo bs f k acc = some q → q.length ≤ acc.length + 2 * f + 1
  | 0, k, acc, q, h => by simp [Tx.quo] at h; subst h; simp
  | f + 1, k, acc, q, h => by
    unfold Tx.quo at h
    split at h
    · cases h
    · rename_i e he
      have := quo_len bs f (k + 1) (acc ++ e) q h
      have := Tx.esc_len he
      simp at *
      omega
theorem quoted_len {bs q : List UInt8} (h : Tx.quoted bs = some q) : q.length ≤ 130 := by
  unfold Tx.quoted at h
  split at h
  · cases h
  · have := quo_len bs _ _ _ _ h
    simp at this
    omega
theorem name_len {l : List UInt8} (h : nameB l = true) : l.length ≤ 32 := by
  apply Classical.byContradiction
  intro hn
  rw [nameB_len (by omega)] at h
  cases h
theorem may_parts {x : Tr.Nd} (h : Tr.mayB x = true) : Tr.fitB x = true ∧ Tr.nB x = true ∧ Tr.sB x = true ∧ Tr.tB x = true ∧ Tr.uB x = true := by
  unfold Tr.mayB at h
  simp only [Bool.and_eq_true] at h
  exact ⟨h.1.1.1.1, h.1.1.1.2, h.1.1.2, h.1.2, h.2⟩
theorem len_ite {c : Prop} {h : Decidable c} {a b : List UInt8} {n : Nat} (ha : a.length ≤ n) (hb : b.length ≤ n) : (if c then a else b).length ≤ n := by
  by_cases hc : c
  · rw [if_pos hc]; exact ha
  · rw [if_neg hc]; exact hb
theorem pcB_len (k : Int) (j : Nat) : (pcB k j).length ≤ 6 := by
  unfold pcB
  repeat (first | exact len_ite (by simp) (by simp) | refine len_ite (by simp) ?_ | refine len_ite (len_ite (by simp) (by simp)) ?_)
theorem pcA_len {dg : Int → List UInt8} {x : Tr.Nd} (h : Tr.mayB x = true) (hd : (dg x.n).length ≤ 30) : (pcA dg x).length ≤ 1500 := by
  obtain ⟨_, _, hs, ht, hu⟩ := may_parts h
  by_cases h2 : x.kind = 2
  · unfold Tr.sB Tr.nm at hs
    rw [if_pos (by simp [h2])] at hs
    unfold pcA
    rw [if_neg (by omega), if_pos h2]
    cases hq : Tx.quoted x.s.data.toList with
    | none => simp
    | some q => have := quoted_len hq; simp; omega
  by_cases h4 : x.kind = 4 ∨ x.kind = 5 ∨ x.kind = 8
  · have hn : nameB x.s.data.toList = true := by
      unfold Tr.sB Tr.nm at hs
      rw [if_neg (by simp [h2]), if_pos (by simp; omega)] at hs
      exact hs
    have := name_len hn
    have ht' : x.kind = 5 ∨ x.kind = 8 → (note x.t.data.toList).length ≤ 643 := fun e => by
      unfold Tr.tB at ht
      rw [if_pos (by simp; omega)] at ht
      exact note_len ht
    have hu' : x.kind = 5 → (note x.u.data.toList).length ≤ 643 := fun e => by
      unfold Tr.uB at hu
      rw [if_pos (by simp; omega)] at hu
      exact note_len hu
    unfold pcA
    rcases h4 with e | e | e
    · rw [if_neg (by omega), if_neg (by omega), if_neg (by omega), if_pos e]; omega
    · have := ht' (.inl e); have := hu' e
      rw [if_neg (by omega), if_neg (by omega), if_neg (by omega), if_neg (by omega), if_pos e]
      simp only [List.length_append, List.length_cons, List.length_nil]; omega
    · have := ht' (.inr e)
      rw [if_neg (by omega), if_neg (by omega), if_neg (by omega), if_neg (by omega), if_neg (by omega), if_neg (by omega), if_pos e]
      simp only [List.length_append, List.length_cons, List.length_nil]; omega
  by_cases h6 : x.kind = 6
  · have hn : nameB (Tr.cut32 x.s.data.toList).1 = true ∧ nameB (Tr.cut32 x.s.data.toList).2.1 = true := by
      unfold Tr.sB Tr.nm at hs
      rw [if_neg (by simp [h2]), if_neg (by simp; omega), if_pos (by simp [h6])] at hs
      simpa using hs
    have := name_len hn.1
    have := name_len hn.2
    have ht' : (note x.t.data.toList).length ≤ 643 := by
      unfold Tr.tB at ht
      rw [if_pos (by simp; omega)] at ht
      exact note_len ht
    have hu' : (note x.u.data.toList).length ≤ 643 := by
      unfold Tr.uB at hu
      rw [if_pos (by simp; omega)] at hu
      exact note_len hu
    unfold pcA
    rw [if_neg (by omega), if_neg (by omega), if_neg (by omega), if_neg (by omega), if_neg (by omega), if_pos h6]
    simp only [List.length_append, List.length_cons, List.length_nil]
    omega
  by_cases h1 : x.kind = 1
  · unfold pcA
    rw [if_pos h1]
    omega
  unfold pcA
  rw [if_neg h1, if_neg h2]
  by_cases h3 : x.kind = 3
  · rw [if_pos h3]
    split
    · simp
    · simp
  rw [if_neg h3, if_neg (by omega), if_neg (by omega), if_neg h6, if_neg (by omega)]
  repeat (first | exact len_ite (by simp) (by simp) | refine len_ite (by simp) ?_)
theorem pcC_len {x : Tr.Nd} (h : Tr.mayB x = true) : (pcC x).length ≤ 700 := by
  obtain ⟨_, _, hs, ht, hu⟩ := may_parts h
  unfold pcC
  repeat' split
  all_goals first
    | (simp; done)
    | skip
  rename_i _ e
  unfold Tr.tB at ht
  rw [if_neg (by simp; omega), if_pos (by simp [e])] at ht
  have : (note x.t.data.toList).length ≤ 643 := note_len (by unfold noteB; rw [ht]; simp)
  simp
  omega
mutual
theorem pr_len (dg : Int → List UInt8) : ∀ t : Tr.T, (∀ x ∈ Tr.flat t, Tr.mayB x = true ∧ (dg x.n).length ≤ 30) → (pr dg t).length + 8 ≤ 2300 * (Tr.flat t).length
  | .nd x ks, h => by
    have h1 := prs_len dg x.kind 0 ks (fun y hy => h y (by simp [Tr.flat, hy]))
    obtain ⟨h2, h3⟩ := h x (by simp [Tr.flat])
    have h4 := pcA_len h2 h3
    have h5 := pcC_len h2
    rw [pr_nd]
    simp only [Tr.flat, List.length_append, List.length_cons]
    omega
theorem prs_len (dg : Int → List UInt8) (k : Int) (j : Nat) : ∀ ts : List Tr.T, (∀ x ∈ Tr.flats ts, Tr.mayB x = true ∧ (dg x.n).length ≤ 30) → (prs dg k j ts).length ≤ 2300 * (Tr.flats ts).length
  | [], h => by simp [prs]
  | t :: r, h => by
    have h1 := pr_len dg t (fun y hy => h y (by simp [Tr.flats, hy]))
    have h2 := prs_len dg k (j + 1) r (fun y hy => h y (by simp [Tr.flats, hy]))
    have h3 := br_len (decide (rk (root t).kind < askd k j)) (pr dg t)
    have h4 := pcB_len k j
    have h5 : (if j = 0 then [] else pcB k j).length ≤ 6 := by
      by_cases e : j = 0
      · simp [e]
      · rw [if_neg e]; exact h4
    rw [prs_cons]
    unfold prK
    simp only [Tr.flats, List.length_append]
    omega
end
theorem prK_len {dg : Int → List UInt8} {t : Tr.T} {a : Int} (h : ∀ x ∈ Tr.flat t, Tr.mayB x = true ∧ (dg x.n).length ≤ 30) : (prK dg a t).length ≤ 2300 * (Tr.flat t).length := by
  have := pr_len dg t h
  have := br_len (decide (rk (root t).kind < a)) (pr dg t)
  unfold prK
  omega
end Pn
end Go.Proofs.YtpikfdkgblghhaaGreatDoor
namespace Go.Proofs.YtpikfdkgblghhaaGreatDoor
open Go.RowKit Pn
set_option maxRecDepth 100000
set_option linter.unusedSimpArgs false
set_option linter.unusedVariables false
namespace Pn
/-- A row of texts in a block of its own. -/
def Row (w : World) (v : Value) (pb : Nat) (ps : List (List UInt8)) : Prop :=
  ∃ (g cap : Nat) (cur : Array Value), v = Value.slice (some ⟨g, 0, none⟩) ps.length cap ∧ ps.length ≤ cap ∧ w.heap[g]? = some (.cells cur 9 (0, 0)) ∧ g ≠ pb ∧ ∀ (j : Nat) (p : List UInt8), ps[j]? = some p → cur[j]? = some (Value.string (S p))
theorem Row.kept {w w' : World} {v : Value} {pb : Nat} {ps : List (List UInt8)} (h : Row w v pb ps) (hW : Wrote w w' pb) : Row w' v pb ps := by
  obtain ⟨g, cap, cur, h1, h2, h3, h4, h5⟩ := h
  exact ⟨g, cap, cur, h1, h2, hW.at h3 h4 (by decide), h4, h5⟩
theorem Row.new (w : World) {pb : Nat} (hp : pb < w.heap.size) (ps : List (List UInt8)) : Row (w.alloc (.cells (tcells ps).toArray 9)) (.slice (some ⟨w.heap.size, 0, none⟩) ps.length ps.length) pb ps :=
  ⟨w.heap.size, _, _, rfl, Nat.le_refl _, heap_alloc_new _ _, by omega, fun j p hp => by simp [tcells, hp]⟩
theorem alloc_grown (w : World) (o : Obj) : w.grownBy (w.alloc o) none := grownBy_alloc (grownBy_refl _ _) _
end Pn

set_option maxHeartbeats 4000000 in
theorem put_any (pb : Nat) (L : List UInt8) (c v : Value) (ps : List (List UInt8)) (w : World) (h : Pen w pb L c) (hr : Row w v pb ps) (hn : ps.length ≤ 1000) (hlen : L.length + ps.flatten.length ≤ 100000000000) :
    Calls Tryz.prog 67 #[.pointer (some ⟨pb, 0, none⟩), v] w fun e w' => e = .returned (.tuple #[]) ∧ Pen w' pb (L ++ ps.flatten) c ∧ Wrote w w' pb := by
  obtain ⟨g, cap, cur, rfl, hcap, hg, hne, hcur⟩ := hr
  have HF : Aside (∀ k, L.length + (ps.take k).flatten.length + (ps.drop k).flatten.length ≤ 100000000000) := by
    show ∀ _, _
    intro k
    rw [Nat.add_assoc, ← List.length_append, ← List.flatten_append, List.take_append_drop]
    exact hlen
  go_enter Tryz.func67, Tryz.ntmps67
  go_wp2_with fail
  go_loopg [8] ps.length (fun gk x wr => ∃ k : Nat, k + gk = ps.length ∧ x = .int .i64 (k : Int) ∧ Pen wr pb (L ++ (ps.take k).flatten) c ∧ Wrote w wr pb)
  case atStart => exact ⟨0, by omega, rfl, by simpa using h, Wrote.refl _ _⟩
  case round =>
    obtain ⟨k, hkg, rfl, hP, hW⟩ := hrel
    by_cases hk : k < ps.length
    · obtain ⟨p, hp⟩ : ∃ p, ps[k]? = some p := ⟨ps[k], List.getElem?_eq_getElem hk⟩
      have hk' : (k : Int) < (ps.length : Int) := by omega
      have hk0 : (0 : Int) ≤ (k : Int) := by omega
      have hgw := hW.at hg hne (by decide)
      have hc := hcur k p hp
      have hck : wr.cell? ⟨g, k, none⟩ = some (.string (S p)) := by simp [World.cell?, hgw, hc]
      have hT : ps.take (k + 1) = ps.take k ++ [p] := by rw [List.take_add_one, hp]; rfl
      have hD : ps.drop k = p :: ps.drop (k + 1) := by
        obtain ⟨_, rfl⟩ := List.getElem?_eq_some_iff.1 hp
        exact List.drop_eq_getElem_cons hk
      have hb := HF.out k
      rw [hD] at hb
      have hlp : (L ++ (ps.take k).flatten).length + (S p).data.toList.length ≤ 100000000000 := by
        rw [S_list, List.length_append]
        simp only [List.flatten_cons, List.length_append] at hb
        omega
      have HN : Aside (L ++ (ps.take (k + 1)).flatten = L ++ (ps.take k).flatten ++ (S p).data.toList) := by
        show _ = _
        rw [hT, S_list]; simp
      have hwr := fun W h1 => pnWriteString_any pb (L ++ (ps.take k).flatten) (S p) c W h1 hlp
      clear hb hD hT hc hp hcur hgw
      generalize S p = sv at *
      generalize L ++ (ps.take k).flatten = L1 at *
      generalize hL2 : L ++ (ps.take (k + 1)).flatten = L2 at *
      go_wp2_with fail
      refine (hwr _ (by exact hP)).mono ?_
      rintro e w1 ⟨rfl, hP1, hW1⟩
      go_wp2_with fail
      go_roundg (gk - 1)
      case measure => omega
      case rel => exact ⟨k + 1, by omega, by simp, by rw [hL2, HN.out]; exact hP1, hW.trans hW1⟩
    · obtain rfl : k = ps.length := by omega
      rw [List.take_length] at hP
      go_wp2_with fail
      go_end0
      exact ⟨rfl, hP, hW⟩
end Go.Proofs.YtpikfdkgblghhaaGreatDoor
namespace Go.Proofs.YtpikfdkgblghhaaGreatDoor
open Go.RowKit Pn
set_option maxRecDepth 100000
set_option linter.unusedSimpArgs false
set_option linter.unusedVariables false
namespace Pn
/-- The table of powers lies as the program's text lays it. -/
def Tab (w : World) : Prop := Lib.TabIs Tryz.prog w "internal/strconv.uint64pow10" .u64 Lib.pow10Tab
theorem Tab.below {w w' : World} (h : Tab w) (hB : Below w.heap.size w w') : Tab w' := Lib.tabBelow_of_tabIs h w' hB
theorem toList_S (l : List UInt8) : (S l).toList = l := by rw [ByteArray.toList_eq]; rfl
end Pn

theorem fmt_any (n : Int) (h0 : -9223372036854775808 ≤ n) (h1 : n ≤ 9223372036854775807) (w : World) (hT : Tab w) :
    Calls Tryz.prog 188 #[.int .i64 n, .int .i64 10] w fun e w' => e = .returned (.string (S (Lib.itoa n))) ∧ Below w.heap.size w w' :=
  (Tryz.strconv_FormatInt_10 n h0 h1 w hT).mono fun e w' ⟨he, k, os, hw⟩ => ⟨he, by rw [hw]; exact Lib.below_grow _ _ (Nat.le_refl _) _ _⟩

set_option maxHeartbeats 2000000 in
theorem typed_any (s : ByteArray) (h : noteB s.data.toList = true) (w : World) :
    Calls Tryz.prog 68 #[.string s] w fun e w' => e = .returned (.string (S (note s.data.toList))) ∧ Below w.heap.size w w' := by
  by_cases h0 : s.data.toList = []
  · have hs : s = S [] := by rw [S_of s, h0]
    subst hs
    have he : (S []).toList.isEmpty = true := by rw [toList_S]; rfl
    have HN : Aside (S (note (S []).data.toList) = S []) := by show _ = _; rw [S_list, note_nil]
    go_enter Tryz.func68, Tryz.ntmps68
    go_wp2_with fail
    go_ret
    exact ⟨by rw [HN.out]; rfl, Below.refl _ _⟩
  · have ht : typB s.data.toList = true := by
      unfold noteB at h
      rcases Bool.or_eq_true _ _ ▸ h with e | e
      · exact absurd (List.isEmpty_iff.1 e) h0
      · exact e
    obtain ⟨t, hst, hl⟩ := typ_enc ht
    have hs : s = S (T3.Tp.enc t) := by rw [S_of s, hst]
    subst hs
    have hne : T3.Tp.enc t ≠ [] := by rw [S_list] at h0; exact h0
    have he : (S (T3.Tp.enc t)).toList.isEmpty = false := by rw [toList_S]; simpa using hne
    have HN : Aside (S (note (S (T3.Tp.enc t)).data.toList) = S ([32, 58, 32] ++ T3.Tp.wd t)) := by show _ = _; rw [S_list, note_enc]
    have HA : Aside (S [32, 58, 32] ++ S (T3.Tp.wd t) = S ([32, 58, 32] ++ T3.Tp.wd t)) := str_app _ _
    have hwl := T3.Tp.wd_len t
    have hws : (S (T3.Tp.wd t)).size ≤ 640 := by rw [S_size]; omega
    have h3 : (S [32, 58, 32]).size = 3 := by rw [S_size]; rfl
    have hW := fun W => T3.words_yes t hl W
    generalize S ([32, 58, 32] ++ T3.Tp.wd t) = s3 at *
    clear h0 hst ht h hwl hne
    have hW' : ∀ W, Calls Tryz.prog 116 #[.string (S (T3.Tp.enc t))] W fun e w' => e = .returned (.tuple #[.string (S (T3.Tp.wd t)), .int .i64 0]) ∧ Below W.heap.size W w' := hW
    generalize S (T3.Tp.enc t) = s1 at *
    generalize S (T3.Tp.wd t) = s2 at *
    clear hW
    go_enter Tryz.func68, Tryz.ntmps68
    go_wp2_with (go_at_call 116; refine (hW' _).mono ?_; rintro e w1 ⟨rfl, hB1⟩)
    go_ret
    exact ⟨by rw [HN.out, ← HA.out]; rfl, hB1⟩

set_option maxHeartbeats 2000000 in
theorem rankOf_any (k : Int) (w : World) :
    Calls Tryz.prog 104 #[.int .i8 k] w fun e w' => e = .returned (.int .i64 (rk k)) ∧ w' = w := by
  go_enter Tryz.func104, Tryz.ntmps104
  go_wp2
  all_goals
    go_ret
    refine ⟨ret_int ?_, rfl⟩
    unfold rk
    simp_all

set_option maxHeartbeats 2000000 in
theorem refRank_any (k : Int) (w : World) :
    Calls Tryz.prog 110 #[.int .i8 k] w fun e w' => e = .returned (.int .i64 (rk k)) ∧ w' = w := by
  go_enter Tryz.func110, Tryz.ntmps110
  go_wp2
  all_goals
    go_ret
    refine ⟨ret_int ?_, rfl⟩
    unfold rk
    simp_all

namespace Pn
/-- The mark of an operator. -/
def opm (k : Int) : List UInt8 := if k = 28 then [58, 61] else if k = 14 then [61, 61] else if k = 15 then [60] else if k = 10 then [43] else if k = 11 then [45] else if k = 13 then [43, 43] else [42]
theorem opm_pcB {k : Int} (h : k = 28 ∨ k = 14 ∨ k = 15 ∨ k = 10 ∨ k = 11 ∨ k = 13 ∨ k = 12) : pcB k 1 = [32] ++ opm k ++ [32] := by
  rcases h with rfl | rfl | rfl | rfl | rfl | rfl | rfl <;> decide
/-- The word of a kind with one kid in brackets. -/
def wrd (k : Int) : List UInt8 := if k = 26 then [98, 111, 120] else if k = 17 then [115, 105, 122, 101] else if k = 19 then [102, 105, 114, 115, 116] else if k = 20 then [115, 101, 99, 111, 110, 100] else if k = 22 then [104, 101, 97, 100] else if k = 23 then [116, 97, 105, 108] else [101, 109, 112, 116, 121]
end Pn

set_option maxHeartbeats 2000000 in
theorem operator_any (k : Int) (h : k = 28 ∨ k = 14 ∨ k = 15 ∨ k = 10 ∨ k = 11 ∨ k = 13 ∨ k = 12) (w : World) :
    Calls Tryz.prog 189 #[.int .i8 k] w fun e w' => e = .returned (.tuple #[.int .i64 (askd k 0), .string (S (opm k)), .int .i64 (askd k 1)]) ∧ w' = w := by
  rcases h with rfl | rfl | rfl | rfl | rfl | rfl | rfl
  all_goals
    go_enter Tryz.func189, Tryz.ntmps189
    go_wp2
    go_ret3
    exact ⟨rfl, rfl⟩

set_option maxHeartbeats 2000000 in
theorem word_any (k : Int) (w : World) :
    Calls Tryz.prog 163 #[.int .i8 k] w fun e w' => e = .returned (.string (S (wrd k))) ∧ w' = w := by
  go_enter Tryz.func163, Tryz.ntmps163
  go_wp2
  all_goals
    go_ret
    refine ⟨?_, rfl⟩
    unfold wrd
    simp_all [S]

namespace Pn
/-- What a leaf is written as. -/
theorem leaf_pcA {x : Tr.Nd} (h : x.kind = 1 ∨ x.kind = 2 ∨ x.kind = 3 ∨ x.kind = 4) (dg : Int → List UInt8) : pcA dg x = if x.kind = 1 then dg x.n else if x.kind = 2 then (Tx.quoted x.s.data.toList).getD [] else if x.kind = 3 then (if x.n = 1 then [116, 114, 117, 101] else [102, 97, 108, 115, 101]) else x.s.data.toList := by
  unfold pcA
  rcases h with e | e | e | e <;> simp [e]
end Pn

set_option maxHeartbeats 4000000 in
theorem leaf_any (x : Tr.Nd) (h : x.kind = 1 ∨ x.kind = 2 ∨ x.kind = 3 ∨ x.kind = 4) (hm : Tr.mayB x = true) (hn : -9223372036854775808 ≤ x.n ∧ x.n ≤ 9223372036854775807) (hs : x.s.size ≤ maxLen) (w : World) (hT : Tab w) :
    Calls Tryz.prog 157 #[Tr.agg x] w fun e w' => e = .returned (.string (S (pcA Lib.itoa x))) ∧ Below w.heap.size w w' := by
  obtain ⟨_, hnB, hsB, _, _⟩ := may_parts hm
  have HP : Aside (pcA Lib.itoa x = _) := leaf_pcA h Lib.itoa
  obtain ⟨kind, kids, n, s, t, u, ln, co⟩ := x
  simp only at h hn hs HP
  simp only [Tr.agg]
  rcases h with rfl | rfl | rfl | rfl
  · have HP' : Aside (pcA Lib.itoa ⟨1, kids, n, s, t, u, ln, co⟩ = Lib.itoa n) := HP.out
    clear HP hnB hsB hm
    have hf : ∀ W, Below w.heap.size w W → Calls Tryz.prog 188 #[.int .i64 n, .int .i64 10] W fun e w' => e = .returned (.string (S (Lib.itoa n))) ∧ Below W.heap.size W w' := fun W hB => fmt_any n hn.1 hn.2 W (hT.below hB)
    generalize hq : S (Lib.itoa n) = q at hf
    go_enter Tryz.func157, Tryz.ntmps157
    go_wp2_with (go_at_call 188; refine (hf _ ((Below.refl _ _).alloc (Nat.le_refl _) _)).mono ?_; rintro e w1 ⟨rfl, hB1⟩)
    go_ret
    exact ⟨by rw [HP'.out, hq]; rfl, ((Below.refl _ _).alloc (Nat.le_refl _) _).trans (hB1.mono (by simp))⟩
  · have HP' : Aside (pcA Lib.itoa ⟨2, kids, n, s, t, u, ln, co⟩ = (Tx.quoted s.data.toList).getD []) := HP.out
    obtain ⟨q, hq⟩ : ∃ q, Tx.quoted s.data.toList = some q := by
      unfold Tr.sB Tr.nm at hsB
      simpa [Option.isSome_iff_exists] using hsB
    rw [hq] at HP'
    clear HP hnB hsB hm
    have hQ : ∀ W, Calls Tryz.prog 99 #[.string s] W fun e w' => e = .returned (.tuple #[.string (S q), .int .i64 0]) ∧ Below W.heap.size W w' := fun W => (quote_any s hs W).mono fun e w' ⟨he, hB⟩ => by
      rw [hq] at he
      exact ⟨he, hB⟩
    go_enter Tryz.func157, Tryz.ntmps157
    go_wp2_with (go_at_call 99; refine (hQ _).mono ?_; rintro e w1 ⟨rfl, hB1⟩)
    go_ret
    exact ⟨by rw [HP'.out]; rfl, ((Below.refl _ _).alloc (Nat.le_refl _) _).trans (hB1.mono (by simp))⟩
  · have HP' : Aside (pcA Lib.itoa ⟨3, kids, n, s, t, u, ln, co⟩ = if n = 1 then [116, 114, 117, 101] else [102, 97, 108, 115, 101]) := HP.out
    clear HP hnB hsB hm
    by_cases h1 : n = 1
    · subst h1
      rw [if_pos rfl] at HP'
      go_enter Tryz.func157, Tryz.ntmps157
      go_wp2_with fail
      go_ret
      exact ⟨by rw [HP'.out]; rfl, (Below.refl _ _).alloc (Nat.le_refl _) _⟩
    · rw [if_neg h1] at HP'
      have h1' : (n == 1) = false := by simpa using h1
      go_enter Tryz.func157, Tryz.ntmps157
      go_wp2_with fail
      go_ret
      exact ⟨by rw [HP'.out]; rfl, (Below.refl _ _).alloc (Nat.le_refl _) _⟩
  · have HP' : Aside (pcA Lib.itoa ⟨4, kids, n, s, t, u, ln, co⟩ = s.data.toList) := HP.out
    clear HP hnB hsB hm
    go_enter Tryz.func157, Tryz.ntmps157
    go_wp2_with fail
    go_ret
    exact ⟨by rw [HP'.out]; rfl, (Below.refl _ _).alloc (Nat.le_refl _) _⟩
end Go.Proofs.YtpikfdkgblghhaaGreatDoor
namespace Go.Proofs.YtpikfdkgblghhaaGreatDoor
open Go.RowKit Pn
set_option maxRecDepth 100000
set_option linter.unusedSimpArgs false
set_option linter.unusedVariables false
namespace Pn
def TabK (w : World) (pb : Nat) : Prop := ∀ w', Below pb w w' → Tab w'
/-- A pen that has written L, nodes that are coming; what has been left alone since a world. -/
structure St (w0 w : World) (pb : Nat) (L : List UInt8) (c : Value) (l : List Tr.Nd) : Prop where
  pen : Pen w pb L c
  nodes : IsNodes w c l
  low : Low c pb
  tab : TabK w pb
  wr : Wrote w0 w pb
theorem St.step {w0 w w' : World} {pb : Nat} {L L' : List UInt8} {c : Value} {l : List Tr.Nd} (h : St w0 w pb L c l) (hp : Pen w' pb L' c) (hW : Wrote w w' pb) : St w0 w' pb L' c l :=
  ⟨hp, nodes_low h.nodes h.low hW.1, h.low, fun W hB => h.tab W (hW.1.trans hB), h.wr.trans hW⟩
theorem St.grown {w0 w w' : World} {pb : Nat} {L : List UInt8} {c : Value} {l : List Tr.Nd} (h : St w0 w pb L c l) (hg : w.grownBy w' none) : St w0 w' pb L c l :=
  h.step (h.pen.kept hg) (Wrote.grown hg (Nat.le_of_lt h.pen.lt))
theorem St.alloc {w0 w : World} {pb : Nat} {L : List UInt8} {c : Value} {l : List Tr.Nd} (h : St w0 w pb L c l) (o : Obj) : St w0 (w.alloc o) pb L c l := h.grown (alloc_grown w o)
theorem St.below {w0 w w' : World} {pb : Nat} {L : List UInt8} {c : Value} {l : List Tr.Nd} (h : St w0 w pb L c l) (hB : Below w.heap.size w w') : St w0 w' pb L c l := h.grown (grown_below hB)
theorem St.same {w0 w : World} {pb : Nat} {L L' : List UInt8} {c : Value} {l : List Tr.Nd} (h : St w0 w pb L c l) (e : L = L') : St w0 w pb L' c l := e ▸ h
theorem St.from {w0 w1 w : World} {pb : Nat} {L : List UInt8} {c : Value} {l : List Tr.Nd} (h : St w1 w pb L c l) (k : Wrote w0 w1 pb) : St w0 w pb L c l := ⟨h.pen, h.nodes, h.low, h.tab, k.trans h.wr⟩
theorem St.now {w0 w : World} {pb : Nat} {L : List UInt8} {c : Value} {l : List Tr.Nd} (h : St w0 w pb L c l) : St w w pb L c l := ⟨h.pen, h.nodes, h.low, h.tab, Wrote.refl _ _⟩
/-- A function of the pen has written m, and the nodes that come are l. -/
def Done (w0 : World) (pb : Nat) (L : List UInt8) (l : List Tr.Nd) (e : Ending) (w' : World) : Prop := e = .returned (.tuple #[]) ∧ ∃ c', St w0 w' pb L c' l
/-- A tree's nodes, as the writer wants them. -/
def Nice (x : Tr.Nd) : Prop := Tr.mayB x = true ∧ (-9223372036854775808 ≤ x.n ∧ x.n ≤ 9223372036854775807) ∧ x.s.size ≤ maxLen
def GoodT (t : Tr.T) : Prop := Tr.wf t ∧ ∀ x ∈ Tr.flat t, Nice x
def GoodTs (ts : List Tr.T) : Prop := Tr.wfs ts ∧ ∀ x ∈ Tr.flats ts, Nice x
theorem GoodTs.cons {t : Tr.T} {r : List Tr.T} (h : GoodTs (t :: r)) : GoodT t ∧ GoodTs r :=
  ⟨⟨h.1.1, fun x hx => h.2 x (by simp [Tr.flats, hx])⟩, ⟨h.1.2, fun x hx => h.2 x (by simp [Tr.flats, hx])⟩⟩
theorem nice_len {x : Tr.Nd} (h : Nice x) : Tr.mayB x = true ∧ (Lib.itoa x.n).length ≤ 30 := ⟨h.1, by have := Lib.itoa_length_le x.n h.2.1.1 h.2.1.2; omega⟩
noncomputable abbrev txt (a : Int) (t : Tr.T) : List UInt8 := prK Lib.itoa a t
theorem txt_len {t : Tr.T} {a : Int} (h : GoodT t) : (txt a t).length ≤ 2300 * (Tr.flat t).length := prK_len (fun x hx => nice_len (h.2 x hx))
/-- The kid's method, at one tree. -/
def KidOk (t : Tr.T) : Prop := ∀ (a : Int) (pb : Nat) (L : List UInt8) (c : Value) (rest : List Tr.Nd) (w0 w : World), St w0 w pb L c (Tr.flat t ++ rest) → 0 ≤ a → a ≤ 6 → L.length + 2400 * (Tr.flat t).length ≤ 10000000000 →
  Calls Tryz.prog 53 #[.pointer (some ⟨pb, 0, none⟩), .int .i64 a] w (Done w0 pb (L ++ txt a t) rest)
/-- Pieces with kids between. -/
noncomputable def arT (j : Nat) : List (List UInt8) → List Tr.T → List UInt8
  | [], _ => []
  | p :: ps, ts => if j = 0 then p ++ arT 1 ps ts else match ts with
    | [] => p ++ arT 1 ps []
    | t :: r => txt 0 t ++ p ++ arT 1 ps r
theorem arT_nil (j : Nat) (ts : List Tr.T) : arT j [] ts = [] := by rw [arT.eq_def]
theorem arT_zero (p : List UInt8) (ps : List (List UInt8)) (ts : List Tr.T) : arT 0 (p :: ps) ts = p ++ arT 1 ps ts := by rw [arT.eq_def]; simp
theorem arT_succ (j : Nat) (p : List UInt8) (ps : List (List UInt8)) (t : Tr.T) (r : List Tr.T) : arT (j + 1) (p :: ps) (t :: r) = txt 0 t ++ p ++ arT (j + 2) ps r := by
  rw [arT.eq_def]
  simp only [Nat.succ_ne_zero, if_false]
  congr 1
  cases ps
  · rw [arT_nil, arT_nil]
  · rw [arT.eq_def, arT.eq_def (j + 2)]; simp
theorem arT_one (ps : List (List UInt8)) (ts : List Tr.T) (j : Nat) : arT (j + 1) ps ts = arT 1 ps ts := by
  cases ps
  · rw [arT_nil, arT_nil]
  · rw [arT.eq_def, arT.eq_def 1]; simp
end Pn

theorem put_st (pb : Nat) (L : List UInt8) (c : Value) (l : List Tr.Nd) (ps : List (List UInt8)) (w0 w : World) (h : St w0 w pb L c l) (hn : ps.length ≤ 1000) (hlen : L.length + ps.flatten.length ≤ 100000000000) :
    Calls Tryz.prog 67 #[.pointer (some ⟨pb, 0, none⟩), .slice (some ⟨w.heap.size, 0, none⟩) ps.length ps.length] (w.alloc (.cells (tcells ps).toArray 9)) fun e w' => e = .returned (.tuple #[]) ∧ St w0 w' pb (L ++ ps.flatten) c l := by
  have h1 := h.alloc (.cells (tcells ps).toArray 9)
  refine (put_any pb L c _ ps _ h1.pen (Row.new w h.pen.lt ps) hn hlen).mono ?_
  rintro e w' ⟨rfl, hp, hW⟩
  exact ⟨rfl, h1.step hp hW⟩

theorem put_row (pb : Nat) (L : List UInt8) (c : Value) (l : List Tr.Nd) (v : Value) (ps : List (List UInt8)) (w0 w : World) (h : St w0 w pb L c l) (hr : Row w v pb ps) (hn : ps.length ≤ 1000) (hlen : L.length + ps.flatten.length ≤ 100000000000) :
    Calls Tryz.prog 67 #[.pointer (some ⟨pb, 0, none⟩), v] w fun e w' => e = .returned (.tuple #[]) ∧ St w0 w' pb (L ++ ps.flatten) c l := by
  refine (put_any pb L c _ ps _ h.pen hr hn hlen).mono ?_
  rintro e w' ⟨rfl, hp, hW⟩
  exact ⟨rfl, h.step hp hW⟩

set_option maxHeartbeats 4000000 in
theorem around_any (pb : Nat) (L : List UInt8) (c v : Value) (p0 : List UInt8) (ps0 : List (List UInt8)) (ts : List Tr.T) (rest : List Tr.Nd) (w0 w : World) (h : St w0 w pb L c (Tr.flats ts ++ rest)) (hr : Row w v pb (p0 :: ps0)) (hg : GoodTs ts) (hk : ∀ t ∈ ts, KidOk t) (hl : ps0.length = ts.length) (hn : ps0.length ≤ 100)
    (hlen : L.length + (p0 :: ps0).flatten.length + 2400 * (Tr.flats ts).length ≤ 10000000000) :
    Calls Tryz.prog 159 #[.pointer (some ⟨pb, 0, none⟩), v] w (Done w0 pb (L ++ arT 0 (p0 :: ps0) ts) rest) := by
  obtain ⟨g, cap, cur, rfl, hcap, hgb, hne, hcur⟩ := hr
  have h' := h.now
  have hpl : (p0 :: ps0).length = ts.length + 1 := by simp [hl]
  have hn1 : (p0 :: ps0).length ≤ 101 := by simp; omega
  have HF0 : Aside (L ++ arT 0 (p0 :: ps0) ts = L ++ arT 0 ((p0 :: ps0).drop 0) (ts.drop (0 - 1))) := by show _ = _; simp
  have hlen0 : L.length + ((p0 :: ps0).drop 0).flatten.length + 2400 * (Tr.flats (ts.drop (0 - 1))).length ≤ 10000000000 := hlen
  have hfin : Aside (∀ w', Wrote w w' pb → Wrote w0 w' pb) := fun w' hW => h.wr.trans hW
  generalize L ++ arT 0 (p0 :: ps0) ts = F at *
  generalize hps : p0 :: ps0 = ps at *
  have HPL : Aside (ps.length = ts.length + 1) := hpl
  clear hlen hps hl hpl
  go_enter Tryz.func159, Tryz.ntmps159
  go_wp2_with fail
  go_loopg [8] ps.length (fun gk x wr => ∃ (k : Nat) (M : List UInt8) (c' : Value), k + gk = ps.length ∧ x = .int .i64 (k : Int) ∧ St w wr pb M c' (Tr.flats (ts.drop (k - 1)) ++ rest) ∧ Aside (F = M ++ arT k (ps.drop k) (ts.drop (k - 1))) ∧ M.length + (ps.drop k).flatten.length + 2400 * (Tr.flats (ts.drop (k - 1))).length ≤ 10000000000)
  case atStart => exact ⟨0, L, c, by omega, rfl, h', HF0, hlen0⟩
  case round =>
    clear hlen0 HF0 h'
    obtain ⟨k, M, c', hkg, rfl, hS, HF, hM⟩ := hrel
    by_cases hkl : k < ps.length
    · obtain ⟨p, hp⟩ : ∃ p, ps[k]? = some p := ⟨ps[k], List.getElem?_eq_getElem hkl⟩
      have hk' : (k : Int) < (ps.length : Int) := by omega
      have hk0 : (0 : Int) ≤ (k : Int) := by omega
      have hgw := hS.wr.at hgb hne (by decide)
      have hck : wr.cell? ⟨g, k, none⟩ = some (.string (S p)) := by simp [World.cell?, hgw, hcur k p hp]
      have hD : ps.drop k = p :: ps.drop (k + 1) := by
        obtain ⟨_, rfl⟩ := List.getElem?_eq_some_iff.1 hp
        exact List.drop_eq_getElem_cons hkl
      rw [hD] at hM HF
      have hM' : M.length + p.length + (ps.drop (k + 1)).flatten.length + 2400 * (Tr.flats (ts.drop (k - 1))).length ≤ 10000000000 := by simpa [Nat.add_assoc] using hM
      clear hM hD hp
      by_cases hz : k = 0
      · subst hz
        have HF1 : Aside (F = M ++ [p].flatten ++ arT 1 (ps.drop 1) (ts.drop 0)) := by
          show _ = _
          rw [HF.out, arT_zero]; simp
        have hput := put_st pb M c' _ [p] w wr hS (by simp) (by simp; omega)
        have hN : (M ++ [p].flatten).length + (ps.drop 1).flatten.length + 2400 * (Tr.flats (ts.drop (1 - 1))).length ≤ 10000000000 := by simpa [Nat.add_assoc] using hM'
        clear hM' HF
        generalize M ++ [p].flatten = M1 at *
        have hput' : Calls Tryz.prog 67 #[.pointer (some ⟨pb, 0, none⟩), .slice (some ⟨wr.heap.size, 0, none⟩) 1 1] (wr.alloc (.cells #[.string (S p)] 9)) fun e w' => e = .returned (.tuple #[]) ∧ St w w' pb M1 c' (Tr.flats (ts.drop (0 - 1)) ++ rest) := hput
        clear hput
        go_wp2_with (go_at_call 67; refine hput'.mono ?_; rintro e w1 ⟨rfl, hS1⟩)
        go_roundg (gk - 1)
        case measure => omega
        case rel => exact ⟨1, M1, c', by omega, rfl, hS1, HF1, hN⟩
      · obtain ⟨j, rfl⟩ : ∃ j, k = j + 1 := ⟨k - 1, by omega⟩
        rw [Nat.add_sub_cancel] at hS HF hM'
        obtain ⟨t, ht⟩ : ∃ t, ts[j]? = some t := ⟨ts[j]'(by have := HPL.out; omega), List.getElem?_eq_getElem (by have := HPL.out; omega)⟩
        have hjl : j < ts.length := by have := HPL.out; omega
        have hDt : ts.drop j = t :: ts.drop (j + 1) := by
          obtain ⟨_, rfl⟩ := List.getElem?_eq_some_iff.1 ht
          exact List.drop_eq_getElem_cons hjl
        have htm : t ∈ ts := List.mem_of_getElem? ht
        have hgt : GoodT t := by
          have : GoodTs (ts.drop j) := ⟨by
            have h2 := hg.1
            rw [← List.take_append_drop j ts, Tr.wfs_append] at h2
            exact h2.2, fun x hx => hg.2 x (by
              rw [← List.take_append_drop j ts, Tr.flats_append]
              exact List.mem_append_right _ hx)⟩
          rw [hDt] at this
          exact this.cons.1
        rw [hDt] at hS HF hM'
        have hft : Tr.flats (t :: ts.drop (j + 1)) = Tr.flat t ++ Tr.flats (ts.drop (j + 1)) := by simp [Tr.flats]
        rw [hft, List.append_assoc] at hS
        rw [hft, List.length_append] at hM'
        have htl := txt_len (a := 0) hgt
        have hM'' : M.length + p.length + (ps.drop (j + 2)).flatten.length + 2400 * ((Tr.flat t).length + (Tr.flats (ts.drop (j + 1))).length) ≤ 10000000000 := hM'
        have HF1 : Aside (F = M ++ txt 0 t ++ [p].flatten ++ arT (j + 2) (ps.drop (j + 2)) (ts.drop (j + 1))) := by
          show _ = _
          rw [HF.out, arT_succ]; simp
        have hkid := hk t htm 0 pb M c' (Tr.flats (ts.drop (j + 1)) ++ rest) w wr hS (by decide) (by decide) (by omega)
        have hML : (M ++ txt 0 t).length + p.length + (ps.drop (j + 2)).flatten.length + 2400 * (Tr.flats (ts.drop (j + 1))).length ≤ 10000000000 := by
          rw [List.length_append]
          omega
        have hjpos : (0 : Int) < ((j + 1 : Nat) : Int) := by omega
        clear hM' hM'' HF htl hft hDt htm hgt ht
        generalize M ++ txt 0 t = M1 at *
        have hput := fun c2 W h2 => put_st pb M1 c2 (Tr.flats (ts.drop (j + 1)) ++ rest) [p] w W h2 (by simp) (by simp; omega)
        have hN : (M1 ++ [p].flatten).length + (ps.drop (j + 2)).flatten.length + 2400 * (Tr.flats (ts.drop (j + 1))).length ≤ 10000000000 := by simpa [Nat.add_assoc] using hML
        generalize M1 ++ [p].flatten = M2 at *
        have hput' : ∀ c2 W, St w W pb M1 c2 (Tr.flats (ts.drop (j + 1)) ++ rest) → Calls Tryz.prog 67 #[.pointer (some ⟨pb, 0, none⟩), .slice (some ⟨W.heap.size, 0, none⟩) 1 1] (W.alloc (.cells #[.string (S p)] 9)) fun e w' => e = .returned (.tuple #[]) ∧ St w w' pb M2 c2 (Tr.flats (ts.drop (j + 1)) ++ rest) := hput
        clear hput hS
        go_wp2_with fail
        refine hkid.mono ?_
        rintro e w1 ⟨rfl, c1, hS1⟩
        go_wp2_with (go_at_call 67; refine (hput' _ _ hS1).mono ?_; rintro e w2 ⟨rfl, hS2⟩)
        go_roundg (gk - 1)
        case measure => omega
        case rel => exact ⟨j + 2, M2, c1, by omega, by simp; omega, hS2, HF1, hN⟩
    · have hkp : ps.length ≤ k := by omega
      rw [List.drop_eq_nil_of_le hkp, arT_nil, List.append_nil] at HF
      obtain rfl : k = ts.length + 1 := by have := HPL.out; omega
      rw [Nat.add_sub_cancel, List.drop_length] at hS
      have hS' : St w wr pb M c' rest := by simpa [Tr.flats] using hS
      have hkn : ¬ ((ts.length + 1 : Nat) : Int) < (ps.length : Int) := by omega
      go_wp2_with fail
      go_end0
      exact ⟨rfl, c', HF.out ▸ ⟨hS'.pen, hS'.nodes, hS'.low, hS'.tab, hfin.out _ hS'.wr⟩⟩
end Go.Proofs.YtpikfdkgblghhaaGreatDoor
namespace Go.Proofs.YtpikfdkgblghhaaGreatDoor
open Go.RowKit Pn
set_option maxRecDepth 100000
set_option linter.unusedSimpArgs false
set_option linter.unusedVariables false
namespace Pn
/-- What the closure of between has: whether it is the first time, the pen, the mark. -/
structure Cm (w : World) (pb F A B : Nat) (b : Bool) (m : List UInt8) : Prop where
  f : w.heap[F]? = some (.cells #[.bool b] 4 (0, 0))
  a : w.heap[A]? = some (.cells #[.pointer (some ⟨pb, 0, none⟩)] 99 (0, 0))
  m : w.heap[B]? = some (.cells #[.string (S m)] 9 (0, 0))
  fn : pb < F
  an : pb < A
  mn : pb < B
theorem Cm.kept {w w' : World} {pb F A B : Nat} {b : Bool} {m : List UInt8} (h : Cm w pb F A B b m) (hW : Wrote w w' pb) : Cm w' pb F A B b m :=
  ⟨hW.at h.f (by have := h.fn; omega) (by decide), hW.at h.a (by have := h.an; omega) (by decide), hW.at h.m (by have := h.mn; omega) (by decide), h.fn, h.an, h.mn⟩
theorem one_cells {w : World} {k : Nat} {v : Value} {T : TypeId} (h : w.heap[k]? = some (.cells #[v] T (0, 0))) : w.cell? ⟨k, 0, none⟩ = some v ∧ w.frozen? ⟨k, 0, none⟩ = false := ⟨by simp [World.cell?, h], by simp [World.frozen?, h]⟩
/-- A cell of a block that is new since a world, and holds no bytes, is stored. -/
theorem St.set {w0 w : World} {pb : Nat} {L : List UInt8} {c : Value} {l : List Tr.Nd} (h : St w0 w pb L c l) {F : Nat} {cs : Array Value} {T : TypeId} {fz : Nat × Nat} (hF : w.heap[F]? = some (.cells cs T fz)) (hT : T ≠ 5) (hp : pb < F) (h0 : w0.heap.size ≤ F) (v : Value) : St w0 (w.setCell ⟨F, 0, none⟩ v) pb L c l := by
  have hB : Below pb w (w.setCell ⟨F, 0, none⟩ v) := (Below.refl _ _).setCell (p := ⟨F, 0, none⟩) (by simp; omega) _
  have key : ∀ p, At p w pb L c → At p (w.setCell ⟨F, 0, none⟩ v) pb L c := by
    rintro p ⟨u, hb, hown⟩
    refine ⟨u, ?_, hown.kept (row := some F) (grown_set w F 0 v) (.inr (Lib.ownBlock_neF hown hF hT))⟩
    rw [Below.heap_setCell _ _ _ _ (by simp; omega)]
    exact hb
  refine ⟨h.pen.elim (fun x => .inl (key _ x)) (fun x => .inr (key _ x)), nodes_low h.nodes h.low hB, h.low, fun W hW => h.tab W (hB.trans hW), ⟨h.wr.1.trans hB, ?_, by have := h.wr.2.2; simpa [World.setCell] using this⟩⟩
  intro k o hk hkb ho
  have hlt := (Array.getElem?_eq_some_iff.1 hk).1
  rw [Below.heap_setCell _ _ _ _ (by simp; omega)]
  exact h.wr.2.1 k o hk hkb ho
end Pn

set_option maxHeartbeats 2000000 in
theorem between_st (pb : Nat) (L m : List UInt8) (c : Value) (l : List Tr.Nd) (w0 w : World) (h : St w0 w pb L c l) (h0 : w0.heap.size ≤ w.heap.size) :
    Calls Tryz.prog 190 #[.pointer (some ⟨pb, 0, none⟩), .string (S m)] w fun e w' => ∃ F A B, e = .returned (.func (.func 219) #[] #[.pointer (some ⟨F, 0, none⟩), .pointer (some ⟨A, 0, none⟩), .pointer (some ⟨B, 0, none⟩)]) ∧ St w0 w' pb L c l ∧ Cm w' pb F A B true m ∧ w0.heap.size ≤ F := by
  have hlt := h.pen.lt
  have h1 := ((h.alloc (.cells #[.pointer (some ⟨pb, 0, none⟩)] 99)).alloc (.cells #[.string (S m)] 9)).alloc (.cells #[.bool true] 4)
  obtain ⟨w1, hw1⟩ : ∃ w1, w1 = ((w.alloc (.cells #[.pointer (some ⟨pb, 0, none⟩)] 99)).alloc (.cells #[.string (S m)] 9)).alloc (.cells #[.bool true] 4) := ⟨_, rfl⟩
  have hA : w1.heap[w.heap.size]? = some (.cells #[.pointer (some ⟨pb, 0, none⟩)] 99 (0, 0)) := by
    rw [hw1, Below.heap_alloc _ _ _ (by simp; omega), Below.heap_alloc _ _ _ (by simp)]; exact heap_alloc_new _ _
  have hM : w1.heap[w.heap.size + 1]? = some (.cells #[.string (S m)] 9 (0, 0)) := by
    rw [hw1, Below.heap_alloc _ _ _ (by simp)]
    have := heap_alloc_new (w.alloc (.cells #[.pointer (some ⟨pb, 0, none⟩)] 99)) (.cells #[.string (S m)] 9)
    simpa using this
  have hF : w1.heap[w.heap.size + 1 + 1]? = some (.cells #[.bool true] 4 (0, 0)) := by
    rw [hw1]
    have := heap_alloc_new ((w.alloc (.cells #[.pointer (some ⟨pb, 0, none⟩)] 99)).alloc (.cells #[.string (S m)] 9)) (.cells #[.bool true] 4)
    simpa using this
  rw [← hw1] at h1
  have hHE : Aside (∃ F A B, St w0 w1 pb L c l ∧ Cm w1 pb F A B true m ∧ w0.heap.size ≤ F ∧ F = w.heap.size + 1 + 1 ∧ A = w.heap.size ∧ B = w.heap.size + 1) :=
    ⟨_, _, _, h1, ⟨hF, hA, hM, by omega, by omega, by omega⟩, by omega, rfl, rfl, rfl⟩
  clear h1 hA hM hF
  subst hw1
  go_enter Tryz.func190, Tryz.ntmps190
  go_wp2_with fail
  go_ret
  obtain ⟨F, A, B, hS, hC, h3, rfl, rfl, rfl⟩ := hHE.out
  exact ⟨_, _, _, rfl, hS, hC, h3⟩

set_option maxHeartbeats 2000000 in
theorem comma_st (pb : Nat) (L m : List UInt8) (b : Bool) (c : Value) (l : List Tr.Nd) (F A B : Nat) (w0 w : World) (h : St w0 w pb L c l) (hC : Cm w pb F A B b m) (h0 : w0.heap.size ≤ F) (hlen : L.length + m.length ≤ 10000000000) :
    Calls Tryz.prog 219 #[.pointer (some ⟨F, 0, none⟩), .pointer (some ⟨A, 0, none⟩), .pointer (some ⟨B, 0, none⟩)] w fun e w' => e = .returned (.tuple #[]) ∧ St w0 w' pb (L ++ if b then [] else m) c l ∧ Cm w' pb F A B false m := by
  have hset : ∀ w1 L1, St w0 w1 pb L1 c l → Cm w1 pb F A B b m → St w0 (w1.setCell ⟨F, 0, none⟩ (.bool false)) pb L1 c l ∧ Cm (w1.setCell ⟨F, 0, none⟩ (.bool false)) pb F A B false m := by
    intro w1 L1 hS hK
    have hFA : F ≠ A := fun e => by have := hK.f; rw [e, hK.a] at this; simp at this
    have hFB : F ≠ B := fun e => by have := hK.f; rw [e, hK.m] at this; simp at this
    refine ⟨hS.set hK.f (by decide) hK.fn h0 _, ⟨?_, ?_, ?_, hK.fn, hK.an, hK.mn⟩⟩
    · simp [World.setCell, Array.getElem?_modify, hK.f]
    · rw [Below.heap_setCell _ _ _ _ (by simpa using fun e => hFA e.symm)]; exact hK.a
    · rw [Below.heap_setCell _ _ _ _ (by simpa using fun e => hFB e.symm)]; exact hK.m
  obtain ⟨cf, ff⟩ := one_cells hC.f
  obtain ⟨ca, _⟩ := one_cells hC.a
  obtain ⟨cm, _⟩ := one_cells hC.m
  cases b with
  | true =>
    obtain ⟨hS1, hC1⟩ := hset w L h hC
    clear hset
    go_enter Tryz.func219, Tryz.ntmps219
    go_wp2_with fail
    go_end0
    exact ⟨rfl, by simpa using hS1, hC1⟩
  | false =>
    have hput := put_st pb L c l [m] w0 w h (by simp) (by simp; omega)
    have hput' : Calls Tryz.prog 67 #[.pointer (some ⟨pb, 0, none⟩), .slice (some ⟨w.heap.size, 0, none⟩) 1 1] (w.alloc (.cells #[.string (S m)] 9)) fun e w' => e = .returned (.tuple #[]) ∧ St w0 w' pb (L ++ [m].flatten) c l := hput
    have hput2 : Calls Tryz.prog 67 #[.pointer (some ⟨pb, 0, none⟩), .slice (some ⟨w.heap.size, 0, none⟩) 1 1] (w.alloc (.cells #[.string (S m)] 9)) fun e w' => e = .returned (.tuple #[]) ∧ (St w0 w' pb (L ++ [m].flatten) c l ∧ Cm w' pb F A B false m) := by
      have h1 := h.alloc (.cells (tcells [m]).toArray 9)
      have hCa : Cm (w.alloc (.cells (tcells [m]).toArray 9)) pb F A B false m := hC.kept (Wrote.grown (alloc_grown w _) (Nat.le_of_lt h.pen.lt))
      refine (put_any pb L c _ [m] _ h1.pen (Row.new w h.pen.lt [m]) (by simp) (by simp; omega)).mono ?_
      rintro e w' ⟨rfl, hp, hW⟩
      exact ⟨rfl, h1.step hp hW, hCa.kept hW⟩
    clear hput hput'
    go_enter Tryz.func219, Tryz.ntmps219
    go_wp2_with (go_at_call 67; refine hput2.mono ?_; rintro e w1 ⟨rfl, hS1, hC1⟩; obtain ⟨hS2, hC2⟩ := hset w1 _ hS1 hC1; have ff1 := (one_cells hC1.f).2; have cf1 := (one_cells hC1.f).1)
    go_end0
    exact ⟨rfl, by simpa using hS2, hC2⟩

namespace Pn
theorem prs_nil (k : Int) (j : Nat) : prs Lib.itoa k j [] = [] := by rw [prs]
theorem good_drop {ts : List Tr.T} (h : GoodTs ts) (j : Nat) : GoodTs (ts.drop j) := ⟨by
  have h2 := h.1
  rw [← List.take_append_drop j ts, Tr.wfs_append] at h2
  exact h2.2, fun x hx => h.2 x (by
    rw [← List.take_append_drop j ts, Tr.flats_append]
    exact List.mem_append_right _ hx)⟩
end Pn

set_option maxHeartbeats 4000000 in
theorem list_st (pb : Nat) (L : List UInt8) (c : Value) (ts : List Tr.T) (rest : List Tr.Nd) (w0 w : World) (h : St w0 w pb L c (Tr.flats ts ++ rest)) (hg : GoodTs ts) (hk : ∀ t ∈ ts, KidOk t) (hn : ts.length ≤ 10000000)
    (hlen : L.length + 4 + 2400 * (Tr.flats ts).length ≤ 10000000000) :
    Calls Tryz.prog 162 #[.pointer (some ⟨pb, 0, none⟩), .int .i64 ts.length] w (Done w0 pb (L ++ ([91] ++ prs Lib.itoa 21 0 ts ++ [93])) rest) := by
  have h' := h.now
  have hlt := h.pen.lt
  have hput := put_st pb L c _ [[91]] w w h' (by simp) (by simp; omega)
  have HF0 : Aside (L ++ ([91] ++ prs Lib.itoa 21 0 ts ++ [93]) = L ++ [91] ++ (prs Lib.itoa 21 0 (ts.drop 0) ++ [93])) := by show _ = _; simp
  have hlen0 : (L ++ [91]).length + 2 + 2400 * (Tr.flats (ts.drop 0)).length ≤ 10000000000 := by rw [List.length_append, List.drop_zero]; simp; omega
  have hfin : Aside (∀ w', Wrote w w' pb → Wrote w0 w' pb) := fun w' hW => h.wr.trans hW
  generalize L ++ ([91] ++ prs Lib.itoa 21 0 ts ++ [93]) = FF at *
  have hput' : Calls Tryz.prog 67 #[.pointer (some ⟨pb, 0, none⟩), .slice (some ⟨w.heap.size, 0, none⟩) 1 1] (w.alloc (.cells #[.string (S [91])] 9)) fun e w' => e = .returned (.tuple #[]) ∧ St w w' pb (L ++ [91]) c (Tr.flats ts ++ rest) := hput
  clear hput hlen h'
  generalize L ++ [91] = L1 at *
  have hbt := fun W hW h0 => between_st pb L1 [44, 32] c (Tr.flats ts ++ rest) w W hW h0
  go_enter Tryz.func162, Tryz.ntmps162
  go_wp2_with (go_at_call 67; refine hput'.mono ?_; rintro e w1 ⟨rfl, hS1⟩)
  refine (hbt w1 hS1 hS1.wr.2.2).mono ?_
  rintro e w2 ⟨F, A, B, rfl, hS2, hC2, hF0⟩
  go_wp2_with fail
  go_loopg [11] ts.length (fun gk x wr => ∃ (k : Nat) (M : List UInt8) (c' : Value), k + gk = ts.length ∧ x = .int .i64 (k : Int) ∧ St w wr pb M c' (Tr.flats (ts.drop k) ++ rest) ∧ Cm wr pb F A B (k == 0) [44, 32] ∧ Aside (FF = M ++ (prs Lib.itoa 21 k (ts.drop k) ++ [93])) ∧ M.length + 2 + 2400 * (Tr.flats (ts.drop k)).length ≤ 10000000000)
  case atStart => exact ⟨0, L1, c, by omega, rfl, hS2, hC2, HF0, hlen0⟩
  case round =>
    clear hS1 hS2 hC2 HF0 hlen0 hput' hbt
    obtain ⟨k, M, c', hkg, rfl, hS, hC, HF, hM⟩ := hrel
    by_cases hkl : k < ts.length
    · obtain ⟨t, ht⟩ : ∃ t, ts[k]? = some t := ⟨ts[k], List.getElem?_eq_getElem hkl⟩
      have hk' : (k : Int) < (ts.length : Int) := by omega
      have hD : ts.drop k = t :: ts.drop (k + 1) := by
        obtain ⟨_, rfl⟩ := List.getElem?_eq_some_iff.1 ht
        exact List.drop_eq_getElem_cons hkl
      have hgt : GoodT t := by
        have := good_drop hg k
        rw [hD] at this
        exact this.cons.1
      have htm : t ∈ ts := List.mem_of_getElem? ht
      have hft : Tr.flats (ts.drop k) = Tr.flat t ++ Tr.flats (ts.drop (k + 1)) := by rw [hD]; simp [Tr.flats]
      have hpos := Tr.flat_pos t
      rw [hft, List.append_assoc] at hS
      rw [hft, List.length_append] at hM
      have htl := txt_len (a := 0) hgt
      have HF1 : Aside (FF = M ++ (if (k == 0) then [] else [44, 32]) ++ txt 0 t ++ (prs Lib.itoa 21 (k + 1) (ts.drop (k + 1)) ++ [93])) := by
        show _ = _
        rw [HF.out, hD, prs_cons]
        have ha : askd 21 k = 0 := by unfold askd; simp
        have hb : pcB 21 k = [44, 32] := by unfold pcB; simp
        rw [ha, hb]
        by_cases hz : k = 0 <;> simp [hz]
      have hm2 : (if (k == 0) then ([] : List UInt8) else [44, 32]).length ≤ 2 := by split <;> simp
      have hco := comma_st pb M [44, 32] (k == 0) c' _ F A B w wr hS hC hF0 (by simp; omega)
      have hM2 : (M ++ if (k == 0) then [] else [44, 32]).length + 2400 * (Tr.flat t).length ≤ 10000000000 := by rw [List.length_append]; omega
      have hN : (M ++ (if (k == 0) then [] else [44, 32]) ++ txt 0 t).length + 2 + 2400 * (Tr.flats (ts.drop (k + 1))).length ≤ 10000000000 := by
        rw [List.length_append, List.length_append]
        omega
      generalize (M ++ if (k == 0) then [] else [44, 32]) = M1 at *
      have hkid := fun W (hW : St w W pb M1 c' (Tr.flat t ++ (Tr.flats (ts.drop (k + 1)) ++ rest))) => hk t htm 0 pb M1 c' (Tr.flats (ts.drop (k + 1)) ++ rest) W W hW.now (by decide) (by decide) hM2
      clear hS hC HF hM htl hft hD hgt ht hm2 hpos hM2
      generalize M1 ++ txt 0 t = M2 at *
      have hk2 : ∀ W, St w W pb M1 c' (Tr.flat t ++ (Tr.flats (ts.drop (k + 1)) ++ rest)) → Cm W pb F A B false [44, 32] → Calls Tryz.prog 53 #[.pointer (some ⟨pb, 0, none⟩), .int .i64 0] W fun e w' => e = .returned (.tuple #[]) ∧ ∃ c2, St w w' pb M2 c2 (Tr.flats (ts.drop (k + 1)) ++ rest) ∧ Cm w' pb F A B ((k + 1) == 0) [44, 32] := by
        intro W hW hCW
        refine (hkid W hW).mono ?_
        rintro e w' ⟨rfl, c2, hS2⟩
        exact ⟨rfl, c2, hS2.from hW.wr, by simpa using hCW.kept hS2.wr⟩
      clear hkid
      go_wp2_with fail
      refine hco.mono ?_
      rintro e w3 ⟨rfl, hS3, hC3⟩
      go_wp2_with fail
      refine (hk2 w3 hS3 hC3).mono ?_
      rintro e w4 ⟨rfl, c4, hS4, hC4⟩
      go_wp2_with fail
      go_roundg (gk - 1)
      case measure => omega
      case rel => exact ⟨k + 1, M2, c4, by omega, by simp, hS4, hC4, HF1, hN⟩
    · obtain rfl : k = ts.length := by omega
      rw [List.drop_length, prs_nil] at HF
      rw [List.drop_length] at hS hM
      have hS' : St w wr pb M c' rest := by simpa [Tr.flats] using hS
      have hput := put_st pb M c' rest [[93]] w wr hS' (by simp) (by simp; omega)
      have hput' : Calls Tryz.prog 67 #[.pointer (some ⟨pb, 0, none⟩), .slice (some ⟨wr.heap.size, 0, none⟩) 1 1] (wr.alloc (.cells #[.string (S [93])] 9)) fun e w' => e = .returned (.tuple #[]) ∧ St w w' pb (M ++ [93]) c' rest := hput
      have HF2 : Aside (FF = M ++ [93]) := HF.out
      clear hput HF hS hM hS'
      generalize M ++ [93] = M2 at *
      go_wp2_with (go_at_call 67; refine hput'.mono ?_; rintro e w3 ⟨rfl, hS3⟩)
      go_end0
      exact ⟨rfl, c', HF2.out ▸ ⟨hS3.pen, hS3.nodes, hS3.low, hS3.tab, hfin.out _ hS3.wr⟩⟩
end Go.Proofs.YtpikfdkgblghhaaGreatDoor
namespace Go.Proofs.YtpikfdkgblghhaaGreatDoor
open Go.RowKit Pn
set_option maxRecDepth 100000
set_option linter.unusedSimpArgs false
set_option linter.unusedVariables false

set_option maxHeartbeats 2000000 in
theorem prefix_st (pb : Nat) (L m : List UInt8) (c : Value) (t : Tr.T) (rest : List Tr.Nd) (w0 w : World) (h : St w0 w pb L c (Tr.flat t ++ rest)) (hk : KidOk t) (hm : m.length ≤ 10)
    (hlen : L.length + 10 + 2400 * (Tr.flat t).length ≤ 10000000000) :
    Calls Tryz.prog 161 #[.pointer (some ⟨pb, 0, none⟩), .string (S m)] w (Done w0 pb (L ++ (m ++ txt 4 t)) rest) := by
  have hput := put_st pb L c _ [m] w0 w h (by simp) (by simp; omega)
  have hput' : Calls Tryz.prog 67 #[.pointer (some ⟨pb, 0, none⟩), .slice (some ⟨w.heap.size, 0, none⟩) 1 1] (w.alloc (.cells #[.string (S m)] 9)) fun e w' => e = .returned (.tuple #[]) ∧ St w0 w' pb (L ++ [m].flatten) c (Tr.flat t ++ rest) := hput
  have hkid := fun W (hW : St w0 W pb (L ++ [m].flatten) c (Tr.flat t ++ rest)) => hk 4 pb _ c rest w0 W hW (by decide) (by decide) (by simp; omega)
  have HF : Aside (L ++ [m].flatten ++ txt 4 t = L ++ (m ++ txt 4 t)) := by show _ = _; simp
  clear hput
  generalize L ++ (m ++ txt 4 t) = FF at *
  generalize L ++ [m].flatten ++ txt 4 t = M2 at *
  generalize L ++ [m].flatten = M at *
  go_enter Tryz.func161, Tryz.ntmps161
  go_wp2_with (go_at_call 67; refine hput'.mono ?_; rintro e w1 ⟨rfl, hS1⟩)
  refine (hkid w1 hS1).mono ?_
  rintro e w2 ⟨rfl, c2, hS2⟩
  go_wp2_with fail
  go_end0
  exact ⟨rfl, c2, hS2.same HF.out⟩

set_option maxHeartbeats 2000000 in
theorem infix_st (pb : Nat) (L : List UInt8) (c : Value) (k : Int) (hk7 : k = 28 ∨ k = 14 ∨ k = 15 ∨ k = 10 ∨ k = 11 ∨ k = 13 ∨ k = 12) (t1 t2 : Tr.T) (rest : List Tr.Nd) (w0 w : World) (h : St w0 w pb L c (Tr.flat t1 ++ (Tr.flat t2 ++ rest))) (hg1 : GoodT t1) (hk1 : KidOk t1) (hk2 : KidOk t2)
    (hlen : L.length + 10 + 2400 * (Tr.flat t1).length + 2400 * (Tr.flat t2).length ≤ 10000000000) :
    Calls Tryz.prog 160 #[.pointer (some ⟨pb, 0, none⟩), .int .i8 k] w (Done w0 pb (L ++ (txt (askd k 0) t1 ++ pcB k 1 ++ txt (askd k 1) t2)) rest) := by
  have ha0 : 0 ≤ askd k 0 ∧ askd k 0 ≤ 6 ∧ 0 ≤ askd k 1 ∧ askd k 1 ≤ 6 := by rcases hk7 with rfl | rfl | rfl | rfl | rfl | rfl | rfl <;> decide
  have hom : (opm k).length ≤ 2 := by rcases hk7 with rfl | rfl | rfl | rfl | rfl | rfl | rfl <;> decide
  have htl := txt_len (a := askd k 0) hg1
  have hop := operator_any k hk7
  have hkid1 := hk1 (askd k 0) pb L c _ w0 w h ha0.1 ha0.2.1 (by omega)
  have HF : Aside (L ++ (txt (askd k 0) t1 ++ pcB k 1 ++ txt (askd k 1) t2) = L ++ txt (askd k 0) t1 ++ [[32], opm k, [32]].flatten ++ txt (askd k 1) t2) := by
    show _ = _
    rw [opm_pcB hk7]; simp
  have hM1 : (L ++ txt (askd k 0) t1).length + 10 + 2400 * (Tr.flat t2).length ≤ 10000000000 := by rw [List.length_append]; omega
  generalize L ++ (txt (askd k 0) t1 ++ pcB k 1 ++ txt (askd k 1) t2) = FF at *
  generalize L ++ txt (askd k 0) t1 = M1 at *
  have hput := fun c2 W h2 => put_st pb M1 c2 (Tr.flat t2 ++ rest) [[32], opm k, [32]] w0 W h2 (by simp) (by simp; omega)
  have hM2 : (M1 ++ [[32], opm k, [32]].flatten).length + 2400 * (Tr.flat t2).length ≤ 10000000000 := by simp; omega
  generalize M1 ++ [[32], opm k, [32]].flatten = M2 at *
  have hput' : ∀ c2 W, St w0 W pb M1 c2 (Tr.flat t2 ++ rest) → Calls Tryz.prog 67 #[.pointer (some ⟨pb, 0, none⟩), .slice (some ⟨W.heap.size, 0, none⟩) 3 3] (W.alloc (.cells #[.string (S [32]), .string (S (opm k)), .string (S [32])] 9)) fun e w' => e = .returned (.tuple #[]) ∧ St w0 w' pb M2 c2 (Tr.flat t2 ++ rest) := hput
  have hkid2 := fun c2 W (hW : St w0 W pb M2 c2 (Tr.flat t2 ++ rest)) => hk2 (askd k 1) pb M2 c2 rest w0 W hW ha0.2.2.1 ha0.2.2.2 (by omega)
  generalize M2 ++ txt (askd k 1) t2 = M3 at *
  clear hput htl hM1 hM2 h
  generalize askd k 0 = a0 at *
  generalize askd k 1 = a1 at *
  generalize S (opm k) = om at *
  go_enter Tryz.func160, Tryz.ntmps160
  go_wp2_with (go_at_call 189; refine (hop _).mono ?_; rintro e w1 ⟨rfl, rfl⟩)
  refine hkid1.mono ?_
  rintro e w1 ⟨rfl, c1, hS1⟩
  go_wp2_with (go_at_call 67; refine (hput' c1 w1 hS1).mono ?_; rintro e w2 ⟨rfl, hS2⟩)
  refine (hkid2 c1 w2 hS2).mono ?_
  rintro e w3 ⟨rfl, c3, hS3⟩
  go_wp2_with fail
  go_end0
  exact ⟨rfl, c3, hS3.same HF.out.symm⟩
end Go.Proofs.YtpikfdkgblghhaaGreatDoor
namespace Go.Proofs.YtpikfdkgblghhaaGreatDoor
open Go.RowKit Pn
set_option maxRecDepth 100000
set_option linter.unusedSimpArgs false
set_option linter.unusedVariables false

namespace Pn
/-- The node's method, at one node. -/
def NodeOk (x : Tr.Nd) (ks : List Tr.T) : Prop := ∀ (pb : Nat) (L : List UInt8) (c : Value) (rest : List Tr.Nd) (w0 w : World), St w0 w pb L c (Tr.flats ks ++ rest) → L.length + 2350 + 2400 * (Tr.flats ks).length ≤ 10000000000 →
  Calls Tryz.prog 105 #[.pointer (some ⟨pb, 0, none⟩), Tr.agg x] w (Done w0 pb (L ++ pr Lib.itoa (.nd x ks)) rest)
theorem good_nice {x : Tr.Nd} {ks : List Tr.T} (h : GoodT (.nd x ks)) : Nice x ∧ x.kids = ks.length ∧ GoodTs ks := by
  have hw := h.1
  rw [Tr.wf] at hw
  exact ⟨h.2 x (by simp [Tr.flat]), hw.1, hw.2, fun y hy => h.2 y (by simp [Tr.flat, hy])⟩
theorem good_kids {x : Tr.Nd} {ks : List Tr.T} (h : GoodT (.nd x ks)) (h21 : x.kind ≠ 21) : (ks.length : Int) = Tr.arK x.kind := by
  obtain ⟨h1, h2, _⟩ := good_nice h
  have hf := (may_parts h1.1).1
  unfold Tr.fitB at hf
  rw [if_neg (by simpa using h21)] at hf
  split at hf
  · cases hf
  · simp only [Bool.and_eq_true, beq_iff_eq] at hf
    omega
theorem kids_one {x : Tr.Nd} {ks : List Tr.T} (h : GoodT (.nd x ks)) (h21 : x.kind ≠ 21) (h1 : Tr.arK x.kind = 1) : ∃ t, ks = [t] := by
  have := good_kids h h21
  match ks, this with
  | [t], _ => exact ⟨t, rfl⟩
  | [], h => simp at h; omega
  | _ :: _ :: _, h => simp at h; omega
theorem kids_two {x : Tr.Nd} {ks : List Tr.T} (h : GoodT (.nd x ks)) (h21 : x.kind ≠ 21) (h1 : Tr.arK x.kind = 2) : ∃ t u, ks = [t, u] := by
  have := good_kids h h21
  match ks, this with
  | [t, u], _ => exact ⟨t, u, rfl⟩
  | [], h => simp at h; omega
  | [_], h => simp at h; omega
  | _ :: _ :: _ :: _, h => simp at h; omega
theorem kids_three {x : Tr.Nd} {ks : List Tr.T} (h : GoodT (.nd x ks)) (h21 : x.kind ≠ 21) (h1 : Tr.arK x.kind = 3) : ∃ t u v, ks = [t, u, v] := by
  have := good_kids h h21
  match ks, this with
  | [t, u, v], _ => exact ⟨t, u, v, rfl⟩
  | [], h => simp at h; omega
  | [_], h => simp at h; omega
  | [_, _], h => simp at h; omega
  | _ :: _ :: _ :: _ :: _, h => simp at h; omega
theorem kids_none {x : Tr.Nd} {ks : List Tr.T} (h : GoodT (.nd x ks)) (h21 : x.kind ≠ 21) (h1 : Tr.arK x.kind = 0) : ks = [] := by
  have := good_kids h h21
  exact List.length_eq_zero_iff.1 (by omega)
/-- A node's cells, in a block of its own. -/
theorem box_cells (w W : World) (x : Tr.Nd) (hB : Below (w.heap.size + 1) (w.alloc (.cells (Tr.ncells x).toArray 52)) W) : ∀ i, W.cell? ⟨w.heap.size, i, none⟩ = (Tr.ncells x)[i]? := fun i => by
  have h1 := (block_cells (heap_alloc_new w (.cells (Tr.ncells x).toArray 52))).1 i
  rw [hB.cell (p := ⟨w.heap.size, i, none⟩) (by simp), h1]
  simp
end Pn

theorem around_st (pb : Nat) (L : List UInt8) (c : Value) (p0 : List UInt8) (ps0 : List (List UInt8)) (ts : List Tr.T) (rest : List Tr.Nd) (w0 w : World) (h : St w0 w pb L c (Tr.flats ts ++ rest)) (hg : GoodTs ts) (hk : ∀ t ∈ ts, KidOk t) (hl : ps0.length = ts.length) (hn : ps0.length ≤ 100)
    (hlen : L.length + (p0 :: ps0).flatten.length + 2400 * (Tr.flats ts).length ≤ 10000000000) :
    Calls Tryz.prog 159 #[.pointer (some ⟨pb, 0, none⟩), .slice (some ⟨w.heap.size, 0, none⟩) (p0 :: ps0).length (p0 :: ps0).length] (w.alloc (.cells (tcells (p0 :: ps0)).toArray 9)) (Done w0 pb (L ++ arT 0 (p0 :: ps0) ts) rest) := by
  have h1 := h.alloc (.cells (tcells (p0 :: ps0)).toArray 9)
  exact around_any pb L c _ p0 ps0 ts rest w0 _ h1 (Row.new w h.pen.lt (p0 :: ps0)) hg hk hl hn hlen
end Go.Proofs.YtpikfdkgblghhaaGreatDoor
