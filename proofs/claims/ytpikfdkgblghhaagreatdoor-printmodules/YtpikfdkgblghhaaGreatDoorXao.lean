/- How trees and modules are written: the layout of a tree's text, plain. Nothing of the program is named here. What the program's Static and Make answer. Plain functions on types: what layer 3 of the document says of two types, and of a step looser. Nothing of the program is named here. What the program's check of texts, and its settling closures, answer. What the document's TypeEnd (at any place), Parts and Note answer (layer 8's own). Regions that draw their order, whose callees make memory but hand back one value: one walk, in the text's order. Regions that draw their order, with calls that make memory: a condition on the world that grows behind each of them (S' says more than S). Reads may be taken first, in any order that the edges allow; calls, allocs, stores come up alone. As CalmV, with a last operation (number n), which waits for all the others: behind it nothing is asked of the world. -/
import Derived.Test.YtpikfdkgblghhaaGreatDoorXac
import Derived.Test.YtpikfdkgblghhaaGreatDoorXaa
import Derived.Test.YtpikfdkgblghhaaGreatDoorXaj
import Derived.Deep.CutRange
import Derived.Deep.DeepCutAuto
import Derived.Deep.RegionHeld3
import Derived.Deep.DrawnRows
import Derived.Test.YtpikfdkgblghhaaGreatDoorRows
import Derived.BigQuiet
import Derived.WalkKit
import Derived.OrdersHeld
import Derived.StillTail
namespace Go.Proofs.YtpikfdkgblghhaaGreatDoor
set_option maxRecDepth 100000
namespace Pn

/-- The words of a type, by its letters. -/
noncomputable def wdS (l : List UInt8) : List UInt8 := @dite (List UInt8) (∃ t, l = T3.Tp.enc t) (Classical.propDecidable _) (fun h => T3.Tp.wd h.choose) (fun _ => [])
theorem wdS_enc (t : T3.Tp.Ty) : wdS (T3.Tp.enc t) = T3.Tp.wd t := by
  have h : ∃ u, T3.Tp.enc t = T3.Tp.enc u := ⟨t, rfl⟩
  unfold wdS
  rw [dif_pos h, ← T3.Tp.enc_inj h.choose_spec]
/-- An annotation. -/
noncomputable def note (l : List UInt8) : List UInt8 := if l = [] then [] else [32, 58, 32] ++ wdS l
theorem note_nil : note [] = [] := by simp [note]
theorem note_enc (t : T3.Tp.Ty) : note (T3.Tp.enc t) = [32, 58, 32] ++ T3.Tp.wd t := by
  have := T3.Tp.enc_pos t
  unfold note
  rw [if_neg (by intro e; rw [e] at this; simp at this), wdS_enc]

/-- The rank of a kind. -/
def rk (k : Int) : Int :=
  if k = 5 ∨ k = 6 ∨ k = 8 ∨ k = 9 ∨ k = 28 then 0 else if k = 14 ∨ k = 15 then 1 else if k = 10 ∨ k = 11 ∨ k = 13 then 2 else if k = 12 then 3 else if k = 16 ∨ k = 27 then 4 else if k = 7 then 5 else 6
theorem rk_bd (k : Int) : 0 ≤ rk k ∧ rk k ≤ 6 := by unfold rk; repeat' split <;> omega
/-- The rank that a kind asks of its kid number j. -/
def askd (k : Int) (j : Nat) : Int :=
  if k = 28 then 1 - (j : Int) else if k = 14 ∨ k = 15 then 2 else if k = 10 ∨ k = 11 ∨ k = 13 then 2 + (j : Int) else if k = 12 then 3 + (j : Int) else if k = 16 ∨ k = 27 then 4 else if k = 7 then 5 - 5 * (j : Int) else 0

/-- What is written of a node with no kids, or ahead of the first one. -/
noncomputable def pcA (dg : Int → List UInt8) (x : Tr.Nd) : List UInt8 :=
  if x.kind = 1 then dg x.n
  else if x.kind = 2 then (Tx.quoted x.s.data.toList).getD []
  else if x.kind = 3 then (if x.n = 1 then [116, 114, 117, 101] else [102, 97, 108, 115, 101])
  else if x.kind = 4 then x.s.data.toList
  else if x.kind = 5 then [102, 110, 32, 40] ++ x.s.data.toList ++ note x.t.data.toList ++ [41] ++ note x.u.data.toList ++ [32, 61, 62, 32]
  else if x.kind = 6 then [114, 101, 99, 32] ++ (Tr.cut32 x.s.data.toList).1 ++ [32, 40] ++ (Tr.cut32 x.s.data.toList).2.1 ++ note x.t.data.toList ++ [41] ++ note x.u.data.toList ++ [32, 61, 62, 32]
  else if x.kind = 8 then [108, 101, 116, 32] ++ x.s.data.toList ++ note x.t.data.toList ++ [32, 61, 32]
  else if x.kind = 9 then [105, 102, 32]
  else if x.kind = 16 then [45]
  else if x.kind = 27 then [33]
  else if x.kind = 18 ∨ x.kind = 29 then [40]
  else if x.kind = 21 then [91]
  else if x.kind = 26 then [98, 111, 120, 40]
  else if x.kind = 17 then [115, 105, 122, 101, 40]
  else if x.kind = 19 then [102, 105, 114, 115, 116, 40]
  else if x.kind = 20 then [115, 101, 99, 111, 110, 100, 40]
  else if x.kind = 22 then [104, 101, 97, 100, 40]
  else if x.kind = 23 then [116, 97, 105, 108, 40]
  else if x.kind = 24 then [101, 109, 112, 116, 121, 40]
  else if x.kind = 25 then [99, 111, 110, 115, 40]
  else []
/-- Ahead of kid number j, from 1 on. -/
def pcB (k : Int) (j : Nat) : List UInt8 :=
  if k = 8 then [32, 105, 110, 32]
  else if k = 9 then (if j = 1 then [32, 116, 104, 101, 110, 32] else [32, 101, 108, 115, 101, 32])
  else if k = 28 then [32, 58, 61, 32]
  else if k = 14 then [32, 61, 61, 32]
  else if k = 15 then [32, 60, 32]
  else if k = 10 then [32, 43, 32]
  else if k = 11 then [32, 45, 32]
  else if k = 13 then [32, 43, 43, 32]
  else if k = 12 then [32, 42, 32]
  else if k = 7 then [40]
  else if k = 18 ∨ k = 21 ∨ k = 25 then [44, 32]
  else []
/-- Behind the last kid. -/
noncomputable def pcC (x : Tr.Nd) : List UInt8 :=
  if x.kind = 7 ∨ x.kind = 18 then [41]
  else if x.kind = 29 then note x.t.data.toList ++ [41]
  else if x.kind = 21 then [93]
  else if x.kind = 17 ∨ x.kind = 19 ∨ x.kind = 20 ∨ (22 ≤ x.kind ∧ x.kind ≤ 26) then [41]
  else []

def root : Tr.T → Tr.Nd
  | .nd x _ => x
def br (b : Bool) (s : List UInt8) : List UInt8 := if b then 40 :: (s ++ [41]) else s
mutual
/-- The text of a tree. -/
noncomputable def pr (dg : Int → List UInt8) : Tr.T → List UInt8
  | .nd x ks => pcA dg x ++ prs dg x.kind 0 ks ++ pcC x
/-- The texts of the kids from number j on. -/
noncomputable def prs (dg : Int → List UInt8) (k : Int) (j : Nat) : List Tr.T → List UInt8
  | [] => []
  | t :: r => (if j = 0 then [] else pcB k j) ++ br (decide (rk (root t).kind < askd k j)) (pr dg t) ++ prs dg k (j + 1) r
end
/-- The text of a tree that is asked for a rank. -/
noncomputable def prK (dg : Int → List UInt8) (a : Int) (t : Tr.T) : List UInt8 := br (decide (rk (root t).kind < a)) (pr dg t)
theorem prs_cons (dg : Int → List UInt8) (k : Int) (j : Nat) (t : Tr.T) (r : List Tr.T) : prs dg k j (t :: r) = (if j = 0 then [] else pcB k j) ++ prK dg (askd k j) t ++ prs dg k (j + 1) r := by
  rw [prs]; rfl
theorem pr_nd (dg : Int → List UInt8) (x : Tr.Nd) (ks : List Tr.T) : pr dg (.nd x ks) = pcA dg x ++ prs dg x.kind 0 ks ++ pcC x := by rw [pr]
theorem br_len (b : Bool) (s : List UInt8) : (br b s).length ≤ s.length + 2 := by unfold br; split <;> simp
end Pn
end Go.Proofs.YtpikfdkgblghhaaGreatDoor
namespace Go.Proofs.YtpikfdkgblghhaaGreatDoor.T3
set_option maxRecDepth 100000
open Go.RowKit

/-- A list of texts, wherever it lies. -/
def IsTexts (w : World) (v : Value) (ps : List (List UInt8)) : Prop :=
  (ps = [] ∧ ∃ a c, v = .slice a 0 c) ∨ ∃ b o c, v = .slice (some ⟨b, o, none⟩) ps.length c ∧ ps.length ≤ c ∧ b < w.heap.size ∧ ∀ j p, ps[j]? = some p → w.cell? ⟨b, o + j, none⟩ = some (.string (S p))
theorem IsTexts.own {w : World} {base : Nat} {v : Value} {ps : List (List UInt8)} (h : w.ownsRow base 9 1 v ps.length (tcells ps)) : IsTexts w v ps := by
  by_cases h0 : ps = []
  · subst h0
    obtain ⟨a, c, rfl⟩ := own_len h
    exact .inl ⟨rfl, a, c, rfl⟩
  · obtain ⟨g, cap, rfl, hc, hg, hcell⟩ := own_cells h (List.length_pos_iff.2 h0)
    have key : ∀ j p, ps[j]? = some p → w.cell? ⟨g, 0 + j, none⟩ = some (.string (S p)) := by
      intro j p hp
      have hj : j < ps.length := (List.getElem?_eq_some_iff.1 hp).1
      rw [Nat.zero_add, hcell j (by omega)]
      unfold tcells
      rw [List.getElem?_map, hp]
      rfl
    refine .inr ⟨g, 0, cap, rfl, hc, ?_, key⟩
    obtain ⟨p, r, rfl⟩ := List.exists_cons_of_ne_nil h0
    exact World.block_lt_of_cell? w _ (key 0 p rfl)
theorem IsTexts.next {w w' : World} {v : Value} {ps : List (List UInt8)} {rb : Nat} (h : IsTexts w v ps) (hg : w.grownBy w' (some rb)) (hne : ∀ b o n c, v = .slice (some ⟨b, o, none⟩) n c → b ≠ rb) : IsTexts w' v ps := by
  rcases h with h | ⟨b, o, c, rfl, h1, h2, h3⟩
  · exact .inl h
  · exact .inr ⟨b, o, c, rfl, h1, Nat.lt_of_lt_of_le h2 hg.size, fun j p hp => hg.cell (h3 j p hp) (by simpa using hne b o _ _ rfl)⟩

/-- No letter of it is ?. -/
def statB (l : List UInt8) : Bool := (Tp.chk l).1 == 0 && decide (Lib.indexByte l 63 < 0)

theorem conv_head (h : UInt8) (h128 : h.toNat < 128) (w : World) : (convert 21 9 (.int .i32 (h.toNat : Int))).run Tryz.prog w = .ok (.string (S [h])) w := by
  rw [run_convert_int_string w 21 9 .i32 _ (by kernel_rfl) (by kernel_rfl)]
  have e : Utf8.encode (h.toNat : Int) = S [h] := by
    have hv : Utf8.valid (h.toNat : Int) = true := by unfold Utf8.valid; simp; omega
    have h2 : ((h.toNat : Int)).toNat < 128 := by omega
    unfold Utf8.encode
    simp only [hv, if_true]
    rw [if_pos h2]
    simp [S]
  rw [e]

/-- How long texts are together. -/
def flen (ps : List (List UInt8)) : Nat := ps.flatten.length
theorem flen_take {ps : List (List UInt8)} {k : Nat} {q : List UInt8} (h : ps.take (k + 1) = ps.take k ++ [q]) : flen (ps.take (k + 1)) = flen (ps.take k) + q.length := by
  unfold flen; rw [h]; simp
theorem join_flat : ∀ ps : List (List UInt8), Lib.join ps [] = ps.flatten := by
  intro ps
  unfold Lib.join
  rw [List.intercalate]
  induction ps with
  | nil => rfl
  | cons a r ih =>
    cases r with
    | nil => simp
    | cons b r => rw [List.intersperse_cons_cons, List.flatten_cons, List.flatten_cons, ih]; simp
set_option maxHeartbeats 400000 in
theorem join_any (v : Value) (ps : List (List UInt8)) (w : World) (hv : IsTexts w v ps) (hp : ps.length ≤ 2) (hf : flen ps ≤ 140737488355328) :
    Calls Tryz.prog 250 #[v, .string ⟨#[]⟩] w fun e w' => e = .returned (.string (S ps.flatten)) ∧ Below w.heap.size w w' := by
  rcases hv with ⟨rfl, a, c, rfl⟩ | ⟨b, o, c, rfl, h1, h2, h3⟩
  · refine (Tryz.strings_Join_none a c _ w).mono ?_
    rintro e w' ⟨rfl, rfl⟩
    exact ⟨rfl, Below.refl _ _⟩
  · have hm : (ps.map S).map (·.data.toList) = ps := by rw [List.map_map]; exact List.map_id' _
    have hl : (ps.map S).length = ps.length := List.length_map ..
    have := Tryz.strings_Join b o c (ps.map S) ⟨#[]⟩ w (fun j x hx => by
      rw [List.getElem?_map] at hx
      obtain ⟨p, hp, rfl⟩ := Option.map_eq_some_iff.1 hx
      exact h3 j p hp) h2 (by rw [hl]; omega) (by rw [hl]; exact h1) (by rw [hm, show (⟨#[]⟩ : ByteArray).data.toList = [] from rfl, join_flat]; exact hf)
    rw [hl, hm, show (⟨#[]⟩ : ByteArray).data.toList = [] from rfl, join_flat] at this
    exact this

set_option maxHeartbeats 1000000 in
theorem make_any (h : UInt8) (v : Value) (ps : List (List UInt8)) (w : World) (hv : IsTexts w v ps) (hp : ps.length < 1152921504606846976) :
    Calls Tryz.prog 244 #[.int .u8 (h.toNat : Int), v] w fun e w' => e = .returned (.tuple #[.string (S (Tp.mkF h ps).2), .int .i64 (Tp.mkF h ps).1]) ∧ Below w.heap.size w w' := by
  obtain ⟨a, c, rfl⟩ : ∃ a c, v = .slice a ps.length c := by
    rcases hv with ⟨rfl, a, c, rfl⟩ | ⟨b, o, c, rfl, _⟩
    · exact ⟨a, c, rfl⟩
    · exact ⟨_, c, rfl⟩
  by_cases ha : Tp.ar h.toNat = ps.length
  · have hn2 : ps.length ≤ 2 := by have := (Tp.ar_bd (h.toNat : Int)).2; omega
    go_enter Tryz.func244, Tryz.ntmps244
    go_wp2_with (go_at_call 186; refine (partsOf_any _ _).mono ?_; rintro e w' ⟨rfl, hw'⟩; replace hw' := hw'.symm; subst hw')
    go_loopg [6, 18] ps.length (fun g lv t wr => wr = w ∧ ∃ k : Nat, k + g = ps.length ∧ t = .int .i64 k ∧ lv = .int .i64 ((1 + flen (ps.take k) : Nat) : Int) ∧ flen (ps.take k) ≤ 64 * k ∧ Aside (Tp.firstBad (ps.take k) = 0))
    case atStart => exact ⟨rfl, 0, by omega, rfl, rfl, by simp [flen], rfl⟩
    case round =>
      obtain ⟨rfl, k, hkg, rfl, rfl, hfl, HF⟩ := hrel
      by_cases hk : k < ps.length
      · have hk' : (k : Int) < (ps.length : Int) := by omega
        obtain ⟨b, o, c, hsl, hcap, hbl, hcell⟩ : ∃ b o c', Value.slice a ps.length c = .slice (some ⟨b, o, none⟩) ps.length c' ∧ ps.length ≤ c' ∧ b < wr.heap.size ∧ ∀ j p, ps[j]? = some p → wr.cell? ⟨b, o + j, none⟩ = some (.string (S p)) := by
          rcases hv with ⟨rfl, _⟩ | h
          · simp at hk
          · exact h
        obtain ⟨rfl, rfl⟩ : a = some ⟨b, o, none⟩ ∧ _ := by simpa using hsl
        have hck := hcell k _ (List.getElem?_eq_getElem hk)
        have HT : Aside (ps.take (k + 1) = ps.take k ++ [ps[k]]) := List.take_succ_eq_append_getElem hk
        generalize hpk : ps[k] = q at *
        clear hcell
        by_cases hq : (Tp.chk q).1 = 0
        · have hq' : (((Tp.chk (S q).data.toList).1 : Int) != 0) = false := by rw [S_list]; simpa using hq
          have HF2 : Aside (Tp.firstBad (ps.take (k + 1)) = 0) := by
            show _ = _
            rw [HT.out, Tp.firstBad_app _ _ HF.out, Tp.firstBad, if_pos hq]; rfl
          have hql : q.length ≤ 64 := by obtain ⟨t, rfl, hl⟩ := Tp.chk_dec hq; exact hl
          have hz := S_size q
          go_wp2_with (go_at_call 152; refine (check_any _ _).mono ?_; rintro e w' ⟨rfl, hw'⟩; replace hw' := hw'.symm; subst hw')
          go_roundg (gk - 1)
          case measure => omega
          case rel =>
            refine ⟨rfl, k + 1, by omega, by go_num, ?_, ?_, HF2⟩
            · rw [flen_take HT.out]
              go_num
            · rw [flen_take HT.out]
              omega
        · have hq' : (((Tp.chk (S q).data.toList).1 : Int) != 0) = true := by rw [S_list]; simpa using hq
          have HN : Aside (Tp.mkF h ps = ((Tp.chk q).1, [])) := by
            have hfb : Tp.firstBad ps = (Tp.chk q).1 := by
              have h1 : ps = ps.take k ++ (q :: ps.drop (k + 1)) := by
                rw [← hpk, ← List.drop_eq_getElem_cons hk, List.take_append_drop]
              rw [h1, Tp.firstBad_app _ _ HF.out, Tp.firstBad, if_neg hq]
            show _ = _
            rw [Tp.mk_bad ha (by rw [hfb]; exact hq), hfb]
          go_wp2_with (go_at_call 152; refine (check_any _ _).mono ?_; rintro e w' ⟨rfl, rfl⟩)
          go_ret2
          rw [HN.out]
          exact ⟨rfl, Below.refl _ _⟩
      · have hk' : decide ((k : Int) < (ps.length : Int)) = false := by simp; omega
        obtain rfl : k = ps.length := by omega
        rw [List.take_length] at hfl HF
        rw [List.take_length]
        have hv' := hv
        obtain ⟨n, hn⟩ : ∃ n, n = flen ps := ⟨_, rfl⟩
        rw [← hn] at hfl ⊢
        have HX : Aside (n = ps.flatten.length) := hn
        clear hn
        by_cases h64 : 64 < 1 + n
        · have h64' : (64 : Int) < 1 + (n : Int) := by omega
          have HN : Aside (Tp.mkF h ps = (21, [])) := Tp.mk_large ha HF.out (by rw [← HX.out]; exact h64)
          go_wp2_with fail
          go_ret2
          rw [HN.out]
          exact ⟨rfl, Below.refl _ _⟩
        · have h64' : decide ((64 : Int) < 1 + (n : Int)) = false := by simp; omega
          have HN : Aside (Tp.mkF h ps = (0, h :: ps.flatten)) := Tp.mk_ok ha HF.out (by rw [← HX.out]; exact h64)
          have h128 : h.toNat < 128 := by
            rcases Tp.ar_cases h with ⟨_, rfl | rfl | rfl | rfl⟩ | ⟨_, rfl | rfl⟩ | ⟨_, rfl | rfl⟩ | h1 <;> first | decide | omega
          have hcv := conv_head h h128
          have hw32 : wrap32 (h.toNat : Int) = h.toNat := by unfold wrap32; omega
          have hcc : S [h] ++ S ps.flatten = S (h :: ps.flatten) := by apply ByteArray.ext; simp [S]
          have hsz1 : (S [h]).size = 1 := rfl
          have hsz2 : (S ps.flatten).size = n := by rw [S_size, HX.out]
          have hj := join_any (Value.slice a ps.length c) ps wr hv' (by omega) (by unfold flen; rw [← HX.out]; omega)
          clear h64
          generalize S ps.flatten = fs at *
          go_wp2_with (go_at_call 250; refine hj.mono ?_; rintro e w' ⟨rfl, hB⟩)
          go_ret2
          rw [HN.out]
          exact ⟨rfl, hB⟩
  · have HN : Aside (Tp.mkF h ps = (1, [])) := Tp.mk_arg ha
    have ha' : (Tp.ar (h.toNat : Int) != (ps.length : Int)) = true := by simpa using ha
    go_enter Tryz.func244, Tryz.ntmps244
    go_wp2_with (go_at_call 186; refine (partsOf_any _ _).mono ?_; rintro e w' ⟨rfl, rfl⟩)
    go_ret2
    rw [HN.out]
    exact ⟨rfl, Below.refl _ _⟩
end Go.Proofs.YtpikfdkgblghhaaGreatDoor.T3
namespace Go.Proofs.YtpikfdkgblghhaaGreatDoor.T3
namespace Tp


/-- Consistent: agree wherever both are known. -/
def cns : Ty → Ty → Bool
  | .tq, _ => true
  | _, .tq => true
  | .ti, .ti => true | .tb, .tb => true | .tt, .tt => true
  | .tl a, .tl c => cns a c
  | .tx a, .tx c => cns a c
  | .tf a b, .tf c d => cns a c && cns b d
  | .tp a b, .tp c d => cns a c && cns b d
  | _, _ => false
/-- The first is at least as precise as the second. -/
def prc : Ty → Ty → Bool
  | _, .tq => true
  | .ti, .ti => true | .tb, .tb => true | .tt, .tt => true
  | .tl a, .tl c => prc a c
  | .tx a, .tx c => prc a c
  | .tf a b, .tf c d => prc a c && prc b d
  | .tp a b, .tp c d => prc a c && prc b d
  | _, _ => false
/-- The meet of consistent types. -/
def met : Ty → Ty → Ty
  | .tq, t => t
  | s, .tq => s
  | .tl a, .tl c => .tl (met a c)
  | .tx a, .tx c => .tx (met a c)
  | .tf a b, .tf c d => .tf (met a c) (met b d)
  | .tp a b, .tp c d => .tp (met a c) (met b d)
  | s, _ => s
def joi : Ty → Ty → Ty
  | .ti, .ti => .ti | .tb, .tb => .tb | .tt, .tt => .tt
  | .tl a, .tl c => .tl (joi a c)
  | .tx a, .tx c => .tx (joi a c)
  | .tf a b, .tf c d => .tf (joi a c) (joi b d)
  | .tp a b, .tp c d => .tp (joi a c) (joi b d)
  | _, _ => .tq

theorem cns_qr (s : Ty) : cns s .tq = true := by cases s <;> rfl
theorem cns_ql (s : Ty) : cns .tq s = true := by cases s <;> rfl
theorem prc_q (s : Ty) : prc s .tq = true := by cases s <;> rfl
theorem q_prc {s : Ty} (h : prc .tq s = true) : s = .tq := by cases s <;> simp [prc] at h ⊢
theorem prc_refl : ∀ s : Ty, prc s s = true
  | .ti | .tb | .tt | .tq => rfl
  | .tl a | .tx a => by simpa [prc] using prc_refl a
  | .tf a b | .tp a b => by simp [prc, prc_refl a, prc_refl b]
theorem prc_anti : ∀ {s t : Ty}, prc s t = true → prc t s = true → s = t := by
  intro s
  induction s with
  | ti | tb | tt | tq => intro t h k; cases t <;> simp [prc] at h k ⊢
  | tl a ih | tx a ih => intro t h k; cases t <;> simp [prc] at h k ⊢; exact ih h k
  | tf a b iha ihb | tp a b iha ihb => intro t h k; cases t <;> simp [prc] at h k ⊢; exact ⟨iha h.1 k.1, ihb h.2 k.2⟩
theorem prc_trans : ∀ {s t u : Ty}, prc s t = true → prc t u = true → prc s u = true := by
  intro s
  induction s with
  | ti | tb | tt | tq => intro t u h k; cases t <;> cases u <;> simp [prc] at h k ⊢
  | tl a ih | tx a ih => intro t u h k; cases t <;> cases u <;> simp [prc] at h k ⊢; exact ih h k
  | tf a b iha ihb | tp a b iha ihb => intro t u h k; cases t <;> cases u <;> simp [prc] at h k ⊢; exact ⟨iha h.1 k.1, ihb h.2 k.2⟩
theorem cns_symm : ∀ (s t : Ty), cns s t = cns t s := by
  intro s
  induction s with
  | ti | tb | tt | tq => intro t; cases t <;> rfl
  | tl a ih | tx a ih => intro t; cases t <;> simp [cns]; exact ih _
  | tf a b iha ihb | tp a b iha ihb => intro t; cases t <;> simp [cns]; rw [iha, ihb]
theorem prc_cns : ∀ {s t : Ty}, prc s t = true → cns s t = true := by
  intro s
  induction s with
  | ti | tb | tt | tq => intro t h; cases t <;> simp [prc, cns] at h ⊢
  | tl a ih | tx a ih => intro t h; cases t <;> simp [prc, cns] at h ⊢; exact ih h
  | tf a b iha ihb | tp a b iha ihb => intro t h; cases t <;> simp [prc, cns] at h ⊢; exact ⟨iha h.1, ihb h.2⟩
def sta : Ty → Bool
  | .ti | .tb | .tt => true
  | .tq => false
  | .tl a | .tx a => sta a
  | .tf a b | .tp a b => sta a && sta b
theorem cns_sta : ∀ {s t : Ty}, sta s = true → sta t = true → cns s t = decide (s = t) := by
  intro s
  induction s with
  | ti | tb | tt | tq => intro t h k; cases t <;> simp [sta, cns] at h k ⊢
  | tl a ih | tx a ih => intro t h k; cases t <;> simp [sta, cns] at h k ⊢; exact ih h k
  | tf a b iha ihb | tp a b iha ihb =>
    intro t h k
    cases t <;> simp [sta, cns] at h k ⊢
    rw [iha h.1 k.1, ihb h.2 k.2]
theorem met_symm : ∀ {s t : Ty}, cns s t = true → met s t = met t s := by
  intro s
  induction s with
  | ti | tb | tt | tq => intro t h; cases t <;> simp [cns, met] at h ⊢
  | tl a ih | tx a ih => intro t h; cases t <;> simp [cns, met] at h ⊢; exact ih h
  | tf a b iha ihb | tp a b iha ihb => intro t h; cases t <;> simp [cns, met] at h ⊢; exact ⟨iha h.1, ihb h.2⟩
theorem met_l : ∀ {s t : Ty}, cns s t = true → prc (met s t) s = true := by
  intro s
  induction s with
  | ti | tb | tt | tq => intro t h; cases t <;> simp [cns, met, prc, prc_refl] at h ⊢
  | tl a ih | tx a ih => intro t h; cases t <;> simp [cns, met, prc, prc_refl] at h ⊢; exact ih h
  | tf a b iha ihb | tp a b iha ihb => intro t h; cases t <;> simp [cns, met, prc, prc_refl] at h ⊢; exact ⟨iha h.1, ihb h.2⟩
theorem met_r {s t : Ty} (h : cns s t = true) : prc (met s t) t = true := by
  rw [met_symm h]; exact met_l (by rw [cns_symm]; exact h)
theorem met_best : ∀ {u s t : Ty}, prc u s = true → prc u t = true → cns s t = true ∧ prc u (met s t) = true := by
  intro u
  induction u with
  | ti | tb | tt | tq => intro s t h k; cases s <;> cases t <;> simp [cns, met, prc] at h k ⊢
  | tl a ih | tx a ih => intro s t h k; cases s <;> cases t <;> simp [cns, met, prc] at h k ⊢ <;> first | exact h | exact k | exact ih h k
  | tf a b iha ihb | tp a b iha ihb =>
    intro s t h k
    cases s <;> cases t <;> simp [cns, met, prc] at h k ⊢ <;> first | exact h | exact k | exact ⟨⟨(iha h.1 k.1).1, (ihb h.2 k.2).1⟩, (iha h.1 k.1).2, (ihb h.2 k.2).2⟩
theorem joi_symm : ∀ (s t : Ty), joi s t = joi t s := by
  intro s
  induction s with
  | ti | tb | tt | tq => intro t; cases t <;> rfl
  | tl a ih | tx a ih => intro t; cases t <;> simp [joi]; exact ih _
  | tf a b iha ihb | tp a b iha ihb => intro t; cases t <;> simp [joi]; exact ⟨iha _, ihb _⟩
theorem joi_l : ∀ (s t : Ty), prc s (joi s t) = true := by
  intro s
  induction s with
  | ti | tb | tt | tq => intro t; cases t <;> rfl
  | tl a ih | tx a ih => intro t; cases t <;> simp [joi, prc]; exact ih _
  | tf a b iha ihb | tp a b iha ihb => intro t; cases t <;> simp [joi, prc]; exact ⟨iha _, ihb _⟩
theorem joi_r (s t : Ty) : prc t (joi s t) = true := by rw [joi_symm]; exact joi_l t s
theorem joi_best : ∀ {s t u : Ty}, prc s u = true → prc t u = true → prc (joi s t) u = true := by
  intro s
  induction s with
  | ti | tb | tt | tq => intro t u h k; cases t <;> cases u <;> simp [joi, prc] at h k ⊢
  | tl a ih | tx a ih => intro t u h k; cases t <;> cases u <;> simp [joi, prc] at h k ⊢; exact ih h k
  | tf a b iha ihb | tp a b iha ihb => intro t u h k; cases t <;> cases u <;> simp [joi, prc] at h k ⊢; exact ⟨iha h.1 k.1, ihb h.2 k.2⟩
theorem prc_len : ∀ {s t : Ty}, prc s t = true → (enc t).length ≤ (enc s).length := by
  intro s
  induction s with
  | ti | tb | tt | tq => intro t h; cases t <;> simp [prc, enc] at h ⊢
  | tl a ih | tx a ih => intro t h; cases t <;> simp [prc, enc] at h ⊢; exact ih h
  | tf a b iha ihb | tp a b iha ihb =>
    intro t h; cases t <;> simp [prc, enc] at h ⊢
    have := iha h.1; have := ihb h.2; omega
theorem joi_len (s t : Ty) : (enc (joi s t)).length ≤ (enc s).length := prc_len (joi_l s t)

/-- All steps looser, by their place, from the left. -/
def loo : Ty → List Ty
  | .ti | .tb | .tt => [.tq]
  | .tq => []
  | .tl a => if a = .tq then [.tq] else (loo a).map .tl
  | .tx a => if a = .tq then [.tq] else (loo a).map .tx
  | .tf a b => if a = .tq ∧ b = .tq then [.tq] else (loo a).map (.tf · b) ++ (loo b).map (.tf a ·)
  | .tp a b => if a = .tq ∧ b = .tq then [.tq] else (loo a).map (.tp · b) ++ (loo b).map (.tp a ·)
/-- How much is known. -/
def kno : Ty → Nat
  | .ti | .tb | .tt => 1
  | .tq => 0
  | .tl a | .tx a => kno a + 1
  | .tf a b | .tp a b => kno a + kno b + 1
theorem kno_q {t : Ty} (h : kno t = 0) : t = .tq := by cases t <;> simp [kno] at h ⊢
theorem kno_len : ∀ t : Ty, kno t ≤ (enc t).length
  | .ti | .tb | .tt | .tq => by decide
  | .tl a | .tx a => by have := kno_len a; simp [kno, enc]; omega
  | .tf a b | .tp a b => by have := kno_len a; have := kno_len b; simp [kno, enc]; omega
theorem loo_kno : ∀ {t u : Ty}, u ∈ loo t → kno u + 1 = kno t := by
  intro t
  induction t with
  | ti | tb | tt | tq => intro u h; simp [loo] at h <;> subst h <;> rfl
  | tl a ih | tx a ih =>
    intro u h
    unfold loo at h
    split at h
    · rename_i e; subst e; simp at h; subst h; rfl
    · obtain ⟨x, hx, rfl⟩ := List.mem_map.1 h
      have := ih hx; simp [kno]; omega
  | tf a b iha ihb | tp a b iha ihb =>
    intro u h
    unfold loo at h
    split at h
    · rename_i e; obtain ⟨rfl, rfl⟩ := e; simp at h; subst h; rfl
    · rcases List.mem_append.1 h with h | h
      · obtain ⟨x, hx, rfl⟩ := List.mem_map.1 h
        have := iha hx; simp [kno]; omega
      · obtain ⟨x, hx, rfl⟩ := List.mem_map.1 h
        have := ihb hx; simp [kno]; omega
theorem loo_prc : ∀ {t u : Ty}, u ∈ loo t → prc t u = true := by
  intro t
  induction t with
  | ti | tb | tt | tq => intro u h; simp [loo] at h <;> subst h <;> rfl
  | tl a ih | tx a ih =>
    intro u h
    unfold loo at h
    split at h
    · rename_i e; subst e; simp at h; subst h; rfl
    · obtain ⟨x, hx, rfl⟩ := List.mem_map.1 h
      simpa [prc] using ih hx
  | tf a b iha ihb | tp a b iha ihb =>
    intro u h
    unfold loo at h
    split at h
    · rename_i e; obtain ⟨rfl, rfl⟩ := e; simp at h; subst h; rfl
    · rcases List.mem_append.1 h with h | h
      · obtain ⟨x, hx, rfl⟩ := List.mem_map.1 h
        simp [prc, iha hx, prc_refl]
      · obtain ⟨x, hx, rfl⟩ := List.mem_map.1 h
        simp [prc, ihb hx, prc_refl]
theorem prc_kno : ∀ {s t : Ty}, prc s t = true → kno t ≤ kno s := by
  intro s
  induction s with
  | ti | tb | tt | tq => intro t h; cases t <;> simp [prc, kno] at h ⊢
  | tl a ih | tx a ih => intro t h; cases t <;> simp [prc, kno] at h ⊢; exact ih h
  | tf a b iha ihb | tp a b iha ihb =>
    intro t h; cases t <;> simp [prc, kno] at h ⊢
    have := iha h.1; have := ihb h.2; omega
theorem loo_strict {t u : Ty} (h : u ∈ loo t) : prc u t = false := by
  cases e : prc u t with
  | false => rfl
  | true => have := prc_kno e; have := loo_kno h; omega
theorem prc_high : ∀ {s t : Ty}, prc s t = true → high t ≤ high s := by
  intro s
  induction s with
  | ti | tb | tt | tq => intro t h; cases t <;> simp [prc, high] at h ⊢
  | tl a ih | tx a ih => intro t h; cases t <;> simp [prc, high] at h ⊢; exact ih h
  | tf a b iha ihb | tp a b iha ihb =>
    intro t h; cases t <;> simp [prc, high] at h ⊢
    have := iha h.1; have := ihb h.2; omega
/-- What is not ? has a step looser. -/
theorem loo_some : ∀ {t : Ty}, t ≠ .tq → ∃ u, u ∈ loo t := by
  intro t
  induction t with
  | ti | tb | tt => intro _; exact ⟨.tq, by simp [loo]⟩
  | tq => intro h; exact absurd rfl h
  | tl a ih =>
    intro _
    by_cases e : a = .tq
    · exact ⟨.tq, by simp [loo, e]⟩
    · obtain ⟨u, hu⟩ := ih e
      exact ⟨.tl u, by simp [loo, e]; exact hu⟩
  | tx a ih =>
    intro _
    by_cases e : a = .tq
    · exact ⟨.tq, by simp [loo, e]⟩
    · obtain ⟨u, hu⟩ := ih e
      exact ⟨.tx u, by simp [loo, e]; exact hu⟩
  | tf a b iha ihb =>
    intro _
    by_cases e : a = .tq ∧ b = .tq
    · exact ⟨.tq, by simp [loo, e]⟩
    · by_cases ea : a = .tq
      · obtain ⟨u, hu⟩ := ihb (fun eb => e ⟨ea, eb⟩)
        exact ⟨.tf a u, by unfold loo; rw [if_neg e]; exact List.mem_append_right _ (List.mem_map.2 ⟨u, hu, rfl⟩)⟩
      · obtain ⟨u, hu⟩ := iha ea
        exact ⟨.tf u b, by unfold loo; rw [if_neg e]; exact List.mem_append_left _ (List.mem_map.2 ⟨u, hu, rfl⟩)⟩
  | tp a b iha ihb =>
    intro _
    by_cases e : a = .tq ∧ b = .tq
    · exact ⟨.tq, by simp [loo, e]⟩
    · by_cases ea : a = .tq
      · obtain ⟨u, hu⟩ := ihb (fun eb => e ⟨ea, eb⟩)
        exact ⟨.tp a u, by unfold loo; rw [if_neg e]; exact List.mem_append_right _ (List.mem_map.2 ⟨u, hu, rfl⟩)⟩
      · obtain ⟨u, hu⟩ := iha ea
        exact ⟨.tp u b, by unfold loo; rw [if_neg e]; exact List.mem_append_left _ (List.mem_map.2 ⟨u, hu, rfl⟩)⟩
/-- From a type a step looser leads towards each less precise one. -/
theorem loo_near : ∀ {s t : Ty}, prc s t = true → s ≠ t → ∃ u, u ∈ loo s ∧ prc u t = true := by
  intro s
  induction s with
  | ti | tb | tt | tq => intro t h hne; cases t <;> simp [prc, loo] at h hne ⊢
  | tl a ih =>
    intro t h hne
    cases t with
    | tq => obtain ⟨u, hu⟩ := loo_some (t := .tl a) (by simp); exact ⟨u, hu, prc_q u⟩
    | tl c =>
      simp [prc] at h hne
      obtain ⟨u, hu, hp⟩ := ih h hne
      have e : a ≠ .tq := by rintro rfl; simp [loo] at hu
      exact ⟨.tl u, by simp [loo, e]; exact hu, by simpa [prc] using hp⟩
    | _ => simp [prc] at h
  | tx a ih =>
    intro t h hne
    cases t with
    | tq => obtain ⟨u, hu⟩ := loo_some (t := .tx a) (by simp); exact ⟨u, hu, prc_q u⟩
    | tx c =>
      simp [prc] at h hne
      obtain ⟨u, hu, hp⟩ := ih h hne
      have e : a ≠ .tq := by rintro rfl; simp [loo] at hu
      exact ⟨.tx u, by simp [loo, e]; exact hu, by simpa [prc] using hp⟩
    | _ => simp [prc] at h
  | tf a b iha ihb =>
    intro t h hne
    cases t with
    | tq => obtain ⟨u, hu⟩ := loo_some (t := .tf a b) (by simp); exact ⟨u, hu, prc_q u⟩
    | tf c d =>
      simp [prc] at h hne
      by_cases ea : a = c
      · obtain ⟨u, hu, hp⟩ := ihb h.2 (hne ea)
        have e : ¬ (a = .tq ∧ b = .tq) := by rintro ⟨_, rfl⟩; simp [loo] at hu
        exact ⟨.tf a u, by unfold loo; rw [if_neg e]; exact List.mem_append_right _ (List.mem_map.2 ⟨u, hu, rfl⟩), by simp [prc, h.1, hp]⟩
      · obtain ⟨u, hu, hp⟩ := iha h.1 ea
        have e : ¬ (a = .tq ∧ b = .tq) := by rintro ⟨rfl, _⟩; simp [loo] at hu
        exact ⟨.tf u b, by unfold loo; rw [if_neg e]; exact List.mem_append_left _ (List.mem_map.2 ⟨u, hu, rfl⟩), by simp [prc, h.2, hp]⟩
    | _ => simp [prc] at h
  | tp a b iha ihb =>
    intro t h hne
    cases t with
    | tq => obtain ⟨u, hu⟩ := loo_some (t := .tp a b) (by simp); exact ⟨u, hu, prc_q u⟩
    | tp c d =>
      simp [prc] at h hne
      by_cases ea : a = c
      · obtain ⟨u, hu, hp⟩ := ihb h.2 (hne ea)
        have e : ¬ (a = .tq ∧ b = .tq) := by rintro ⟨_, rfl⟩; simp [loo] at hu
        exact ⟨.tp a u, by unfold loo; rw [if_neg e]; exact List.mem_append_right _ (List.mem_map.2 ⟨u, hu, rfl⟩), by simp [prc, h.1, hp]⟩
      · obtain ⟨u, hu, hp⟩ := iha h.1 ea
        have e : ¬ (a = .tq ∧ b = .tq) := by rintro ⟨rfl, _⟩; simp [loo] at hu
        exact ⟨.tp u b, by unfold loo; rw [if_neg e]; exact List.mem_append_left _ (List.mem_map.2 ⟨u, hu, rfl⟩), by simp [prc, h.2, hp]⟩
    | _ => simp [prc] at h
end Tp
end Go.Proofs.YtpikfdkgblghhaaGreatDoor.T3
namespace Go.Proofs.YtpikfdkgblghhaaGreatDoor.T3
set_option maxRecDepth 100000
open Go.RowKit

theorem toList_S (l : List UInt8) : (S l).toList = l := by rw [ByteArray.toList_eq]; rfl
namespace Tp
def isq (t : Ty) : Bool := decide (t = .tq)
theorem isq_S (t : Ty) : ((S (enc t)).toList == [63]) = isq t := by
  rw [toList_S]
  cases t <;> simp [enc, isq]
end Tp

end Go.Proofs.YtpikfdkgblghhaaGreatDoor.T3
namespace Go.Proofs.YtpikfdkgblghhaaGreatDoor.T3
open Go.RowKit
set_option maxRecDepth 100000
set_option linter.unusedSimpArgs false

set_option maxHeartbeats 1000000 in
theorem typeEnd_at (s : ByteArray) (hs : s.size ≤ 64) (k n : Nat) (hb : Tp.beh (s.data.toList.drop k) 1 = (n, true)) (w : World) :
    Calls Tryz.prog 117 #[.string s, .int .i64 k] w fun e w' => e = .returned (.int .i64 ((k + n : Nat) : Int)) ∧ w' = w := by
  have HL : Aside (s.data.toList.length = s.size) := str_len s
  have HB : Aside (Tp.beh (s.data.toList.drop k) 1 = (n, true)) := hb
  have HJ : k < s.size := by have := (beh_true hb).1; rw [HL.out] at this; exact this
  clear hb
  go_enter Tryz.func117, Tryz.ntmps117
  go_wp2_with fail
  go_loopg [1, 5] n (fun g t mv wr => wr = w ∧ ∃ j m : Nat, t = .int .i64 j ∧ mv = .int .i64 m ∧ j + g = k + n ∧ m ≤ j + 1 ∧ j ≤ s.size ∧ Aside (Tp.beh (s.data.toList.drop j) m = (g, true)))
  case atStart => exact ⟨rfl, k, 1, rfl, rfl, by omega, by omega, by omega, HB⟩
  case round =>
    obtain ⟨rfl, j, m, rfl, rfl, hjg, hmj, hjs, HS⟩ := hrel
    cases m with
    | zero =>
      have hg : gk = 0 := by have := HS.out; rw [Tp.beh_zero] at this; exact (Prod.mk.inj this).1.symm
      obtain rfl : j = k + n := by omega
      go_wp2_with fail
      go_ret
      exact ⟨rfl, rfl⟩
    | succ m =>
      obtain ⟨hj, ha, n', rfl, h2⟩ := beh_true HS.out
      rw [HL.out] at hj
      have hj' : (j : Int) < (s.size : Int) := by omega
      have hj2 : decide ((s.size : Int) ≤ (j : Int)) = false := by simp; omega
      have hBk := str_B s j hj
      have hj0 : (0 : Int) ≤ (j : Int) := by omega
      have hm0 : (0 : Int) < (((m + 1 : Nat) : Int)) := by omega
      have H2 : Aside (Tp.beh (s.data.toList.drop (j + 1)) (m + (Tp.ar (Tp.B s.data.toList j)).toNat) = (n', true)) := h2
      clear h2 HS
      generalize Tp.B s.data.toList j = c at *
      go_wp2_with fail
      all_goals first
        | (go_ret
           have hn : Tp.ar c < 0 := by unfold Tp.ar; simp_all
           omega)
        | skip
      all_goals
        go_roundg n'
        case measure => omega
        case rel =>
          first
            | (have ha0 : Tp.ar c = 0 := by unfold Tp.ar; simp_all
               have := H2.out
               rw [ha0] at this
               exact ⟨rfl, j + 1, m, by go_num, by go_num, by omega, by omega, by omega, this⟩)
            | (have ha0 : Tp.ar c = 1 := by unfold Tp.ar; simp_all
               have := H2.out
               rw [ha0] at this
               exact ⟨rfl, j + 1, m + 1, by go_num, by go_num, by omega, by omega, by omega, this⟩)
            | (have ha0 : Tp.ar c = 2 := by unfold Tp.ar; simp_all
               have := H2.out
               rw [ha0] at this
               exact ⟨rfl, j + 1, m + 2, by go_num, by go_num, by omega, by omega, by omega, this⟩)

end Go.Proofs.YtpikfdkgblghhaaGreatDoor.T3
namespace Go.Proofs.YtpikfdkgblghhaaGreatDoor
/-- The worlds that meet S, as a type: so a fact of all of them is a rule without a condition. -/
structure Cls (S : World → Prop) where
  w : World
  h : S w
theorem wp_region_calm {P : Program} (S : World → Prop) {id : Nat} {Q : Exit → Act → World → Prop} {a : Act} {w : World} {l : List Oper} (hm : P.follows .mixedOrders = true) (hB : Region.lexB .any l.toArray = true) (h0 : S w.drew)
    (h : wpQuiet P l.toArray (fun w' => ∃ x : Cls S, w' = x.w) (fun a' => ∀ w', (∃ x : Cls S, w' = x.w) → Q .normal a' w') l a) : (Code.region id l.toArray true).wp P Q a w :=
  wp_region_quiet (C := fun w' => ∃ x : Cls S, w' = x.w) hm hB ⟨⟨w.drew, h0⟩, rfl⟩ (by simpa using h)
theorem calls_calm {P : Program} {f : FuncId} {args : Array Value} {S : World → Prop} {W : World} {v : Value} (h : Calls P f args W fun e w' => e = .returned v ∧ S w') : Calls P f args W fun e w' => e = .returned v ∧ ∃ x : Cls S, w' = x.w :=
  h.mono fun _ w' ⟨he, hs⟩ => ⟨he, ⟨w', hs⟩, rfl⟩
end Go.Proofs.YtpikfdkgblghhaaGreatDoor
namespace Go.Proofs.YtpikfdkgblghhaaGreatDoor.V
/-- Operations that hand back a value at once (no call). -/
def readsB (o : Oper) : Bool :=
  match o.op with
  | .move _ | .assign _ | .load _ _ | .fieldAddr _ _ _ | .field _ _ _ | .indexAddr _ _ _ | .index _ _ _ | .binOp _ _ _ _ _ | .unOp _ _ _ | .convert _ _ _ | .extract _ _ | .nilCheck _ | .typeAssert _ _ _ _ | .makeInterface _ _ | .build _ _ | .slice _ _ _ _ _ | .pick _ _ _ | .lookup _ _ _ _ | .makeFunc _ _ _ => true
  | _ => false
theorem value_only {P : Program} {s : Sem Value} {w w' : World} {n : Next} (h : (do let x ← s; pure (Next.value x) : Sem Next).run P w = .ok n w') : ∃ v, n = .value v := by
  rw [Sem.run_bind] at h
  generalize s.run P w = r at h
  cases r with
  | ok a w1 => simp only [Sem.run_pure] at h; cases h; exact ⟨_, rfl⟩
  | halt x w1 => cases h
theorem nil_value {P : Program} {t : TypeId} {u : Value} {name : String} {first captured : Array Value} {why : Unsupported} {w w' : World} {n : Next}
    (h : (do if (← nilAhead ((← program).types.size + Made.depth) t u name) != some false then unsupported why
             pure (Next.value (.func (.method name) first captured)) : Sem Next).run P w = .ok n w') : ∃ v, n = .value v := by
  simp only [Sem.run_bind] at h
  generalize (program : Sem Program).run P w = r0 at h
  cases r0 with
  | halt x w1 => cases h
  | ok p w1 =>
    simp only [Result.andThen] at h
    generalize (nilAhead (p.types.size + Made.depth) t u name).run P w1 = r1 at h
    cases r1 with
    | halt x w2 => cases h
    | ok q w2 =>
      simp only at h
      split at h
      · cases h
      · simp only [Sem.run_pure] at h; cases h; exact ⟨_, rfl⟩
theorem reads_value {P : Program} {o : Oper} (ho : readsB o = true) (ρ : Operand → Value) {w w' : World} {n : Next} (h : (execOp ρ o).run P w = .ok n w') : ∃ v, n = .value v := by
  obtain ⟨d, op, g, t, p, q⟩ := o
  unfold execOp at h
  cases op
  case nilCheck x =>
    simp only at h
    split at h
    all_goals first
      | (simp only [Sem.run_pure] at h; cases h; exact ⟨_, rfl⟩)
      | (cases h; done)
      | skip
    all_goals (split at h)
    all_goals first
      | (simp only [Sem.run_pure] at h; cases h; exact ⟨_, rfl⟩)
      | (cases h; done)
      | exact nil_value h
  case pick c a b =>
    rw [Sem.run_bind] at h
    generalize (asBool (ρ c)).run P w = r at h
    cases r with
    | ok a w1 => cases h; exact ⟨_, rfl⟩
    | halt x w1 => cases h
  all_goals first
    | exact value_only h
    | (exfalso; simp [readsB] at ho; done)
    | (simp only [Sem.run_pure] at h; cases h; exact ⟨_, rfl⟩)
theorem quiet_value {P : Program} {o : Oper} {a : Act} {C : World → Prop} {w : World} {v : Value} (ho : readsB o = true) (h : o.quietAt P a C w v) : (execOp a.eval o).run P w = .ok (.value v) w := by
  unfold Oper.quietAt at h
  have h1 := fun n w' => reads_value (P := P) ho a.eval (w := w) (w' := w') (n := n)
  generalize (execOp a.eval o).run P w = r at *
  cases r with
  | ok n w' =>
    obtain ⟨u, rfl⟩ := h1 _ _ rfl
    obtain ⟨rfl, rfl⟩ := h
    rfl
  | halt x w' => simp only [Oper.quietUpon] at h
theorem quiet_yieldsIf {P : Program} {ops : Array Oper} {o : Oper} {a : Act} {S : World → Prop} {v : Value} (ho : readsB o = true) (h : YieldsIn P ops (fun w' => ∃ x : Cls S, w' = x.w) o v a) : YieldsIf P ops S o v a :=
  h.imp (fun ⟨hw, hq⟩ => ⟨hw, fun w hS => quiet_value ho (hq w ⟨⟨w, hS⟩, rfl⟩)⟩) id
section
variable {P : Program} {ops : Array Oper} {md : Region.Mode} {Q : Exit → Act → World → Prop} {S : World → Prop}
/-- What holds behind an operation, in the place of the region's own end. -/
def midQ (Q : Exit → Act → World → Prop) (K : Act → World → Prop) : Exit → Act → World → Prop
  | .normal, a, w => K a w
  | e, a, w => Q e a w
theorem wp_midQ {o : Oper} {a : Act} {w : World} {K : Act → World → Prop} (h : o.wp P a w (fun a' w' => midQ Q K .normal a' w') (midQ Q K)) : o.wp P a w K Q := by
  unfold Oper.wp at *
  generalize (execOp a.eval o).run P w = r at *
  cases r with
  | ok n w' =>
    cases n <;> simp only [Oper.upon, midQ] at h ⊢ <;>
      first
        | exact h
        | exact Calls.mono h (fun e w'' he => by cases e <;> exact he)
        | exact Rows.mono h (fun _ _ he => he)
  | halt x w' => cases x <;> simp only [Oper.upon, midQ] at h ⊢ <;> exact h
theorem wpOp_of_mid {i : Nat} {o : Oper} {a : Act} {w : World} {K : Act → World → Prop} (hi : ops[i]? = some o) (h : wpList P ops (midQ Q K) [o] a w) : wpOp P ops Q i K a w := by
  unfold wpOp
  simp only [hi]
  unfold wpList at h
  split at h
  · rename_i hw
    simp only [hw, if_true]
    refine h.imp (fun h => wp_midQ h) (fun h => ⟨h.1, ?_⟩)
    obtain ⟨a, w, h⟩ := h.2
    exact ⟨a, w, h⟩
  · rename_i hw
    simp only [hw]
    exact h
/-- Whatever order is picked from here on; S holds behind each operation, and may be said more of (S') from then on. -/
def wpAnyV (P : Program) (md : Region.Mode) (ops : Array Oper) (Q : Exit → Act → World → Prop) : (World → Prop) → Nat → Array Bool → Act → World → Prop
  | _, 0, d, a, w => Region.ready md ops d = [] ∧ Q .normal a w
  | S, f + 1, d, a, w => (Region.ready md ops d = [] → Q .normal a w) ∧
    ∀ i ∈ Region.ready md ops d, wpOp P ops Q i (fun a' w' => ∃ S' : World → Prop, (∀ W, S' W → S W) ∧ S' w' ∧ wpAnyV P md ops Q S' f (d.setIfInBounds i true) a' w') a w
theorem wpAnyV.any : ∀ (f : Nat) (S : World → Prop) (d : Array Bool) (a : Act) (w : World), wpAnyV P md ops Q S f d a w → wpAny P md ops Q f d a w
  | 0, _, _, _, _, h => h
  | f + 1, _, _, _, _, h => ⟨h.1, fun i hi => wpOp_mono (fun a' w' ⟨S', _, _, h'⟩ => wpAnyV.any f S' _ a' w' h') (h.2 i hi)⟩
theorem YieldsIf.less {o : Oper} {v : Value} {a : Act} {S' : World → Prop} (h : YieldsIf P ops S o v a) (hs : ∀ W, S' W → S W) : YieldsIf P ops S' o v a :=
  h.imp (fun ⟨hw, hv⟩ => ⟨hw, fun w hS => hv w (hs w hS)⟩) id
theorem wpAnyV.first {i : Nat} {o : Oper} {v : Value} (hi : ops[i]? = some o) (hsel : ∀ (j : Nat) (o : Oper) cs b, ops[j]? = some o → o.op ≠ .select cs b)
    (hQ : ∀ c a w, Q (.panic c) (a.put o.dst v) w → Q (.panic c) a w) :
    ∀ (f : Nat) (S : World → Prop) (d : Array Bool) (a : Act) (w : World),
      (∀ j oj, ops[j]? = some oj → j ≠ i → d.getD j true = false → (∀ e ∈ oj.after, Region.binds md e = true → e.on ≠ i) → o.apart ops oj = true) →
      i ∈ Region.ready md ops d → YieldsIf P ops S o v a → S w → wpAnyV P md ops Q S f (d.setIfInBounds i true) (a.put o.dst v) w → wpAnyV P md ops Q S (f + 1) d a w := by
  intro f
  induction f with
  | zero =>
    intro S d a w _ hr hy hS H
    refine ⟨fun h => (by rw [h] at hr; cases hr), fun j hj => ?_⟩
    by_cases e : j = i
    · subst e; exact hy.wpOp hi hS ⟨S, fun _ h => h, hS, H⟩
    · have := ready_mono hj e
      rw [H.1] at this
      cases this
  | succ f ih =>
    intro S d a w hfree hr hy hS H
    refine ⟨fun h => (by rw [h] at hr; cases hr), fun j hj => ?_⟩
    by_cases e : j = i
    · subst e; exact hy.wpOp hi hS ⟨S, fun _ h => h, hS, H⟩
    · obtain ⟨hjun, oj, hoj, hall⟩ := mem_ready.1 hj
      have hno : ∀ e ∈ oj.after, Region.binds md e = true → e.on ≠ i := fun e he hb heq => by
        have h1 := hall e he hb
        have h0 := (mem_ready.1 hr).1
        rw [heq] at h1
        rcases Nat.lt_or_ge i d.size with h' | h'
        · simp [h'] at h0 h1; rw [h0] at h1; cases h1
        · simp [Array.getElem?_eq_none h'] at h1
      have h2 := wpOp_putIf hoj (hfree j oj hoj e hjun hno) (fun cs b => hsel i o cs b hi) (fun cs b => hsel j oj cs b hoj) hQ hy (H.2 j (ready_mono hj e))
      refine wpOp_mono (fun a' w' h3 => ?_) h2
      obtain ⟨hy', S', hs, hS', h4⟩ := h3
      refine ⟨S', hs, hS', ih S' (d.setIfInBounds j true) a' w' (fun k ok hk hki hku hkn => hfree k ok hk hki ?_ hkn) (ready_mono hr (Ne.symm e)) (YieldsIf.less hy' hs) hS' ?_⟩
      · by_cases q : j = k
        · subst q; exact hjun
        · rwa [getD_set_ne true q] at hku
      · rw [Array.setIfInBounds_comm _ _ e]
        exact h4
/-- What stands listed behind these. -/
def listed : List Nat → Array Bool → Array Bool
  | [], d => d
  | k :: r, d => listed r (d.setIfInBounds k true)
/-- May these be taken first, one behind the other? -/
def takesB (md : Region.Mode) (ops : Array Oper) : List Nat → Array Bool → Bool
  | [], _ => true
  | k :: r, d => (Region.ready md ops d).contains k && Region.free md ops d k && (match ops[k]? with | some o => readsB o | none => false) && takesB md ops r (d.setIfInBounds k true)
/-- These operations. -/
def pickL (ops : Array Oper) (ks : List Nat) : List Oper := ks.filterMap fun k => ops[k]?
theorem wpAnyV.quiet (hsel : Region.noSelect ops = true) (hQ : ∀ (o : Oper) v c a w, Q (.panic c) (a.put o.dst v) w → Q (.panic c) a w) {S : World → Prop} {w : World} (hS : S w) (ks : List Nat) :
    ∀ (f : Nat) (d : Array Bool) (a : Act), takesB md ops ks d = true →
      wpQuiet P ops (fun w' => ∃ x : Cls S, w' = x.w) (fun a' => wpAnyV P md ops Q S f (listed ks d) a' w) (pickL ops ks) a → wpAnyV P md ops Q S (f + ks.length) d a w := by
  induction ks with
  | nil => intro f d a _ h; exact h
  | cons k r ih =>
    intro f d a hB h
    simp only [takesB, Bool.and_eq_true] at hB
    obtain ⟨⟨⟨hr, hf⟩, hrd⟩, hB'⟩ := hB
    cases h0 : ops[k]? with
    | none => rw [h0] at hrd; cases hrd
    | some o =>
      rw [h0] at hrd
      have hp : pickL ops (k :: r) = o :: pickL ops r := by simp [pickL, h0]
      rw [hp] at h
      have hr' : k ∈ Region.ready md ops d := by simpa using hr
      have hq : qOp P ops (fun w' => ∃ x : Cls S, w' = x.w) k (wpQuiet P ops (fun w' => ∃ x : Cls S, w' = x.w) (fun a' => wpAnyV P md ops Q S f (listed (k :: r) d) a' w) (pickL ops r)) a := by unfold qOp; simp only [h0]; exact h
      obtain ⟨v, hy, hK⟩ := yieldsIn_of_qOp h0 hq
      exact wpAnyV.first h0 (Region.noSelect_spec hsel) (fun c a w => hQ o v c a w) _ S d a w (Region.free_spec h0 hf) hr' (quiet_yieldsIf hrd hy) hS (ih f _ _ hB' hK)
/-- One operation that comes up alone; behind it more may be said of the world. -/
theorem wpAnyV.event (k : Nat) {f : Nat} {d : Array Bool} {a : Act} {w : World} {o : Oper} (hr : Region.ready md ops d = [k]) (h0 : ops[k]? = some o)
    (h : wpList P ops (midQ Q fun a' w' => ∃ S' : World → Prop, (∀ W, S' W → S W) ∧ S' w' ∧ wpAnyV P md ops Q S' f (d.setIfInBounds k true) a' w') [o] a w) : wpAnyV P md ops Q S (f + 1) d a w := by
  refine ⟨fun h1 => (by rw [h1] at hr; cases hr), fun i hi => ?_⟩
  rw [hr] at hi
  obtain rfl : i = k := by simpa using hi
  exact wpOp_of_mid h0 h
theorem wpAnyV.done {f : Nat} {d : Array Bool} {a : Act} {w : World} (hr : Region.ready md ops d = []) (h : Q .normal a w) : wpAnyV P md ops Q S f d a w := by
  cases f with
  | zero => exact ⟨hr, h⟩
  | succ f => exact ⟨fun _ => h, fun i hi => (by rw [hr] at hi; cases hi)⟩
end
/-- The beginning. -/
theorem wp_region_V {P : Program} (S : World → Prop) {id : Nat} {Q : Exit → Act → World → Prop} {a : Act} {w : World} {l : List Oper} (hm : P.follows .mixedOrders = true)
    (h : wpAnyV P .any l.toArray (NoPanic Q) S l.length (Array.replicate l.length false) a w.drew) : (Code.region id l.toArray true).wp P Q a w := by
  refine wp_region_noPanic (wp_region_any hm ?_)
  have := wpAnyV.any _ _ _ _ _ h
  simpa using this
end Go.Proofs.YtpikfdkgblghhaaGreatDoor.V
namespace Go.Proofs.YtpikfdkgblghhaaGreatDoor.V
section
variable {P : Program} {ops : Array Oper} {md : Region.Mode} {Q : Exit → Act → World → Prop} {S : World → Prop}
/-- Does n wait for all the others (for some of them by way of others)? -/
def lastB (md : Region.Mode) (ops : Array Oper) (n : Nat) : Bool := decide (n + 1 = ops.size) && Region.sinkB md ops n && Region.chainB md ops n
theorem last_waits {n i : Nat} {d : Array Bool} (h : lastB md ops n = true) (inv : HeadInv md ops n d) (hi : i < n) (hd : d.getD i true = false) : n ∉ Region.ready md ops d := by
  simp only [lastB, Bool.and_eq_true, decide_eq_true_eq] at h
  exact tail_waits h.1.2 h.2 (by omega) inv _ i rfl hi hd n (Nat.le_refl _)
theorem head0 {l : List Oper} (n : Nat) : HeadInv .any l.toArray n (Array.replicate l.length false) :=
  ⟨by simp, fun j oj _ hl => (by rw [getD_replicate_false] at hl; cases hl), fun t _ h => getD_in (by simpa using h) (getD_replicate_false _ _)⟩
/-- Whatever order is picked from here on; S holds behind each operation but the last one, and may be said more of from then on. -/
def wpAnyW (P : Program) (md : Region.Mode) (ops : Array Oper) (Q : Exit → Act → World → Prop) (n : Nat) : (World → Prop) → Nat → Array Bool → Act → World → Prop
  | _, 0, d, a, w => Region.ready md ops d = [] ∧ Q .normal a w
  | S, f + 1, d, a, w => (Region.ready md ops d = [] → Q .normal a w) ∧
    ∀ i ∈ Region.ready md ops d, (i = n → wpOp P ops Q i (fun a' w' => Region.ready md ops (d.setIfInBounds i true) = [] ∧ Q .normal a' w') a w) ∧ (i ≠ n → wpOp P ops Q i (fun a' w' => ∃ S' : World → Prop, (∀ W, S' W → S W) ∧ S' w' ∧ wpAnyW P md ops Q n S' f (d.setIfInBounds i true) a' w') a w)
theorem wpAny_end {f : Nat} {d : Array Bool} {a : Act} {w : World} (hr : Region.ready md ops d = []) (h : Q .normal a w) : wpAny P md ops Q f d a w := by
  cases f with
  | zero => exact ⟨hr, h⟩
  | succ f => exact ⟨fun _ => h, fun i hi => (by rw [hr] at hi; cases hi)⟩
theorem wpAnyW.any {n : Nat} : ∀ (f : Nat) (S : World → Prop) (d : Array Bool) (a : Act) (w : World), wpAnyW P md ops Q n S f d a w → wpAny P md ops Q f d a w
  | 0, _, _, _, _, h => h
  | f + 1, _, _, _, _, h => ⟨h.1, fun i hi => by
    by_cases e : i = n
    · exact wpOp_mono (fun a' w' ⟨h1, h2⟩ => wpAny_end h1 h2) ((h.2 i hi).1 e)
    · exact wpOp_mono (fun a' w' ⟨S', _, _, h'⟩ => wpAnyW.any f S' _ a' w' h') ((h.2 i hi).2 e)⟩
theorem wpAnyW.first {n i : Nat} {o : Oper} {v : Value} (hi : ops[i]? = some o) (hin : i < n) (hlast : lastB md ops n = true) (hsel : ∀ (j : Nat) (o : Oper) cs b, ops[j]? = some o → o.op ≠ .select cs b)
    (hQ : ∀ c a w, Q (.panic c) (a.put o.dst v) w → Q (.panic c) a w) :
    ∀ (f : Nat) (S : World → Prop) (d : Array Bool) (a : Act) (w : World), HeadInv md ops n d →
      (∀ j oj, ops[j]? = some oj → j ≠ i → d.getD j true = false → (∀ e ∈ oj.after, Region.binds md e = true → e.on ≠ i) → o.apart ops oj = true) →
      i ∈ Region.ready md ops d → YieldsIf P ops S o v a → S w → wpAnyW P md ops Q n S f (d.setIfInBounds i true) (a.put o.dst v) w → wpAnyW P md ops Q n S (f + 1) d a w := by
  intro f
  have hne : i ≠ n := by omega
  induction f with
  | zero =>
    intro S d a w inv _ hr hy hS H
    refine ⟨fun h => (by rw [h] at hr; cases hr), fun j hj => ?_⟩
    by_cases e : j = i
    · subst e
      exact ⟨fun e => absurd e hne, fun _ => hy.wpOp hi hS ⟨S, fun _ h => h, hS, H⟩⟩
    · have := ready_mono hj e
      rw [H.1] at this
      cases this
  | succ f ih =>
    intro S d a w inv hfree hr hy hS H
    refine ⟨fun h => (by rw [h] at hr; cases hr), fun j hj => ?_⟩
    by_cases e : j = i
    · subst e
      exact ⟨fun e => absurd e hne, fun _ => hy.wpOp hi hS ⟨S, fun _ h => h, hS, H⟩⟩
    · refine ⟨fun en => ?_, fun jn => ?_⟩
      · subst en
        exact absurd hj (last_waits hlast inv hin (mem_ready.1 hr).1)
      · obtain ⟨hjun, oj, hoj, hall⟩ := mem_ready.1 hj
        have hjn' : j < n := by
          have h1 := (Array.getElem?_eq_some_iff.1 hoj).1
          have h2 : n + 1 = ops.size := by simp only [lastB, Bool.and_eq_true, decide_eq_true_eq] at hlast; exact hlast.1.1
          omega
        have hno : ∀ e ∈ oj.after, Region.binds md e = true → e.on ≠ i := fun e he hb heq => by
          have h1 := hall e he hb
          have h0 := (mem_ready.1 hr).1
          rw [heq] at h1
          rcases Nat.lt_or_ge i d.size with h' | h'
          · simp [h'] at h0 h1; rw [h0] at h1; cases h1
          · simp [Array.getElem?_eq_none h'] at h1
        have h2 := wpOp_putIf hoj (hfree j oj hoj e hjun hno) (fun cs b => hsel i o cs b hi) (fun cs b => hsel j oj cs b hoj) hQ hy ((H.2 j (ready_mono hj e)).2 jn)
        refine wpOp_mono (fun a' w' h3 => ?_) h2
        obtain ⟨hy', S', hs, hS', h4⟩ := h3
        refine ⟨S', hs, hS', ih S' (d.setIfInBounds j true) a' w' (inv.set hj hjn') (fun k ok hk hki hku hkn => hfree k ok hk hki ?_ hkn) (ready_mono hr (Ne.symm e)) (YieldsIf.less hy' hs) hS' ?_⟩
        · by_cases q : j = k
          · subst q; exact hjun
          · rwa [getD_set_ne true q] at hku
        · rw [Array.setIfInBounds_comm _ _ e]
          exact h4
theorem wpAnyW.quiet {n : Nat} (hlast : lastB md ops n = true) (hsel : Region.noSelect ops = true) (hQ : ∀ (o : Oper) v c a w, Q (.panic c) (a.put o.dst v) w → Q (.panic c) a w) {S : World → Prop} {w : World} (hS : S w) (ks : List Nat) (hks : ks.all (fun k => decide (k < n)) = true) :
    ∀ (f : Nat) (d : Array Bool) (a : Act), HeadInv md ops n d → takesB md ops ks d = true →
      wpQuiet P ops (fun w' => ∃ x : Cls S, w' = x.w) (fun a' => wpAnyW P md ops Q n S f (listed ks d) a' w) (pickL ops ks) a → wpAnyW P md ops Q n S (f + ks.length) d a w := by
  induction ks with
  | nil => intro f d a _ _ h; exact h
  | cons k r ih =>
    intro f d a inv hB h
    simp only [List.all_cons, Bool.and_eq_true, decide_eq_true_eq] at hks
    simp only [takesB, Bool.and_eq_true] at hB
    obtain ⟨⟨⟨hr, hf⟩, hrd⟩, hB'⟩ := hB
    cases h0 : ops[k]? with
    | none => rw [h0] at hrd; cases hrd
    | some o =>
      rw [h0] at hrd
      have hp : pickL ops (k :: r) = o :: pickL ops r := by simp [pickL, h0]
      rw [hp] at h
      have hr' : k ∈ Region.ready md ops d := by simpa using hr
      have hq : qOp P ops (fun w' => ∃ x : Cls S, w' = x.w) k (wpQuiet P ops (fun w' => ∃ x : Cls S, w' = x.w) (fun a' => wpAnyW P md ops Q n S f (listed (k :: r) d) a' w) (pickL ops r)) a := by unfold qOp; simp only [h0]; exact h
      obtain ⟨v, hy, hK⟩ := yieldsIn_of_qOp h0 hq
      exact wpAnyW.first h0 hks.1 hlast (Region.noSelect_spec hsel) (fun c a w => hQ o v c a w) _ S d a w inv (Region.free_spec h0 hf) hr' (quiet_yieldsIf hrd hy) hS (ih hks.2 f _ _ (inv.set hr' hks.1) hB' hK)
/-- One operation that comes up alone; behind it more may be said of the world. -/
theorem wpAnyW.event {n : Nat} (k : Nat) (hk : k ≠ n) {f : Nat} {d : Array Bool} {a : Act} {w : World} {o : Oper} (hr : Region.ready md ops d = [k]) (h0 : ops[k]? = some o)
    (h : wpList P ops (midQ Q fun a' w' => ∃ S' : World → Prop, (∀ W, S' W → S W) ∧ S' w' ∧ wpAnyW P md ops Q n S' f (d.setIfInBounds k true) a' w') [o] a w) : wpAnyW P md ops Q n S (f + 1) d a w := by
  refine ⟨fun h1 => (by rw [h1] at hr; cases hr), fun i hi => ?_⟩
  rw [hr] at hi
  obtain rfl : i = k := by simpa using hi
  exact ⟨fun e => absurd e hk, fun _ => wpOp_of_mid h0 h⟩
/-- The last one. -/
theorem wpAnyW.last {n : Nat} {f : Nat} {d : Array Bool} {a : Act} {w : World} {o : Oper} (hr : Region.ready md ops d = [n]) (h0 : ops[n]? = some o) (hd : Region.ready md ops (d.setIfInBounds n true) = [])
    (h : wpList P ops (midQ Q fun a' w' => Q .normal a' w') [o] a w) : wpAnyW P md ops Q n S (f + 1) d a w := by
  refine ⟨fun h1 => (by rw [h1] at hr; cases hr), fun i hi => ?_⟩
  rw [hr] at hi
  obtain rfl : i = n := by simpa using hi
  exact ⟨fun _ => wpOp_mono (fun a' w' h => ⟨hd, h⟩) (wpOp_of_mid h0 h), fun e => absurd rfl e⟩
end
/-- The beginning. -/
theorem wp_region_W {P : Program} (S : World → Prop) (n : Nat) {id : Nat} {Q : Exit → Act → World → Prop} {a : Act} {w : World} {l : List Oper} (hm : P.follows .mixedOrders = true)
    (h : wpAnyW P .any l.toArray (NoPanic Q) n S l.length (Array.replicate l.length false) a w.drew) : (Code.region id l.toArray true).wp P Q a w := by
  refine wp_region_noPanic (wp_region_any hm ?_)
  have := wpAnyW.any _ _ _ _ _ h
  simpa using this
end Go.Proofs.YtpikfdkgblghhaaGreatDoor.V
