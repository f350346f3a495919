/- What the program's Static and Make answer. The program's parser in memory: its tokens, its place among them, its limits; what its reader answers. What the program's parser reads as types. -/
import Derived.Test.YtohjfikjbeafiaaGreatDoorGaf
import Derived.Test.YtohjfikjbeafiaaGreatDoorGab
import Derived.Maps.Own
namespace Go.Proofs.YtohjfikjbeafiaaGreatDoor.T2
open Go.RowKit

/-- A list of texts, wherever it lies. -/
def IsTexts (w : World) (v : Value) (ps : List (List UInt8)) : Prop :=
  (ps = [] ∧ ∃ a c, v = .slice a 0 c) ∨ ∃ b o c, v = .slice (some ⟨b, o, none⟩) ps.length c ∧ ps.length ≤ c ∧ b < w.heap.size ∧ ∀ j p, ps[j]? = some p → w.cell? ⟨b, o + j, none⟩ = some (.string (S p))
theorem IsTexts.own {w : World} {base : Nat} {v : Value} {ps : List (List UInt8)} (h : w.ownsRow base 9 1 v ps.length (tcells ps)) : IsTexts w v ps := by
  by_cases h0 : ps = []
  · subst h0
    obtain ⟨a, c, rfl⟩ := own_len h
    exact .inl ⟨rfl, a, c, rfl⟩
  · obtain ⟨g, cap, rfl, hc, hg, hcell⟩ := own_cells h (List.length_pos_iff.2 h0)
    have key : ∀ j p, ps[j]? = some p → w.cell? ⟨g, 0 + j, none⟩ = some (.string (S p)) := by
      intro j p hp
      have hj : j < ps.length := (List.getElem?_eq_some_iff.1 hp).1
      rw [Nat.zero_add, hcell j (by omega)]
      unfold tcells
      rw [List.getElem?_map, hp]
      rfl
    refine .inr ⟨g, 0, cap, rfl, hc, ?_, key⟩
    obtain ⟨p, r, rfl⟩ := List.exists_cons_of_ne_nil h0
    exact World.block_lt_of_cell? w _ (key 0 p rfl)
theorem IsTexts.next {w w' : World} {v : Value} {ps : List (List UInt8)} {rb : Nat} (h : IsTexts w v ps) (hg : w.grownBy w' (some rb)) (hne : ∀ b o n c, v = .slice (some ⟨b, o, none⟩) n c → b ≠ rb) : IsTexts w' v ps := by
  rcases h with h | ⟨b, o, c, rfl, h1, h2, h3⟩
  · exact .inl h
  · exact .inr ⟨b, o, c, rfl, h1, Nat.lt_of_lt_of_le h2 hg.size, fun j p hp => hg.cell (h3 j p hp) (by simpa using hne b o _ _ rfl)⟩

theorem conv_head (h : UInt8) (h128 : h.toNat < 128) (w : World) : (convert 21 9 (.int .i32 (h.toNat : Int))).run Tryz.prog w = .ok (.string (S [h])) w := by
  rw [run_convert_int_string w 21 9 .i32 _ (by kernel_rfl) (by kernel_rfl)]
  have e : Utf8.encode (h.toNat : Int) = S [h] := by
    have hv : Utf8.valid (h.toNat : Int) = true := by unfold Utf8.valid; simp; omega
    have h2 : ((h.toNat : Int)).toNat < 128 := by omega
    unfold Utf8.encode
    simp only [hv, if_true]
    rw [if_pos h2]
    simp [S]
  rw [e]

/-- How long texts are together. -/
def flen (ps : List (List UInt8)) : Nat := ps.flatten.length
theorem flen_take {ps : List (List UInt8)} {k : Nat} {q : List UInt8} (h : ps.take (k + 1) = ps.take k ++ [q]) : flen (ps.take (k + 1)) = flen (ps.take k) + q.length := by
  unfold flen; rw [h]; simp
theorem join_flat : ∀ ps : List (List UInt8), Lib.join ps [] = ps.flatten := by
  intro ps
  unfold Lib.join
  rw [List.intercalate]
  induction ps with
  | nil => rfl
  | cons a r ih =>
    cases r with
    | nil => simp
    | cons b r => rw [List.intersperse_cons_cons, List.flatten_cons, List.flatten_cons, ih]; simp
set_option maxHeartbeats 400000 in
theorem join_any (v : Value) (ps : List (List UInt8)) (w : World) (hv : IsTexts w v ps) (hp : ps.length ≤ 2) (hf : flen ps ≤ 140737488355328) :
    Calls Tryz.prog 202 #[v, .string ⟨#[]⟩] w fun e w' => e = .returned (.string (S ps.flatten)) ∧ Below w.heap.size w w' := by
  rcases hv with ⟨rfl, a, c, rfl⟩ | ⟨b, o, c, rfl, h1, h2, h3⟩
  · refine (Tryz.strings_Join_none a c _ w).mono ?_
    rintro e w' ⟨rfl, rfl⟩
    exact ⟨rfl, Below.refl _ _⟩
  · have hm : (ps.map S).map (·.data.toList) = ps := by rw [List.map_map]; exact List.map_id' _
    have hl : (ps.map S).length = ps.length := List.length_map ..
    have := Tryz.strings_Join b o c (ps.map S) ⟨#[]⟩ w (fun j x hx => by
      rw [List.getElem?_map] at hx
      obtain ⟨p, hp, rfl⟩ := Option.map_eq_some_iff.1 hx
      exact h3 j p hp) h2 (by rw [hl]; omega) (by rw [hl]; exact h1) (by rw [hm, show (⟨#[]⟩ : ByteArray).data.toList = [] from rfl, join_flat]; exact hf)
    rw [hl, hm, show (⟨#[]⟩ : ByteArray).data.toList = [] from rfl, join_flat] at this
    exact this

set_option maxHeartbeats 1000000 in
theorem make_any (h : UInt8) (v : Value) (ps : List (List UInt8)) (w : World) (hv : IsTexts w v ps) (hp : ps.length < 1152921504606846976) :
    Calls Tryz.prog 184 #[.int .u8 (h.toNat : Int), v] w fun e w' => e = .returned (.tuple #[.string (S (Tp.mkF h ps).2), .int .i64 (Tp.mkF h ps).1]) ∧ Below w.heap.size w w' := by
  obtain ⟨a, c, rfl⟩ : ∃ a c, v = .slice a ps.length c := by
    rcases hv with ⟨rfl, a, c, rfl⟩ | ⟨b, o, c, rfl, _⟩
    · exact ⟨a, c, rfl⟩
    · exact ⟨_, c, rfl⟩
  by_cases ha : Tp.ar h.toNat = ps.length
  · have hn2 : ps.length ≤ 2 := by have := (Tp.ar_bd (h.toNat : Int)).2; omega
    go_enter Tryz.func184, Tryz.ntmps184
    go_wp2_with (go_at_call 72; refine (partsOf_any _ _).mono ?_; rintro e w' ⟨rfl, hw'⟩; replace hw' := hw'.symm; subst hw')
    go_loopg [6, 18] ps.length (fun g lv t wr => wr = w ∧ ∃ k : Nat, k + g = ps.length ∧ t = .int .i64 k ∧ lv = .int .i64 ((1 + flen (ps.take k) : Nat) : Int) ∧ flen (ps.take k) ≤ 64 * k ∧ Aside (Tp.firstBad (ps.take k) = 0))
    case atStart => exact ⟨rfl, 0, by omega, rfl, rfl, by simp [flen], rfl⟩
    case round =>
      obtain ⟨rfl, k, hkg, rfl, rfl, hfl, HF⟩ := hrel
      by_cases hk : k < ps.length
      · have hk' : (k : Int) < (ps.length : Int) := by omega
        obtain ⟨b, o, c, hsl, hcap, hbl, hcell⟩ : ∃ b o c', Value.slice a ps.length c = .slice (some ⟨b, o, none⟩) ps.length c' ∧ ps.length ≤ c' ∧ b < wr.heap.size ∧ ∀ j p, ps[j]? = some p → wr.cell? ⟨b, o + j, none⟩ = some (.string (S p)) := by
          rcases hv with ⟨rfl, _⟩ | h
          · simp at hk
          · exact h
        obtain ⟨rfl, rfl⟩ : a = some ⟨b, o, none⟩ ∧ _ := by simpa using hsl
        have hck := hcell k _ (List.getElem?_eq_getElem hk)
        have HT : Aside (ps.take (k + 1) = ps.take k ++ [ps[k]]) := List.take_succ_eq_append_getElem hk
        generalize hpk : ps[k] = q at *
        clear hcell
        by_cases hq : (Tp.chk q).1 = 0
        · have hq' : (((Tp.chk (S q).data.toList).1 : Int) != 0) = false := by rw [S_list]; simpa using hq
          have HF2 : Aside (Tp.firstBad (ps.take (k + 1)) = 0) := by
            show _ = _
            rw [HT.out, Tp.firstBad_app _ _ HF.out, Tp.firstBad, if_pos hq]; rfl
          have hql : q.length ≤ 64 := by obtain ⟨t, rfl, hl⟩ := Tp.chk_dec hq; exact hl
          have hz := S_size q
          go_wp2_with (go_at_call 29; refine (check_any _ _).mono ?_; rintro e w' ⟨rfl, hw'⟩; replace hw' := hw'.symm; subst hw')
          go_roundg (gk - 1)
          case measure => omega
          case rel =>
            refine ⟨rfl, k + 1, by omega, by go_num, ?_, ?_, HF2⟩
            · rw [flen_take HT.out]
              go_num
            · rw [flen_take HT.out]
              omega
        · have hq' : (((Tp.chk (S q).data.toList).1 : Int) != 0) = true := by rw [S_list]; simpa using hq
          have HN : Aside (Tp.mkF h ps = ((Tp.chk q).1, [])) := by
            have hfb : Tp.firstBad ps = (Tp.chk q).1 := by
              have h1 : ps = ps.take k ++ (q :: ps.drop (k + 1)) := by
                rw [← hpk, ← List.drop_eq_getElem_cons hk, List.take_append_drop]
              rw [h1, Tp.firstBad_app _ _ HF.out, Tp.firstBad, if_neg hq]
            show _ = _
            rw [Tp.mk_bad ha (by rw [hfb]; exact hq), hfb]
          go_wp2_with (go_at_call 29; refine (check_any _ _).mono ?_; rintro e w' ⟨rfl, rfl⟩)
          go_ret2
          rw [HN.out]
          exact ⟨rfl, Below.refl _ _⟩
      · have hk' : decide ((k : Int) < (ps.length : Int)) = false := by simp; omega
        obtain rfl : k = ps.length := by omega
        rw [List.take_length] at hfl HF
        rw [List.take_length]
        have hv' := hv
        obtain ⟨n, hn⟩ : ∃ n, n = flen ps := ⟨_, rfl⟩
        rw [← hn] at hfl ⊢
        have HX : Aside (n = ps.flatten.length) := hn
        clear hn
        by_cases h64 : 64 < 1 + n
        · have h64' : (64 : Int) < 1 + (n : Int) := by omega
          have HN : Aside (Tp.mkF h ps = (21, [])) := Tp.mk_large ha HF.out (by rw [← HX.out]; exact h64)
          go_wp2_with fail
          go_ret2
          rw [HN.out]
          exact ⟨rfl, Below.refl _ _⟩
        · have h64' : decide ((64 : Int) < 1 + (n : Int)) = false := by simp; omega
          have HN : Aside (Tp.mkF h ps = (0, h :: ps.flatten)) := Tp.mk_ok ha HF.out (by rw [← HX.out]; exact h64)
          have h128 : h.toNat < 128 := by
            rcases Tp.ar_cases h with ⟨_, rfl | rfl | rfl | rfl⟩ | ⟨_, rfl | rfl⟩ | ⟨_, rfl | rfl⟩ | h1 <;> first | decide | omega
          have hcv := conv_head h h128
          have hw32 : wrap32 (h.toNat : Int) = h.toNat := by unfold wrap32; omega
          have hcc : S [h] ++ S ps.flatten = S (h :: ps.flatten) := by apply ByteArray.ext; simp [S]
          have hsz1 : (S [h]).size = 1 := rfl
          have hsz2 : (S ps.flatten).size = n := by rw [S_size, HX.out]
          have hj := join_any (Value.slice a ps.length c) ps wr hv' (by omega) (by unfold flen; rw [← HX.out]; omega)
          clear h64
          generalize S ps.flatten = fs at *
          go_wp2_with (go_at_call 202; refine hj.mono ?_; rintro e w' ⟨rfl, hB⟩)
          go_ret2
          rw [HN.out]
          exact ⟨rfl, hB⟩
  · have HN : Aside (Tp.mkF h ps = (1, [])) := Tp.mk_arg ha
    have ha' : (Tp.ar (h.toNat : Int) != (ps.length : Int)) = true := by simpa using ha
    go_enter Tryz.func184, Tryz.ntmps184
    go_wp2_with (go_at_call 72; refine (partsOf_any _ _).mono ?_; rintro e w' ⟨rfl, rfl⟩)
    go_ret2
    rw [HN.out]
    exact ⟨rfl, Below.refl _ _⟩
end Go.Proofs.YtohjfikjbeafiaaGreatDoor.T2
namespace Go.Proofs.YtohjfikjbeafiaaGreatDoor
open Go.RowKit
set_option maxRecDepth 100000
set_option linter.unusedSimpArgs false

namespace Ps
def tcs (t : PT) : List Value := [.int .i8 t.kind, .int .i64 t.n, .string (S t.s), .int .i64 t.ln, .int .i64 t.co]
/-- The tokens, with the one of no kind behind them, lie in block tb from cell o on. -/
def Toks (w : World) (tb o : Nat) (L : List PT) (e : PT) : Prop := tb < w.heap.size ∧ ∀ k, k ≤ L.length → ∀ i u, (tcs (tok L e k))[i]? = some u → w.cell? ⟨tb, o + k * 5 + i, none⟩ = some u
theorem Toks.kept {w w' : World} {tb o : Nat} {L : List PT} {e : PT} {r : Option Nat} (h : Toks w tb o L e) (hg : w.grownBy w' r) (hne : some tb ≠ r) : Toks w' tb o L e :=
  ⟨Nat.lt_of_lt_of_le h.1 hg.size, fun k hk i u hu => hg.cell (h.2 k hk i u hu) hne⟩
/-- Where a limit was first passed. -/
abbrev Pl := Int × Int
/-- What the parser's block holds: its place, the five limits, its maps, how many nodes there are. -/
structure Lim where
  p0 : Pl
  p1 : Pl
  p2 : Pl
  p3 : Pl
  p4 : Pl
/-- The parser lies in block pb. -/
structure Prs (w : World) (pb : Nat) (L : List PT) (e : PT) (k : Nat) (lm : Lim) (fm am : Value) (nd : Nat) : Prop where
  blk : ∃ tb o c, w.heap[pb]? = some (.cells #[.slice (some ⟨tb, o, none⟩) (L.length + 1) c, .int .i64 (k : Int), .int .i64 lm.p0.1, .int .i64 lm.p0.2, .int .i64 lm.p1.1, .int .i64 lm.p1.2, .int .i64 lm.p2.1, .int .i64 lm.p2.2, .int .i64 lm.p3.1, .int .i64 lm.p3.2, .int .i64 lm.p4.1, .int .i64 lm.p4.2, fm, am, .int .i64 (nd : Int)] 132 (0, 0)) ∧ Toks w tb o L e ∧ L.length + 1 ≤ c ∧ tb < pb
  len : L.length ≤ 65536
  at' : k ≤ L.length
/-- The cells of the parser's block. -/
theorem Prs.cells {w : World} {pb : Nat} {L : List PT} {e : PT} {k : Nat} {lm : Lim} {fm am : Value} {nd : Nat} (h : Prs w pb L e k lm fm am nd) :
    ∃ tb o c, w.cell? ⟨pb, 0, none⟩ = some (.slice (some ⟨tb, o, none⟩) (L.length + 1) c) ∧ w.cell? ⟨pb, 1, none⟩ = some (.int .i64 (k : Int)) ∧ w.frozen? ⟨pb, 1, none⟩ = false ∧ L.length + 1 ≤ c ∧ w.cell? ⟨tb, o + k * 5, none⟩ = some (.int .i8 (tok L e k).kind) ∧ w.cell? ⟨tb, o + k * 5 + 1, none⟩ = some (.int .i64 (tok L e k).n) ∧ w.cell? ⟨tb, o + k * 5 + 2, none⟩ = some (.string (S (tok L e k).s)) ∧ w.cell? ⟨tb, o + k * 5 + 3, none⟩ = some (.int .i64 (tok L e k).ln) ∧ w.cell? ⟨tb, o + k * 5 + 4, none⟩ = some (.int .i64 (tok L e k).co) ∧ tb < pb ∧ tb < w.heap.size := by
  obtain ⟨tb, o, c, h1, h2, h3, h4⟩ := h.blk
  have hc := block_cells h1
  have ht := h2.2 k h.at'
  exact ⟨tb, o, c, hc.1 0, hc.1 1, hc.2 1, h3, ht 0 _ rfl, ht 1 _ rfl, ht 2 _ rfl, ht 3 _ rfl, ht 4 _ rfl, h4, h2.1⟩
theorem Prs.kept {w w' : World} {pb : Nat} {L : List PT} {e : PT} {k : Nat} {lm : Lim} {fm am : Value} {nd : Nat} (h : Prs w pb L e k lm fm am nd) (hB : Below w.heap.size w w') : Prs w' pb L e k lm fm am nd := by
  obtain ⟨tb, o, c, h1, h2, h3, h4⟩ := h.blk
  have hlt := (Array.getElem?_eq_some_iff.1 h1).1
  exact ⟨⟨tb, o, c, (hB.block pb hlt).trans h1, ⟨Nat.lt_of_lt_of_le h2.1 hB.size, fun k hk i u hu => (hB.cell (p := ⟨tb, o + k * 5 + i, none⟩) h2.1).trans (h2.2 k hk i u hu)⟩, h3, h4⟩, h.len, h.at'⟩
theorem cell_block {w w' : World} {b o : Nat} (h : w'.heap[b]? = w.heap[b]?) : w'.cell? ⟨b, o, none⟩ = w.cell? ⟨b, o, none⟩ := by simp only [World.cell?, h]
/-- It stands where its block and those ahead of it stand. -/
theorem Prs.low {w w' : World} {pb : Nat} {L : List PT} {e : PT} {k : Nat} {lm : Lim} {fm am : Value} {nd : Nat} (h : Prs w pb L e k lm fm am nd) (hA : ∀ j, j ≤ pb → w'.heap[j]? = w.heap[j]?) (hs : w.heap.size ≤ w'.heap.size) : Prs w' pb L e k lm fm am nd := by
  obtain ⟨tb, o, c, h1, h2, h3, h4⟩ := h.blk
  exact ⟨⟨tb, o, c, (hA pb (Nat.le_refl _)).trans h1, ⟨Nat.lt_of_lt_of_le h2.1 hs, fun k hk i u hu => (cell_block (hA tb (by omega))).trans (h2.2 k hk i u hu)⟩, h3, h4⟩, h.len, h.at'⟩
theorem Prs.set {w : World} {pb b o : Nat} {u : Value} {L : List PT} {e : PT} {k : Nat} {lm : Lim} {fm am : Value} {nd : Nat} (h : Prs w pb L e k lm fm am nd) (hb : pb < b) : Prs (w.setCell ⟨b, o, none⟩ u) pb L e k lm fm am nd :=
  h.low (fun j hj => Below.heap_setCell _ _ _ _ (by simp; omega)) (by simp [World.setCell])
theorem Prs.lt {w : World} {pb : Nat} {L : List PT} {e : PT} {k : Nat} {lm : Lim} {fm am : Value} {nd : Nat} (h : Prs w pb L e k lm fm am nd) : pb < w.heap.size := by
  obtain ⟨tb, o, c, h1, _⟩ := h.blk; exact (Array.getElem?_eq_some_iff.1 h1).1
/-- One step on. -/
theorem Prs.next {w : World} {pb : Nat} {L : List PT} {e : PT} {k : Nat} {lm : Lim} {fm am : Value} {nd : Nat} (h : Prs w pb L e k lm fm am nd) (hk : k < L.length) : Prs (w.setCell ⟨pb, 1, none⟩ (.int .i64 ((k + 1 : Nat) : Int))) pb L e (k + 1) lm fm am nd := by
  obtain ⟨tb, o, c, h1, h2, h3, h4⟩ := h.blk
  refine ⟨⟨tb, o, c, ?_, ⟨by simpa [World.setCell] using h2.1, fun j hj i u hu => ?_⟩, h3, h4⟩, h.len, hk⟩
  · simp [World.setCell, Array.getElem?_modify, h1]
  · exact grownBy_cell (grownBy_set (grownBy_refl w _) _) (by omega) (h2.2 j hj i u hu)
theorem sg_of {L : List PT} {e : PT} {k : Nat} (he : e.kind = 0) : sg L k = if (tok L e k).kind = 1 ∨ (tok L e k).kind = 5 then (tok L e k).s else [] := by
  unfold sg tok
  cases h : L[k]? with
  | none => simp [he]
  | some t => simp
theorem kd_of {L : List PT} {e : PT} {k : Nat} (he : e.kind = 0) : kd L k = (tok L e k).kind := by
  unfold kd tok
  cases h : L[k]? with
  | none => simp [he]
  | some t => simp
end Ps
open Ps

/-- What is thrown where no source goes on with a token. -/
def thrownP (c : Int) (ln co : Int) : List PanicEntry := [{ v := .iface 120 (.agg #[.int .i64 c, .int .i64 ln, .int .i64 co]), recovered := false }]

set_option maxHeartbeats 1000000 in
theorem pkind_any {w : World} {pb : Nat} {L : List PT} {e : PT} {k : Nat} {lm : Lim} {fm am : Value} {nd : Nat} (h : Prs w pb L e k lm fm am nd) (he : e.kind = 0) :
    Calls Tryz.prog 139 #[.pointer (some ⟨pb, 0, none⟩)] w fun e' w' => e' = .returned (.int .i8 (kd L k)) ∧ ∃ n, w' = w.drewN n := by
  obtain ⟨tb, o, c, c0, c1, _, hc, t0, _, _, _, _, _⟩ := h.cells
  rw [← kd_of he] at t0
  have hk1 := h.at'
  have hk2 : (k : Int) < ((L.length + 1 : Nat) : Int) := by omega
  have hk0 : (0 : Int) ≤ (k : Int) := by omega
  clear h he
  go_enter Tryz.func139, Tryz.ntmps139
  go_wp2_with fail
  go_quiet (fail)
  go_wp2_with fail
  go_ret
  exact ⟨rfl, _, rfl⟩

theorem beq_SS (p q : List UInt8) : ((S p).toList == (S q).toList) = decide (p = q) := by
  rw [ByteArray.toList_eq, ByteArray.toList_eq, S_list, S_list, Bool.eq_iff_iff]; simp
theorem Ps.Prs.drewN {w : World} {pb : Nat} {L : List PT} {e : PT} {k : Nat} {lm : Lim} {fm am : Value} {nd : Nat} (h : Prs w pb L e k lm fm am nd) (n : Nat) : Prs (w.drewN n) pb L e k lm fm am nd := h.kept ⟨rfl, rfl, rfl, Nat.le_refl _, fun _ _ => rfl⟩

set_option maxHeartbeats 1000000 in
theorem psign_any {w : World} {pb : Nat} {L : List PT} {e : PT} {k : Nat} {lm : Lim} {fm am : Value} {nd : Nat} (h : Prs w pb L e k lm fm am nd) (he : e.kind = 0) :
    Calls Tryz.prog 81 #[.pointer (some ⟨pb, 0, none⟩)] w fun e' w' => e' = .returned (.string (S (sg L k))) ∧ ∃ n, w' = w.drewN n := by
  have hkd := pkind_any h he
  obtain ⟨tb, o, c, c0, c1, _, hc, _, _, t2, _, _, _⟩ := h.cells
  have hk1 := h.at'
  have hk2 : (k : Int) < ((L.length + 1 : Nat) : Int) := by omega
  have hk0 : (0 : Int) ≤ (k : Int) := by omega
  have HS : Aside (sg L k = if kd L k = 1 ∨ kd L k = 5 then (tok L e k).s else []) := by show _ = _; rw [kd_of he]; exact sg_of he
  clear h he
  by_cases h1 : kd L k = 1
  · rw [h1] at hkd
    have HR : Aside (sg L k = (tok L e k).s) := by show _ = _; rw [HS.out, if_pos (.inl h1)]
    clear h1 HS
    go_enter Tryz.func81, Tryz.ntmps81
    go_wp2_with (go_at_call 139; refine hkd.mono ?_; rintro e1 w1 ⟨rfl, n, rfl⟩)
    go_quiet (fail)
    go_wp2_with fail
    go_ret
    rw [HR.out]
    exact ⟨rfl, _, by first | rfl | exact World.drewN_drewN _ _ _⟩
  · by_cases h5 : kd L k = 5
    · rw [h5] at hkd
      have HR : Aside (sg L k = (tok L e k).s) := by show _ = _; rw [HS.out, if_pos (.inr h5)]
      clear h1 HS h5
      go_enter Tryz.func81, Tryz.ntmps81
      go_wp2_with (go_at_call 139; refine hkd.mono ?_; rintro e1 w1 ⟨rfl, n, rfl⟩)
      go_quiet (fail)
      go_wp2_with fail
      go_ret
      rw [HR.out]
      exact ⟨rfl, _, by first | rfl | exact World.drewN_drewN _ _ _⟩
    · have HR : Aside (sg L k = []) := by show _ = _; rw [HS.out, if_neg (by intro h; rcases h with h | h; exact h1 h; exact h5 h)]
      have h1' : (kd L k == 1) = false := by simpa using h1
      have h5' : (kd L k == 5) = false := by simpa using h5
      clear HS
      go_enter Tryz.func81, Tryz.ntmps81
      go_wp2_with (go_at_call 139; refine hkd.mono ?_; rintro e1 w1 ⟨rfl, n, rfl⟩)
      go_ret
      rw [HR.out]
      exact ⟨rfl, _, rfl⟩

set_option maxHeartbeats 1000000 in
theorem pplace_any {w : World} {pb : Nat} {L : List PT} {e : PT} {k : Nat} {lm : Lim} {fm am : Value} {nd : Nat} (h : Prs w pb L e k lm fm am nd) :
    Calls Tryz.prog 97 #[.pointer (some ⟨pb, 0, none⟩)] w fun e' w' => e' = .returned (.agg #[.int .i64 (tok L e k).ln, .int .i64 (tok L e k).co]) ∧ Below w.heap.size w w' := by
  obtain ⟨tb, o, c, c0, c1, _, hc, _, _, _, t3, t4, _, htb⟩ := h.cells
  have hk1 := h.at'
  have hk2 : (k : Int) < (L.length : Int) + 1 := by omega
  have hk0 : (0 : Int) ≤ (k : Int) := by omega
  have hB : ∀ o n, Below w.heap.size w ((w.alloc o).drewN n) := fun o n => ((Below.refl _ _).alloc (Nat.le_refl _) o).trans ⟨rfl, rfl, rfl, Nat.le_refl _, fun _ _ => rfl⟩
  have hlt := h.lt
  clear h
  go_enter Tryz.func97, Tryz.ntmps97
  go_wp2_with fail
  go_region
  go_wp2_with fail
  try simp only [Exit.inBlock, Exit.then]
  refine bodyPost_ret (v := .agg #[.int .i64 (tok L e k).ln, .int .i64 (tok L e k).co]) (by simp [results, Tryz.results97, go_sem]) rfl ?_
  exact ⟨rfl, hB _ 1⟩

set_option maxHeartbeats 1000000 in
theorem pmis_any {w : World} {pb : Nat} {L : List PT} {e : PT} {k : Nat} {lm : Lim} {fm am : Value} {nd : Nat} (h : Prs w pb L e k lm fm am nd) :
    Calls Tryz.prog 137 #[.pointer (some ⟨pb, 0, none⟩)] w fun e' w' => e' = .returned (.agg #[.int .i64 15, .int .i64 (tok L e k).ln, .int .i64 (tok L e k).co]) ∧ Below w.heap.size w w' := by
  have hB : ∀ o, Below w.heap.size w (w.alloc o) := fun o => (Below.refl _ _).alloc (Nat.le_refl _) o
  have hpl := fun o => pplace_any (h.kept (hB o))
  have HB : Aside (∀ o1 W, Below (w.alloc o1).heap.size (w.alloc o1) W → Below w.heap.size w W ∧ W.heap[w.heap.size]? = some o1) := fun o1 W h => ⟨(hB o1).trans (h.mono (by simp)), (h.block w.heap.size (by simp)).trans (heap_alloc_new _ _)⟩
  clear h
  go_enter Tryz.func137, Tryz.ntmps137
  go_wp2_with (go_at_call 97; refine (hpl _).mono ?_; rintro e1 w1 ⟨rfl, hB1⟩; obtain ⟨hA1, k1⟩ := HB.out _ _ hB1; have f1 := (block_cells k1).2; have c0 := (block_cells k1).1 0; have c1 := (block_cells k1).1 1; have c2 := (block_cells k1).1 2; clear k1 hB1 hpl HB)
  try simp only [Exit.inBlock, Exit.then]
  refine bodyPost_ret (v := .agg #[.int .i64 15, .int .i64 (tok L e k).ln, .int .i64 (tok L e k).co]) (by simp [results, Tryz.results137, go_sem, c0, c1, c2]) rfl ?_
  exact ⟨rfl, ((hA1.setCell (Nat.le_refl _) _).setCell (Nat.le_refl _) _).setCell (Nat.le_refl _) _⟩

/-- One token, as it is handed out. -/
def tagg (t : PT) : Value := .agg #[.int .i8 t.kind, .int .i64 t.n, .string (S t.s), .int .i64 t.ln, .int .i64 t.co]

set_option maxHeartbeats 2000000 in
theorem ptake_any {w : World} {pb : Nat} {L : List PT} {e : PT} {k : Nat} {lm : Lim} {fm am : Value} {nd : Nat} (h : Prs w pb L e k lm fm am nd) (hk : k < L.length) :
    Calls Tryz.prog 154 #[.pointer (some ⟨pb, 0, none⟩)] w fun e' w' => e' = .returned (tagg (tok L e k)) ∧ Prs w' pb L e (k + 1) lm fm am nd ∧ w.grownBy w' (some pb) := by
  obtain ⟨tb, o, c, c0, c1, f1, hc, t0, t1, t2, t3, t4, hne, htb⟩ := h.cells
  have hkl : (k : Int) < (L.length : Int) + 1 := by omega
  have hk0 : (0 : Int) ≤ (k : Int) := by omega
  have hlen := h.len
  have hlt := h.lt
  have HP : Aside (∀ o, Prs (w.setCell ⟨pb, 1, none⟩ (.int .i64 ((k : Int) + 1)) |>.alloc o).drew pb L e (k + 1) lm fm am nd) := fun o => (h.next hk).kept (((Below.refl _ _).alloc (Nat.le_refl _) o).trans ⟨rfl, rfl, rfl, Nat.le_refl _, fun _ _ => rfl⟩)
  have HG : Aside (∀ o, w.grownBy (w.setCell ⟨pb, 1, none⟩ (.int .i64 ((k : Int) + 1)) |>.alloc o).drew (some pb)) := fun o => grownBy_drew (grownBy_alloc (grownBy_set (grownBy_refl w _) _) o)
  clear h
  go_enter Tryz.func154, Tryz.ntmps154
  go_wp2_with fail
  go_region
  go_wp2_with fail
  try simp only [Exit.inBlock, Exit.then]
  refine bodyPost_ret (v := tagg (tok L e k)) (by simp [results, Tryz.results154, go_sem, tagg]) rfl ?_
  exact ⟨rfl, HP.out _, HG.out _⟩

theorem fldAt (a b c d e : Value) (w : World) : (Instr.field 194 (.agg #[a, b, c, d, e]) 3).run Tryz.prog w = .ok (.agg #[d, e]) w := by kernel_rfl
theorem fldS (a b c d e : Value) (w : World) : (Instr.field 194 (.agg #[a, b, c, d, e]) 2).run Tryz.prog w = .ok c w := by kernel_rfl
set_option maxHeartbeats 2000000 in
theorem pexpect_yes {w : World} {pb : Nat} {L : List PT} {e : PT} {k : Nat} {lm : Lim} {fm am : Value} {nd : Nat} (h : Prs w pb L e k lm fm am nd) (he : e.kind = 0) (c : UInt8) (r : List UInt8) (hs : sg L k = c :: r) :
    Calls Tryz.prog 140 #[.pointer (some ⟨pb, 0, none⟩), .string (S (c :: r))] w fun e' w' => e' = .returned (.agg #[.int .i64 (tok L e k).ln, .int .i64 (tok L e k).co]) ∧ Prs w' pb L e (k + 1) lm fm am nd ∧ w.grownBy w' (some pb) := by
  have hk := sg_lt hs
  have hB : ∀ o, Below w.heap.size w (w.alloc o) := fun o => (Below.refl _ _).alloc (Nat.le_refl _) o
  have hsi := fun o => psign_any (h.kept (hB o)) he
  have htk := fun o n => ptake_any ((h.kept (hB o)).drewN n) hk
  rw [hs] at hsi
  have hq : ((S (c :: r)).toList != (S (c :: r)).toList) = false := by simp
  have hlt := h.lt
  have HB : Aside (∀ o1 n W, ((w.alloc o1).drewN n).grownBy W (some pb) → w.grownBy W (some pb) ∧ W.heap[w.heap.size]? = some o1) := fun o1 n W hg => ⟨grownBy_alloc_pre ⟨hg.os, hg.tape, hg.output, hg.size, hg.block⟩, (hg.block w.heap.size (by show w.heap.size < (w.alloc o1).heap.size; simp) (by simp; omega)).trans (heap_alloc_new _ _)⟩
  clear h hs
  go_enter Tryz.func140, Tryz.ntmps140
  go_wp2_with fail
  refine (hsi _).mono ?_
  rintro e1 w1 ⟨rfl, n, rfl⟩
  go_wp2_with fail
  refine (htk _ _).mono ?_
  rintro e2 w2 ⟨rfl, hP, hg⟩
  obtain ⟨hg2, k1⟩ := HB.out _ _ _ hg
  have f1 := (block_cells k1).2
  have c0 := (block_cells k1).1 0
  have c1 := (block_cells k1).1 1
  have hfl := fldAt (.int .i8 (tok L e k).kind) (.int .i64 (tok L e k).n) (.string (S (tok L e k).s)) (.int .i64 (tok L e k).ln) (.int .i64 (tok L e k).co)
  clear hsi htk hg k1 HB hq
  unfold tagg
  go_wp2_with fail
  try simp only [Exit.inBlock, Exit.then]
  refine bodyPost_ret (v := .agg #[.int .i64 (tok L e k).ln, .int .i64 (tok L e k).co]) (by simp [results, Tryz.results140, go_sem, c0, c1]) rfl ?_
  exact ⟨rfl, (hP.set hlt).set hlt, grownBy_high hg2 (grownBy_set (grownBy_set (grownBy_refl w2 (some w.heap.size)) _) _) (fun x e => by cases e; exact Nat.le_refl _)⟩

/-- A reader's panic. -/
def Threw (w : World) (pb : Nat) (L : List PT) (e : PT) (j : Nat) (e' : Ending) (w' : World) : Prop := e' = .panicked (thrownP 15 (tok L e j).ln (tok L e j).co) ∧ w.grownBy w' (some pb)
theorem grown_any {w w' : World} (h : Below w.heap.size w w') (r : Option Nat) : w.grownBy w' r := ⟨h.os, h.tape, h.output, h.size, fun k hk _ => h.block k hk⟩

set_option maxHeartbeats 2000000 in
theorem pexpect_no {w : World} {pb : Nat} {L : List PT} {e : PT} {k : Nat} {lm : Lim} {fm am : Value} {nd : Nat} (h : Prs w pb L e k lm fm am nd) (he : e.kind = 0) (s : List UInt8) (hs : sg L k ≠ s) :
    Calls Tryz.prog 140 #[.pointer (some ⟨pb, 0, none⟩), .string (S s)] w fun e' w' => Threw w pb L e k e' w' := by
  have hB : ∀ o, Below w.heap.size w (w.alloc o) := fun o => (Below.refl _ _).alloc (Nat.le_refl _) o
  have hsi := fun o => psign_any (h.kept (hB o)) he
  have hms := fun o n => pmis_any ((h.kept (hB o)).drewN n)
  have hq : ((S (sg L k)).toList == (S s).toList) = false := by rw [beq_SS]; simpa using hs
  have HB : Aside (∀ o1 n W, Below ((w.alloc o1).drewN n).heap.size ((w.alloc o1).drewN n) W → w.grownBy W (some pb)) := fun o1 n W hb => grown_any ((hB o1).trans ((⟨hb.os, hb.tape, hb.output, hb.size, hb.block⟩ : Below (w.alloc o1).heap.size (w.alloc o1) W).mono (by simp))) _
  generalize sg L k = sk at *
  clear h hs
  go_enter Tryz.func140, Tryz.ntmps140
  go_wp2_with fail
  refine (hsi _).mono ?_
  rintro e1 w1 ⟨rfl, n, rfl⟩
  go_wp2_with fail
  refine (hms _ _).mono ?_
  rintro e2 w2 ⟨rfl, hb⟩
  have hg := HB.out _ _ _ hb
  clear hsi hms HB hb hq
  go_wp2_with fail
  exact ⟨rfl, rfl, hg⟩

set_option maxHeartbeats 2000000 in
theorem pname_yes {w : World} {pb : Nat} {L : List PT} {e : PT} {k : Nat} {lm : Lim} {fm am : Value} {nd : Nat} (h : Prs w pb L e k lm fm am nd) (he : e.kind = 0) (hs : kd L k = 2) :
    Calls Tryz.prog 141 #[.pointer (some ⟨pb, 0, none⟩)] w fun e' w' => e' = .returned (tagg (tok L e k)) ∧ Prs w' pb L e (k + 1) lm fm am nd ∧ w.grownBy w' (some pb) := by
  have hk := kd_lt (L := L) (k := k) (by rw [hs]; decide)
  have hB : ∀ o, Below w.heap.size w (w.alloc o) := fun o => (Below.refl _ _).alloc (Nat.le_refl _) o
  have hsi := fun o => pkind_any (h.kept (hB o)) he
  have htk := fun o n => ptake_any ((h.kept (hB o)).drewN n) hk
  rw [hs] at hsi
  have hlt := h.lt
  have HB : Aside (∀ o1 n W, ((w.alloc o1).drewN n).grownBy W (some pb) → w.grownBy W (some pb) ∧ W.heap[w.heap.size]? = some o1) := fun o1 n W hg => ⟨grownBy_alloc_pre ⟨hg.os, hg.tape, hg.output, hg.size, hg.block⟩, (hg.block w.heap.size (by show w.heap.size < (w.alloc o1).heap.size; simp) (by simp; omega)).trans (heap_alloc_new _ _)⟩
  clear h hs
  go_enter Tryz.func141, Tryz.ntmps141
  go_wp2_with fail
  refine (hsi _).mono ?_
  rintro e1 w1 ⟨rfl, n, rfl⟩
  go_wp2_with fail
  refine (htk _ _).mono ?_
  rintro e2 w2 ⟨rfl, hP, hg⟩
  obtain ⟨hg2, k1⟩ := HB.out _ _ _ hg
  have f1 := (block_cells k1).2
  have c0 := (block_cells k1).1 0
  have c1 := (block_cells k1).1 1
  have c2 := (block_cells k1).1 2
  have c3 := (block_cells k1).1 3
  have c4 := (block_cells k1).1 4
  clear hsi htk hg k1 HB
  unfold tagg
  go_wp2_with fail
  try simp only [Exit.inBlock, Exit.then]
  refine bodyPost_ret (v := .agg #[.int .i8 (tok L e k).kind, .int .i64 (tok L e k).n, .string (S (tok L e k).s), .int .i64 (tok L e k).ln, .int .i64 (tok L e k).co]) (by simp [results, Tryz.results141, go_sem, c0, c1, c2, c3, c4]) rfl ?_
  exact ⟨rfl, ((((hP.set hlt).set hlt).set hlt).set hlt).set hlt, grownBy_high hg2 (grownBy_set (grownBy_set (grownBy_set (grownBy_set (grownBy_set (grownBy_refl w2 (some w.heap.size)) _) _) _) _) _) (fun x e => by cases e; exact Nat.le_refl _)⟩

set_option maxHeartbeats 2000000 in
theorem pname_no {w : World} {pb : Nat} {L : List PT} {e : PT} {k : Nat} {lm : Lim} {fm am : Value} {nd : Nat} (h : Prs w pb L e k lm fm am nd) (he : e.kind = 0) (hs : kd L k ≠ 2) :
    Calls Tryz.prog 141 #[.pointer (some ⟨pb, 0, none⟩)] w fun e' w' => Threw w pb L e k e' w' := by
  have hB : ∀ o, Below w.heap.size w (w.alloc o) := fun o => (Below.refl _ _).alloc (Nat.le_refl _) o
  have hsi := fun o => pkind_any (h.kept (hB o)) he
  have hms := fun o n => pmis_any ((h.kept (hB o)).drewN n)
  have hq : (kd L k != 2) = true := by simpa using hs
  have HB : Aside (∀ o1 n W, Below ((w.alloc o1).drewN n).heap.size ((w.alloc o1).drewN n) W → w.grownBy W (some pb)) := fun o1 n W hb => grown_any ((hB o1).trans ((⟨hb.os, hb.tape, hb.output, hb.size, hb.block⟩ : Below (w.alloc o1).heap.size (w.alloc o1) W).mono (by simp))) _
  generalize kd L k = sk at *
  clear h hs
  go_enter Tryz.func141, Tryz.ntmps141
  go_wp2_with fail
  refine (hsi _).mono ?_
  rintro e1 w1 ⟨rfl, n, rfl⟩
  go_wp2_with fail
  refine (hms _ _).mono ?_
  rintro e2 w2 ⟨rfl, hb⟩
  have hg := HB.out _ _ _ hb
  clear hsi hms HB hb hq
  go_wp2_with fail
  exact ⟨rfl, rfl, hg⟩
end Go.Proofs.YtohjfikjbeafiaaGreatDoor
namespace Go.Proofs.YtohjfikjbeafiaaGreatDoor
open Go.RowKit Ps
set_option maxRecDepth 100000
set_option linter.unusedSimpArgs false

theorem beq_SL (p q : List UInt8) : ((S p).toList == q) = decide (p = q) := by
  rw [ByteArray.toList_eq, S_list, Bool.eq_iff_iff]; simp
/-- How a reading of a type ends. -/
def TyEnd (w : World) (pb : Nat) (L : List PT) (e : PT) (lm : Lim) (fm am : Value) (nd : Nat) : Rd T2.Tp.Ty → Ending → World → Prop
  | .error j, e', w' => Threw w pb L e j e' w'
  | .ok (t, j), e', w' => e' = .returned (.string (S (T2.Tp.val t))) ∧ Prs w' pb L e j lm fm am nd ∧ w.grownBy w' (some pb)

set_option maxHeartbeats 400000 in
theorem pmade_any (h : UInt8) (v : Value) (ps : List (List UInt8)) (w : World) (hv : T2.IsTexts w v ps) (hp : ps.length ≤ 2) :
    Calls Tryz.prog 155 #[.int .u8 (h.toNat : Int), v] w fun e w' => e = .returned (.string (S (T2.Tp.mkF h ps).2)) ∧ Below w.heap.size w w' := by
  have hm := T2.make_any h v ps w hv (by omega)
  generalize (h.toNat : Int) = hh at *
  go_enter Tryz.func155, Tryz.ntmps155
  go_wp2_with (go_at_call 184; refine hm.mono ?_; rintro e w' ⟨rfl, hB⟩)
  go_ret
  exact ⟨rfl, hB⟩
theorem texts_two (w : World) (a b : List UInt8) : T2.IsTexts (w.alloc (.cells #[.string (S a), .string (S b)] 9)) (.slice (some ⟨w.heap.size, 0, none⟩) 2 2) [a, b] := by
  refine .inr ⟨w.heap.size, 0, 2, rfl, by simp, by simp, fun j p hp => ?_⟩
  have hb := (block_cells (heap_alloc_new w (.cells #[.string (S a), .string (S b)] 9))).1
  match j, hp with
  | 0, hp => cases hp; exact hb 0
  | 1, hp => cases hp; exact hb 1
theorem texts_one (w : World) (a : List UInt8) : T2.IsTexts (w.alloc (.cells #[.string (S a)] 9)) (.slice (some ⟨w.heap.size, 0, none⟩) 1 1) [a] := by
  refine .inr ⟨w.heap.size, 0, 1, rfl, by simp, by simp, fun j p hp => ?_⟩
  have hb := (block_cells (heap_alloc_new w (.cells #[.string (S a)] 9))).1
  match j, hp with
  | 0, hp => cases hp; exact hb 0

section
variable (pb : Nat) (L : List PT) (e : PT) (fm am : Value)
def ArmC (d : Nat) : Prop := ∀ (w : World) (k : Nat) (lm : Lim) (nd : Nat), 2 * (L.length - k) + 1 ≤ d → Prs w pb L e k lm fm am nd →
  Calls Tryz.prog 153 #[.pointer (some ⟨pb, 0, none⟩)] w (TyEnd w pb L e lm fm am nd (ty L d false k))
def ArrC (d : Nat) : Prop := ∀ (w : World) (k : Nat) (lm : Lim) (nd : Nat), 2 * (L.length - k) + 2 ≤ d → Prs w pb L e k lm fm am nd →
  Calls Tryz.prog 105 #[.pointer (some ⟨pb, 0, none⟩)] w (TyEnd w pb L e lm fm am nd (ty L d true k))
end

set_option maxHeartbeats 2000000 in
theorem arrow_step {pb : Nat} {L : List PT} {e : PT} {fm am : Value} (he : e.kind = 0) {d : Nat} (hA : ArmC pb L e fm am d) (hR : ArrC pb L e fm am d) : ArrC pb L e fm am (d + 1) := by
  intro w k lm nd hd h
  have ha := hA w k lm nd (by omega) h
  have hw := ty_within L d false k h.at'
  rw [ty]
  cases hr : ty L d false k with
  | error j =>
    rw [hr] at ha
    clear hw h hA hR hd
    go_enter Tryz.func105, Tryz.ntmps105
    go_wp2_with fail
    refine ha.mono ?_
    rintro e1 w1 ⟨rfl, hg⟩
    go_wp2_with fail
    exact ⟨rfl, rfl, hg⟩
  | ok p =>
    obtain ⟨a, j⟩ := p
    rw [hr] at ha hw
    obtain ⟨hw1, hw2⟩ := hw
    simp only
    by_cases hs : sg L j = [45, 62]
    · have hj := sg_lt hs
      rw [if_pos hs]
      have hq : ((S (sg L j)).toList == [45, 62]) = true := by rw [beq_SL]; simpa using hs
      clear hs
      cases hr2 : ty L d true (j + 1) with
      | error i =>
        clear h hA
        go_enter Tryz.func105, Tryz.ntmps105
        go_wp2_with fail
        refine ha.mono ?_
        rintro e1 w1 ⟨rfl, hP1, hg1⟩
        have hsi := psign_any hP1 he
        go_wp2_with fail
        refine hsi.mono ?_
        rintro e2 w2 ⟨rfl, n, rfl⟩
        have htk := ptake_any (hP1.drewN n) hj
        go_wp2_with fail
        refine htk.mono ?_
        rintro e3 w3 ⟨rfl, hP3, hg3⟩
        have hrr := hR w3 (j + 1) lm nd (by omega) hP3
        rw [hr2] at hrr
        go_wp2_with fail
        refine hrr.mono ?_
        rintro e4 w4 ⟨rfl, hg4⟩
        have hG : w.grownBy w4 (some pb) := grownBy_trans (grownBy_trans (grownBy_drewN hg1 n) hg3) hg4
        clear ha hsi htk hrr hR hg1 hg3 hg4 hP1 hP3
        go_wp2_with fail
        exact ⟨rfl, rfl, hG⟩
      | ok q =>
        obtain ⟨b, i⟩ := q
        have hmv : (T2.Tp.mkF 62 [T2.Tp.val a, T2.Tp.val b]).2 = T2.Tp.val (.tf a b) := T2.Tp.made_val (.tf a b)
        clear h hA
        go_enter Tryz.func105, Tryz.ntmps105
        go_wp2_with fail
        refine ha.mono ?_
        rintro e1 w1 ⟨rfl, hP1, hg1⟩
        have hsi := psign_any hP1 he
        go_wp2_with fail
        refine hsi.mono ?_
        rintro e2 w2 ⟨rfl, n, rfl⟩
        have htk := ptake_any (hP1.drewN n) hj
        go_wp2_with fail
        refine htk.mono ?_
        rintro e3 w3 ⟨rfl, hP3, hg3⟩
        have hrr := hR w3 (j + 1) lm nd (by omega) hP3
        rw [hr2] at hrr
        go_wp2_with fail
        refine hrr.mono ?_
        rintro e4 w4 ⟨rfl, hP4, hg4⟩
        have hG : w.grownBy w4 (some pb) := grownBy_trans (grownBy_trans (grownBy_drewN hg1 n) hg3) hg4
        have hmd := pmade_any 62 _ _ _ (texts_two w4 (T2.Tp.val a) (T2.Tp.val b)) (by simp)
        rw [hmv] at hmd
        clear ha hsi htk hrr hR hg1 hg3 hg4 hP1 hP3 hmv
        go_wp2_with fail
        refine hmd.mono ?_
        rintro e5 w5 ⟨rfl, hB5⟩
        have hB6 : Below w4.heap.size w4 w5 := ((Below.refl _ _).alloc (Nat.le_refl _) _).trans (hB5.mono (by simp))
        go_wp2_with fail
        go_ret
        exact ⟨rfl, hP4.kept hB6, grownBy_below hG hB6⟩
    · rw [if_neg hs]
      have hq : ((S (sg L j)).toList == [45, 62]) = false := by rw [beq_SL]; simpa using hs
      clear hs
      clear h hA hR
      go_enter Tryz.func105, Tryz.ntmps105
      go_wp2_with fail
      refine ha.mono ?_
      rintro e1 w1 ⟨rfl, hP1, hg1⟩
      have hsi := psign_any hP1 he
      go_wp2_with fail
      refine hsi.mono ?_
      rintro e2 w2 ⟨rfl, n, rfl⟩
      go_wp2_with fail
      go_ret
      exact ⟨rfl, hP1.drewN n, grownBy_drewN hg1 n⟩
end Go.Proofs.YtohjfikjbeafiaaGreatDoor
