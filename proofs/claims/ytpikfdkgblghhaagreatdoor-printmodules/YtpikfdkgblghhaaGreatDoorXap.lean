/- The pen of package print in memory: what writes into it. What the document's Decimal answers of a number that is not below 0: its digits. -/
import Derived.Test.YtpikfdkgblghhaaGreatDoorXab
import Derived.Test.YtpikfdkgblghhaaGreatDoorXao
import Derived.Test.YtpikfdkgblghhaaGreatDoorXan
import Derived.Test.YtpikfdkgblghhaaGreatDoorXag
import Derived.Lib.ItoaLen
namespace Go.Proofs.YtpikfdkgblghhaaGreatDoor
open Go.RowKit
set_option maxRecDepth 100000
set_option linter.unusedSimpArgs false
set_option linter.unusedVariables false
namespace Pn
theorem infoB : (Tryz.prog.info? 5).map (fun i => (i.zero, i.size, i.bytes)) = some (some (.int .u8 0), 1, 1) := by kernel_rfl
theorem tyBs : Tryz.prog.underlying 40 = some (.slice 5) := by kernel_rfl
theorem tyStr : Tryz.prog.underlying 9 = some .string := by kernel_rfl
theorem tyPb : Tryz.prog.underlying 62 = some (.pointer 64) := by kernel_rfl
theorem tyUn : Tryz.prog.underlying 226 = some .unsafePointer := by kernel_rfl
theorem tyPu : Tryz.prog.underlying 156 = some (.pointer 5) := by kernel_rfl
theorem sizeSb : (Tryz.prog.info? 64).map (·.size) = some 2 := by kernel_rfl
theorem liesPn : liesAt Tryz.prog Tryz.prog.depth 66 (3 / Tryz.prog.cellsOf 66) 0 64 1 = true := by kernel_rfl

/-- The pen's block: who it is, its row, what is coming; and what it has written. -/
def At (p : Value) (w : World) (pb : Nat) (l : List UInt8) (c : Value) : Prop :=
  ∃ v, w.heap[pb]? = some (.cells #[p, v, c] 66 (0, 0)) ∧ w.ownsRowF pb 5 1 v l.length (Lib.byteCells l)
def Pen (w : World) (pb : Nat) (l : List UInt8) (c : Value) : Prop := At (.pointer none) w pb l c ∨ At (.pointer (some ⟨pb, 0, none⟩)) w pb l c
def Wrote (w w' : World) (pb : Nat) : Prop := Below pb w w' ∧ Lib.OthersKept 5 (some pb) w w' ∧ w.heap.size ≤ w'.heap.size

theorem Wrote.refl (w : World) (pb : Nat) : Wrote w w pb := ⟨Below.refl _ _, Lib.OthersKept.refl _ _ _, Nat.le_refl _⟩
theorem Wrote.trans {a b c : World} {pb : Nat} (h : Wrote a b pb) (k : Wrote b c pb) : Wrote a c pb := ⟨h.1.trans (k.1.mono (Nat.le_refl _)), h.2.1.trans k.2.1, Nat.le_trans h.2.2 k.2.2⟩
theorem At.lt {p : Value} {w : World} {pb : Nat} {l : List UInt8} {c : Value} (h : At p w pb l c) : pb < w.heap.size := by
  obtain ⟨v, hb, _⟩ := h
  exact (Array.getElem?_eq_some_iff.1 hb).1
theorem Pen.lt {w : World} {pb : Nat} {l : List UInt8} {c : Value} (h : Pen w pb l c) : pb < w.heap.size := h.elim At.lt At.lt
theorem Pen.kept {w w' : World} {pb : Nat} {l : List UInt8} {c : Value} (h : Pen w pb l c) (hg : w.grownBy w' none) : Pen w' pb l c := by
  have key : ∀ p, At p w pb l c → At p w' pb l c := by
    rintro p ⟨v, hb, hown⟩
    exact ⟨v, (hg.block pb (Array.getElem?_eq_some_iff.1 hb).1 (by simp)).trans hb, hown.kept hg (by cases hv : v.ownBlock <;> simp)⟩
  exact h.elim (fun x => .inl (key _ x)) (fun x => .inr (key _ x))
theorem Wrote.grown {w w' : World} (hg : w.grownBy w' none) {pb : Nat} (hp : pb ≤ w.heap.size) : Wrote w w' pb :=
  ⟨⟨hg.os, hg.tape, hg.output, hg.size, fun k hk => hg.block k (by omega) (by simp)⟩, fun k o ho _ _ => (hg.block k (Array.getElem?_eq_some_iff.1 ho).1 (by simp)).trans ho, hg.size⟩
theorem grown_below {w w' : World} (h : Below w.heap.size w w') : w.grownBy w' none := ⟨h.os, h.tape, h.output, h.size, fun k hk _ => h.block k hk⟩
theorem Wrote.at {w w' : World} {pb k : Nat} {C : Array Value} {T : TypeId} {fz : Nat × Nat} (h : Wrote w w' pb) (hk : w.heap[k]? = some (.cells C T fz)) (hne : k ≠ pb) (hT : T ≠ 5) : w'.heap[k]? = some (.cells C T fz) :=
  h.2.1 k _ hk (by simpa using hne) (fun c f e => by cases e; exact hT rfl)
theorem Wrote.of_drew {w w' : World} {pb : Nat} (h : Wrote w.drew w' pb) : Wrote w w' pb := ⟨⟨h.1.os, h.1.tape, h.1.output, h.1.size, h.1.block⟩, h.2.1, h.2.2⟩
theorem Wrote.drew {w w' : World} {pb : Nat} (h : Wrote w w' pb) : Wrote w w'.drew pb := ⟨⟨h.1.os, h.1.tape, h.1.output, h.1.size, h.1.block⟩, h.2.1, h.2.2⟩
theorem At.cells {p : Value} {w : World} {pb : Nat} {l : List UInt8} {c : Value} (h : At p w pb l c) : w.cell? ⟨pb, 0, none⟩ = some p ∧ w.cell? ⟨pb, 2, none⟩ = some c ∧ (∀ o, w.frozen? ⟨pb, o, none⟩ = false) ∧ w.shape? pb = some (66, 3) := by
  obtain ⟨v, hb, _⟩ := h
  exact ⟨by simp [World.cell?, hb], by simp [World.cell?, hb], fun o => by simp [World.frozen?, hb], by simp [World.shape?, hb]⟩
theorem Pen.cell2 {w : World} {pb : Nat} {l : List UInt8} {c : Value} (h : Pen w pb l c) : w.cell? ⟨pb, 2, none⟩ = some c ∧ (∀ o, w.frozen? ⟨pb, o, none⟩ = false) :=
  h.elim (fun x => ⟨x.cells.2.1, x.cells.2.2.1⟩) (fun x => ⟨x.cells.2.1, x.cells.2.2.1⟩)
theorem own_ne {w : World} {pb : Nat} {v : Value} {n : Nat} {xs : List Value} {cs : Array Value} {fr : Nat × Nat} (hown : w.ownsRowF pb 5 1 v n xs) (hb : w.heap[pb]? = some (.cells cs 66 fr)) : v.ownBlock ≠ some pb :=
  Lib.ownBlock_neF hown hb (by decide)
/-- One cell of the pen's block is stored. -/
theorem set_pen {w : World} {pb : Nat} {p v c : Value} (hb : w.heap[pb]? = some (.cells #[p, v, c] 66 (0, 0))) :
    (∀ q, (w.setCell ⟨pb, 0, none⟩ q).heap[pb]? = some (.cells #[q, v, c] 66 (0, 0))) ∧ (∀ q, (w.setCell ⟨pb, 1, none⟩ q).heap[pb]? = some (.cells #[p, q, c] 66 (0, 0))) ∧ (∀ q, (w.setCell ⟨pb, 2, none⟩ q).heap[pb]? = some (.cells #[p, v, q] 66 (0, 0))) := by
  refine ⟨fun q => ?_, fun q => ?_, fun q => ?_⟩ <;> simp [World.setCell, Array.getElem?_modify, hb]
theorem grown_set (w : World) (pb o : Nat) (q : Value) : w.grownBy (w.setCell ⟨pb, o, none⟩ q) (some pb) := ⟨rfl, rfl, rfl, by simp [World.setCell], fun k _ hk => Below.heap_setCell _ _ _ _ (fun e => hk (by simp [e]))⟩
theorem own_set {w : World} {pb : Nat} {v : Value} {n : Nat} {xs : List Value} {cs : Array Value} {fr : Nat × Nat} (hown : w.ownsRowF pb 5 1 v n xs) (hb : w.heap[pb]? = some (.cells cs 66 fr)) (o : Nat) (q : Value) : (w.setCell ⟨pb, o, none⟩ q).ownsRowF pb 5 1 v n xs :=
  hown.kept (row := some pb) (grown_set w pb o q) (.inr (own_ne hown hb))
theorem Wrote.set (w : World) (pb o : Nat) (q : Value) : Wrote w (w.setCell ⟨pb, o, none⟩ q) pb :=
  ⟨(Below.refl _ _).setCell (p := ⟨pb, o, none⟩) (Nat.le_refl _) _, (Lib.OthersKept.refl _ _ w).setCell ⟨pb, o, none⟩ rfl _, by simp [World.setCell]⟩
/-- What is coming is stored. -/
theorem Pen.coming {w : World} {pb : Nat} {l : List UInt8} {c : Value} (h : Pen w pb l c) (q : Value) : Pen (w.setCell ⟨pb, 2, none⟩ q) pb l q := by
  have key : ∀ p, At p w pb l c → At p (w.setCell ⟨pb, 2, none⟩ q) pb l q := by
    rintro p ⟨v, hb, hown⟩
    exact ⟨v, (set_pen hb).2.2 q, own_set hown hb _ _⟩
  exact h.elim (fun x => .inl (key _ x)) (fun x => .inr (key _ x))
end Pn
open Pn
namespace Pn
/-- A list lies below a mark. -/
def Low (v : Value) (B0 : Nat) : Prop := ∀ b o n c, v = .slice (some ⟨b, o, none⟩) n c → b < B0
theorem nodes_low {w w' : World} {v : Value} {l : List Tr.Nd} {B0 : Nat} (h : IsNodes w v l) (hv : Low v B0) (hB : Below B0 w w') : IsNodes w' v l := by
  rcases h with h | ⟨b, o, c, rfl, h1, h2, h3⟩
  · exact .inl h
  · exact .inr ⟨b, o, c, rfl, h1, Nat.lt_of_lt_of_le h2 hB.size, fun j x hx i u hu => (hB.cell (p := ⟨b, o + j * 8 + i, none⟩) (hv b o _ _ rfl)).trans (h3 j x hx i u hu)⟩
end Pn

set_option maxHeartbeats 1000000 in
theorem pnCopyCheck_any (b : Nat) (l : List UInt8) (c : Value) (w : World) (h : Pen w b l c) :
    Calls Tryz.prog 165 #[.pointer (some ⟨b, 0, none⟩)] w fun e w' => e = .returned (.tuple #[]) ∧ At (.pointer (some ⟨b, 0, none⟩)) w' b l c ∧ Wrote w w' b := by
  rcases h with h | h
  · obtain ⟨j, hj, hjs⟩ := Option.map_eq_some_iff.1 sizeSb
    obtain ⟨c0, _, f0, hsh⟩ := h.cells
    have f00 := f0 0
    obtain ⟨v, hb, hown⟩ := h
    go_enter Tryz.func165, Tryz.ntmps165
    go_wp2
    rw [Lib.run_to_unsafe w ⟨b, 0, none⟩ tyPb tyUn hj (by rw [hjs]; decide) hsh (Nat.zero_lt_succ 2)]
    simp only [Result.andThen]
    rw [Oper.upon_value]
    go_wp2
    rw [run_callFunc_extern Tryz.func195 (by kernel_rfl) (by kernel_rfl) (by kernel_rfl) (e := Extern.AbiNoEscape.same) (by kernel_rfl)]
    rw [Lib.run_noEscape]
    simp only [Result.andThen]
    rw [Oper.upon_value]
    go_wp2
    rw [Lib.run_from_unsafe w ⟨b, 0, none⟩ tyUn tyPb hj hsh liesPn]
    simp only [Result.andThen]
    rw [Oper.upon_value]
    go_wp2
    go_end0
    exact ⟨rfl, ⟨v, (set_pen hb).1 _, own_set hown hb _ _⟩, Wrote.set _ _ _ _⟩
  · obtain ⟨j, hj, _⟩ := Option.map_eq_some_iff.1 sizeSb
    obtain ⟨c0, _, _, _⟩ := h.cells
    go_enter Tryz.func165, Tryz.ntmps165
    go_wp2
    rw [Lib.run_neq_ptr_same w _ tyPb hj]
    go_wp2
    go_end0
    exact ⟨rfl, h, Wrote.refl _ _⟩

set_option maxHeartbeats 2000000 in
theorem pnWriteString_any (b : Nat) (l : List UInt8) (sv : ByteArray) (c : Value) (w : World) (h : Pen w b l c) (hlen : l.length + sv.data.toList.length ≤ 100000000000) :
    Calls Tryz.prog 115 #[.pointer (some ⟨b, 0, none⟩), .string sv] w fun e w' => e = .returned (.tuple #[.int .i64 sv.size, .nilIface]) ∧ Pen w' b (l ++ sv.data.toList) c ∧ Wrote w w' b := by
  obtain ⟨i0, hi, hz0, hz1, hz2⟩ := info_parts infoB
  have hs : sv.data.toList.length = sv.size := by rw [Array.length_toList]; rfl
  have hbl := Lib.byteCells_length l
  go_enter Tryz.func115, Tryz.ntmps115
  go_wp2_with (go_at_call 165; refine (pnCopyCheck_any b l c _ h).mono ?_)
  rintro e w1 ⟨rfl, h1, hk1⟩
  have hlt := h1.lt
  have hk1' := hk1
  obtain ⟨v, hbk, hown⟩ := h1
  have hne := own_ne hown hbk
  have c0 : w1.cell? ⟨b, 0, none⟩ = some (.pointer (some ⟨b, 0, none⟩)) := by rw [Lib.cell_of_heap hbk]; rfl
  have c1 : w1.cell? ⟨b, 1, none⟩ = some v := by rw [Lib.cell_of_heap hbk]; rfl
  go_wp2_with (at_builtin; refine Lib.wpList_append_own_stringF _ rfl _ _ 40 9 rfl b 5 i0 tyBs tyStr hi hz0 hz1 hz2 _ _ _ rfl hown sv rfl ?c3 ?c4 ?c5 ?_)
  case c3 => unfold maxLen; omega
  case c4 => omega
  case c5 => omega
  intro v' w2 hown' hgrow _
  have hb2 : w2.heap[b]? = some (.cells #[.pointer (some ⟨b, 0, none⟩), v, c] 66 (0, 0)) := by
    rw [hgrow.block b hlt (fun e => hne e.symm)]
    exact hbk
  have d0 : w2.cell? ⟨b, 0, none⟩ = some (.pointer (some ⟨b, 0, none⟩)) := by rw [Lib.cell_of_heap hb2]; rfl
  have d1 : w2.cell? ⟨b, 1, none⟩ = some v := by rw [Lib.cell_of_heap hb2]; rfl
  have f1 : w2.frozen? ⟨b, 1, none⟩ = false := Lib.frozen_of_heap hb2 1
  obtain ⟨ao, n', cap, rfl⟩ : ∃ ao n' cap, v' = .slice ao n' cap := by
    rcases hown'.2 with ⟨hv, _⟩ | ⟨g, cap, cur, fz, hv, _⟩
    · exact ⟨_, _, _, hv⟩
    · exact ⟨_, _, _, hv⟩
  go_wp2
  go_ret2
  have hcc : Lib.byteCells (l ++ sv.data.toList) = Lib.byteCells l ++ Lib.strCells sv := by simp [Lib.byteCells, Lib.strCells]
  have hln : (l ++ sv.data.toList).length = l.length + sv.size := by rw [List.length_append, hs]
  have hW2 : Wrote w1 w2 b := ⟨(Below.refl b w1).grown hgrow (by omega) (fun k hk => (hown.lt k hk).1), (Lib.OthersKept.refl _ _ w1).grown hgrow (Lib.ownsRowF_kind hown), hgrow.size⟩
  refine ⟨rfl, .inr ⟨_, (set_pen hb2).2.1 _, ?_⟩, (hk1'.trans hW2).trans (Wrote.set _ _ _ _)⟩
  rw [hcc, hln]
  exact own_set hown' hb2 _ _
end Go.Proofs.YtpikfdkgblghhaaGreatDoor
namespace Go.Proofs.YtpikfdkgblghhaaGreatDoor
open Go.RowKit Pn
set_option maxRecDepth 100000
set_option linter.unusedSimpArgs false
set_option linter.unusedVariables false
namespace Pn
theorem itoa_pos {n : Int} (h : 0 ≤ n) : Lib.itoa n = Lib.decDigits n.toNat := by unfold Lib.itoa; rw [if_neg (by omega)]
theorem dec_big {u : Nat} (h : ¬ u < 10) : Lib.decDigits u = Lib.decDigits (u / 10) ++ [UInt8.ofNat (48 + u % 10)] := by rw [Lib.decDigits, dif_neg h]
theorem dec_small {u : Nat} (h : u < 10) : Lib.decDigits u = [UInt8.ofNat (48 + u)] := by rw [Lib.decDigits, dif_pos h]
/-- The digits of what is left, none of 0. -/
def dgs (m : Nat) : List UInt8 := if m = 0 then [] else Lib.decDigits m
theorem dgs_step {m : Nat} (h : 0 < m) : dgs m = dgs (m / 10) ++ [UInt8.ofNat (48 + m % 10)] := by
  unfold dgs
  rw [if_neg (by omega)]
  by_cases h1 : m < 10
  · rw [dec_small h1, if_pos (by omega), Nat.mod_eq_of_lt h1]; rfl
  · rw [dec_big h1, if_neg (by omega)]
end Pn

theorem pnConv_byte (h : UInt8) (w : World) : (convert 40 9 (.slice (some ⟨w.heap.size, 0, none⟩) 1 1)).run Tryz.prog (w.alloc (.cells #[.int .u8 (h.toNat : Int)] 5)) = .ok (.string (S [h])) (w.alloc (.cells #[.int .u8 (h.toNat : Int)] 5)) := by
  refine run_convert_bytes_back (P := Tryz.prog) _ 40 9 5 ⟨w.heap.size, 0, none⟩ 1 [h] (by kernel_rfl) (by kernel_rfl) (by kernel_rfl) (fun d hd => ?_)
  obtain rfl : d = 0 := by simp at hd; omega
  simp [Addr.add]

set_option maxHeartbeats 2000000 in
theorem pnDecimal_any (n : Int) (h0 : 0 ≤ n) (h1 : n ≤ 9223372036854775807) (w : World) :
    Calls Tryz.prog 111 #[.int .i64 n] w fun e w' => e = .returned (.string (S (Lib.itoa n))) ∧ Below w.heap.size w w' := by
  have HL := Lib.itoa_length_le n (by omega) h1
  rw [itoa_pos h0] at HL ⊢
  by_cases hz : n = 0
  · subst hz
    have HD : Aside (S (Lib.decDigits (0 : Int).toNat) = S [48]) := by show _ = _; rw [dec_small (by decide)]; rfl
    go_enter Tryz.func111, Tryz.ntmps111
    go_wp2_with fail
    go_ret
    exact ⟨by rw [HD.out]; rfl, Below.refl _ _⟩
  · obtain ⟨u, rfl⟩ : ∃ u : Nat, n = (u : Int) := ⟨n.toNat, by omega⟩
    rw [Int.toNat_natCast] at HL ⊢
    have hu0 : 0 < u := by omega
    have hvz : (((u : Nat) : Int) == 0) = false := by simp; omega
    have hvn : decide (((u : Nat) : Int) < 0) = false := by simp
    have hu : IntKind.u64.wrap ((u : Nat) : Int) = ((u : Nat) : Int) := by unfold IntKind.wrap; simp [IntKind.bits]; omega
    have HU : Aside (Lib.decDigits u = dgs u) := by show _ = _; unfold dgs; rw [if_neg (by omega)]
    have HLN : Aside ((Lib.decDigits u).length ≤ 21) := HL
    clear HL hz
    generalize hD : Lib.decDigits u = D at *
    clear hD
    go_enter Tryz.func111, Tryz.ntmps111
    go_wp2_with fail
    go_loopg [3, 4] u (fun g sv mv wr => ∃ (m : Nat) (q : List UInt8), m ≤ g ∧ m ≤ u ∧ q.length ≤ 21 ∧ sv = .string (S q) ∧ mv = .int .u64 (m : Nat) ∧ Below w.heap.size w wr ∧ Aside (D = dgs m ++ q))
    case atStart => exact ⟨u, [], Nat.le_refl _, Nat.le_refl _, by simp, rfl, rfl, Below.refl _ _, by show _ = _; rw [HU.out]; simp⟩
    case round =>
      obtain ⟨m, q, hmg, hmu, hql, rfl, rfl, hB, HQ⟩ := hrel
      by_cases hm : m = 0
      · subst hm
        have HQ' : Aside (S D = S q) := by show _ = _; rw [HQ.out]; rfl
        go_wp2_with fail
        go_ret
        exact ⟨by rw [HQ'.out]; rfl, hB⟩
      · have hm0 : (0 : Int) < (m : Int) := by omega
        have hr9 : m % 10 < 10 := Nat.mod_lt _ (by decide)
        have hst := dgs_step (show 0 < m by omega)
        generalize hc : UInt8.ofNat (48 + m % 10) = c at hst
        have hcn : c.toNat = 48 + m % 10 := by rw [← hc, UInt8.toNat_ofNat_of_lt' (by show _ < 256; omega)]
        have HN : Aside (D = dgs (m / 10) ++ (c :: q)) := by show _ = _; rw [HQ.out, hst, List.append_assoc]; rfl
        have hlen : (c :: q).length ≤ 21 := by
          have h2 := HLN.out
          rw [HN.out, List.length_append] at h2
          omega
        have hrm : (m : Int) % 10 = (c.toNat : Int) - 48 := by omega
        generalize hM : m / 10 = M at *
        have hqu : (m : Int) / 10 = (M : Int) := by omega
        have hmm : (m : Int) ≤ 9223372036854775807 := by omega
        have HS : Aside (S [c] ++ S q = S (c :: q)) := str_app [c] q
        have hsz : (S q).size ≤ 21 := by rw [S_size]; exact hql
        have hs1 : (S [c]).size = 1 := by rw [S_size]; rfl
        have hcv := pnConv_byte c wr
        have hw8 : IntKind.u8.wrap (c.toNat : Int) = (c.toNat : Int) := by unfold IntKind.wrap; simp [IntKind.bits]; omega
        have hsc : (48 : Int) + ((c.toNat : Int) - 48) = (c.toNat : Int) := by omega
        have hB' : Below w.heap.size w (wr.alloc (Obj.cells #[Value.int IntKind.u8 (c.toNat : Int)] 5)) := hB.alloc hB.size _
        clear hst hc hcn hr9
        generalize hs0 : S q = s0 at *
        generalize S [c] = s1 at *
        go_wp2_with fail
        go_roundg (gk - 1)
        case measure => omega
        case rel => exact ⟨M, c :: q, by omega, by omega, hlen, by rw [← HS.out], rfl, hB', HN⟩
end Go.Proofs.YtpikfdkgblghhaaGreatDoor
