/- What strings.Split answers at one blank, and the program's binds. The finder of free names: its block, its two maps, and what meet does. Package check: the closure that tells the environment around a whole tree. Package check: the rule of operations. Package check: the rule of uses. Package check: the rules of If and List. -/
import Derived.Test.YthdlfeejeboboaaDoorUae
import Derived.Lib.IndexBytes
import Derived.Lib.SplitLaws
import Derived.Maps.AppendAt
import Derived.Test.YthdlfeejeboboaaDoorUai
import Derived.Test.YthdlfeejeboboaaDoorUak
import Derived.Deep.RegionHeld
namespace Go.Proofs.YthdlfeejeboboaaDoor
open Go.RowKit
set_option maxRecDepth 100000
set_option linter.unusedSimpArgs false

theorem hi9e : (Tryd.prog.info? 9).map (fun i => (i.zero, i.size, i.bytes)) = some (some (.string ByteArray.empty), 1, 16) := by kernel_rfl
theorem indexB_blank (s : ByteArray) : Lib.indexB s ⟨#[32]⟩ = Lib.indexByte s.data.toList 32 := Lib.index_one s.data.toList 32
/-- The pieces of a text between blanks. -/
def pcs (s : ByteArray) : List ByteArray := Lib.splitB ⟨#[32]⟩ 0 (Lib.countB s ⟨#[32]⟩) s
theorem pcs_len (s : ByteArray) : (pcs s).length = Lib.countB s ⟨#[32]⟩ + 1 := Lib.splitB_all _ (by decide) 0 _ s rfl

/-- A list of texts, wherever it lies. -/
def IsTexts (w : World) (v : Value) (ps : List (List UInt8)) : Prop :=
  (ps = [] ∧ ∃ a c, v = .slice a 0 c) ∨ ∃ b o c, v = .slice (some ⟨b, o, none⟩) ps.length c ∧ ps.length ≤ c ∧ b < w.heap.size ∧ ∀ j p, ps[j]? = some p → w.cell? ⟨b, o + j, none⟩ = some (.string (S p))
theorem IsTexts.form {w : World} {v : Value} {ps : List (List UInt8)} (h : IsTexts w v ps) : ∃ a c, v = .slice a ps.length c := by
  rcases h with ⟨rfl, a, c, rfl⟩ | ⟨b, o, c, rfl, _⟩
  · exact ⟨a, c, rfl⟩
  · exact ⟨_, c, rfl⟩
theorem IsTexts.at {w : World} {a : Option Addr} {n c : Nat} {ps : List (List UInt8)} (h : IsTexts w (.slice a n c) ps) {k : Nat} {p : List UInt8} (hp : ps[k]? = some p) : ∃ b o, a = some ⟨b, o, none⟩ ∧ n ≤ c ∧ b < w.heap.size ∧ w.cell? ⟨b, o + k, none⟩ = some (.string (S p)) := by
  rcases h with ⟨rfl, _⟩ | ⟨b, o, c', h0, h1, h2, h3⟩
  · simp at hp
  · obtain ⟨rfl, rfl, rfl⟩ : a = some ⟨b, o, none⟩ ∧ n = ps.length ∧ c = c' := by simpa using h0
    exact ⟨b, o, rfl, h1, h2, h3 k p hp⟩
theorem IsTexts.own {w : World} {base : Nat} {v : Value} {ps : List (List UInt8)} (h : w.ownsRow base 9 1 v ps.length (tcells ps)) : IsTexts w v ps := by
  by_cases h0 : ps = []
  · subst h0
    obtain ⟨a, c, rfl⟩ := own_len h
    exact .inl ⟨rfl, a, c, rfl⟩
  · obtain ⟨g, cap, rfl, hc, hg, hcell⟩ := own_cells h (List.length_pos_iff.2 h0)
    have key : ∀ j p, ps[j]? = some p → w.cell? ⟨g, 0 + j, none⟩ = some (.string (S p)) := by
      intro j p hp
      have hj : j < ps.length := (List.getElem?_eq_some_iff.1 hp).1
      rw [Nat.zero_add, hcell j (by omega)]
      unfold tcells
      rw [List.getElem?_map, hp]
      rfl
    refine .inr ⟨g, 0, cap, rfl, hc, ?_, key⟩
    obtain ⟨p, r, rfl⟩ := List.exists_cons_of_ne_nil h0
    exact World.block_lt_of_cell? w _ (key 0 p rfl)
theorem IsTexts.pcs (w : World) (ls : List (List UInt8)) : IsTexts (w.alloc (.cells (tcells ls).toArray 9)) (.slice (some ⟨w.heap.size, 0, none⟩) ls.length ls.length) ls := by
  refine .inr ⟨_, 0, _, rfl, Nat.le_refl _, by simp, fun j p hp => ?_⟩
  rw [(block_cells (heap_alloc_new w (.cells (tcells ls).toArray 9))).1, Nat.zero_add]
  simp [tcells, hp]

namespace Tr
theorem name_chars {l : List UInt8} (h : nameB l = true) : (32 : UInt8) ∉ l := by
  intro hm
  unfold nameB at h
  simp only [Bool.and_eq_true, beq_iff_eq] at h
  obtain ⟨⟨⟨⟨h1, h2⟩, h3⟩, h4⟩, h5⟩ := h
  obtain ⟨j, hj, he⟩ := List.getElem_of_mem hm
  have := (Tx.upTo_all Tx.innerB l 0 j (Nat.zero_le _) (by rw [h4]; exact hj)).1
  unfold Tx.B at this
  rw [List.getElem?_eq_getElem hj, he] at this
  revert this
  decide
theorem index_none {l : List UInt8} (h : (32 : UInt8) ∉ l) : Lib.indexByte l 32 = -1 := by
  induction l with
  | nil => rfl
  | cons c r ih =>
    simp at h
    unfold Lib.indexByte
    rw [if_neg (by simpa using fun e => h.1 e.symm), ih h.2]
    rfl
end Tr
theorem pcs_none (s : ByteArray) (h : (32 : UInt8) ∉ s.data.toList) : pcs s = [s] := by
  have hi : Lib.indexB s ⟨#[32]⟩ = -1 := by rw [indexB_blank]; exact Tr.index_none h
  unfold pcs
  rw [Lib.splitB_miss _ _ _ _ hi]
theorem pcs_two (s : ByteArray) {a b : List UInt8} (hc : Tr.cut32 s.data.toList = (a, b, true)) (hb : (32 : UInt8) ∉ b) : pcs s = [S a, S b] := by
  have hne : Lib.indexByte s.data.toList 32 ≠ -1 := fun e => by rw [Tr.cut32_none e] at hc; simp at hc
  obtain ⟨o, ho⟩ : ∃ o : Nat, Lib.indexByte s.data.toList 32 = o := ⟨(Lib.indexByte s.data.toList 32).toNat, by have := Lib.indexByte_ge s.data.toList 32; omega⟩
  obtain ⟨h1, h2⟩ := Tr.cut32_some ho
  rw [h2] at hc
  simp at hc
  obtain ⟨rfl, rfl⟩ := hc
  have hi : Lib.indexB s ⟨#[32]⟩ = o := by rw [indexB_blank]; exact ho
  have hx : s.extract (o + (⟨#[32]⟩ : ByteArray).size) s.size = S (s.data.toList.drop (o + 1)) := by
    show s.extract (o + 1) s.size = _
    have := S_cut s.data.toList (o + 1) s.size
    rw [List.take_of_length_le (by simp)] at this
    simpa [S] using this
  have hc := Lib.countB_hit s ⟨#[32]⟩ o (by decide) hi
  have hi2 : Lib.indexB (S (s.data.toList.drop (o + 1))) ⟨#[32]⟩ = -1 := by rw [indexB_blank]; exact Tr.index_none hb
  rw [hx, Lib.countB_miss _ _ hi2] at hc
  unfold pcs
  rw [hc, Lib.splitB_hit _ _ _ _ _ hi, hx, Lib.splitB_zero]
  congr 1
  have := S_cut s.data.toList 0 o
  simpa [S] using this

/-- A list that lies above a mark. -/
def High (v : Value) (B : Nat) : Prop := ∀ b o n c, v = .slice (some ⟨b, o, none⟩) n c → B ≤ b
namespace Tr
theorem mayB_s {x : Nd} (h : mayB x = true) : sB x = true := by
  unfold mayB at h
  simp only [Bool.and_eq_true] at h
  exact h.1.1.2
theorem name_len {l : List UInt8} (h : nameB l = true) : l.length ≤ 32 := by
  unfold nameB at h
  simp only [Bool.and_eq_true, decide_eq_true_eq] at h
  exact h.1.1.1.2
theorem cut32_join : ∀ (l : List UInt8), (cut32 l).2.2 = true → l = (cut32 l).1 ++ 32 :: (cut32 l).2.1
  | [], h => by simp [cut32] at h
  | c :: r, h => by
    rw [cut32] at h ⊢
    by_cases hc : c = 32
    · subst hc; simp
    · rw [if_neg hc] at h ⊢
      simp only at h ⊢
      rw [List.cons_append, ← cut32_join r h]
theorem nameB_nil : nameB [] = false := rfl
end Tr
theorem val_node (x : Tr.Nd) : Tr.agg x = .agg #[.int .i8 x.kind, .int .i64 x.kids, .int .i64 x.n, .string x.s, .string x.t, .string x.u, .int .i64 x.ln, .int .i64 x.co] := rfl
/-- The pieces that binds hands out. -/
theorem pcs_binds {x : Tr.Nd} (hm : Tr.mayB x = true) (hk : x.kind = 5 ∨ x.kind = 6 ∨ x.kind = 8) : x.s.size < 4294967281 ∧ (pcs x.s).map Value.string = tcells (if x.kind = 6 then [(Tr.cut32 (Tr.nm x)).1, (Tr.cut32 (Tr.nm x)).2.1] else [Tr.nm x]) := by
  have hs := Tr.mayB_s hm
  have hsl := str_len x.s
  unfold Tr.sB at hs
  rcases hk with h | h | h
  · rw [h] at hs ⊢
    have hn : nameB (Tr.nm x) = true := hs
    have hl := Tr.name_len hn
    unfold Tr.nm at hl
    refine ⟨by omega, ?_⟩
    rw [pcs_none _ (Tr.name_chars hn)]; rfl
  · rw [h] at hs ⊢
    have hn : (nameB (Tr.cut32 (Tr.nm x)).1 && nameB (Tr.cut32 (Tr.nm x)).2.1) = true := hs
    simp only [Bool.and_eq_true] at hn
    have hc : (Tr.cut32 (Tr.nm x)).2.2 = true := by
      by_cases h1 : Lib.indexByte (Tr.nm x) 32 = -1
      · rw [Tr.cut32_none h1] at hn; simp [Tr.nameB_nil] at hn
      · obtain ⟨o, ho⟩ : ∃ o : Nat, Lib.indexByte (Tr.nm x) 32 = o := ⟨(Lib.indexByte (Tr.nm x) 32).toNat, by have := Lib.indexByte_ge (Tr.nm x) 32; omega⟩
        rw [(Tr.cut32_some ho).2]
    have hl1 := Tr.name_len hn.1
    have hl2 := Tr.name_len hn.2
    have hj := congrArg List.length (Tr.cut32_join _ hc)
    simp at hj
    unfold Tr.nm at *
    refine ⟨by omega, ?_⟩
    rw [pcs_two x.s (a := (Tr.cut32 x.s.data.toList).1) (b := (Tr.cut32 x.s.data.toList).2.1) (by rw [← hc]) (Tr.name_chars hn.2)]; rfl
  · rw [h] at hs ⊢
    have hn : nameB (Tr.nm x) = true := hs
    have hl := Tr.name_len hn
    unfold Tr.nm at hl
    refine ⟨by omega, ?_⟩
    rw [pcs_none _ (Tr.name_chars hn)]; rfl

end Go.Proofs.YthdlfeejeboboaaDoor
namespace Go.Proofs.YthdlfeejeboboaaDoor
open Go.RowKit Go.Maps
open Go.WideMaps Go.WideElems
set_option maxRecDepth 100000
set_option linter.unusedSimpArgs false

theorem ty3 : Tryd.prog.underlying 3 = some (.int .i64) := by kernel_rfl
theorem tyCnt : Tryd.prog.underlying 44 = some (.map 9 3) := by kernel_rfl
theorem kz3 (w : World) : (zeroValue 3).run Tryd.prog w = .ok (.int .i64 0) w := by kernel_rfl

/-- Block b is a map that counts texts by f; it was written at most n times. -/
def Cnt (w : World) (b n : Nat) (f : List UInt8 → Nat) : Prop :=
  ∃ D : DataW Unit, w.ownsMap Tryd.prog 9 (plainElem Tryd.prog 3) b n D ∧ ∀ l, D.atKey (.string l) (.lit (.int .i64 0)) = .lit (.int .i64 (f l : Int))
theorem Cnt.lt {w : World} {b n : Nat} {f : List UInt8 → Nat} (h : Cnt w b n f) : b < w.heap.size := by obtain ⟨D, h, _⟩ := h; exact h.lt
theorem Cnt.kept {w w' : World} {b n : Nat} {f : List UInt8 → Nat} {r : Option Nat} (h : Cnt w b n f) (hg : w.grownBy w' r) (hne : some b ≠ r) : Cnt w' b n f := by
  obtain ⟨D, h1, h2⟩ := h; exact ⟨D, h1.kept hg hne, h2⟩
theorem Cnt.look {w : World} {b n : Nat} {f : List UInt8 → Nat} (h : Cnt w b n f) (s : ByteArray) (hs : s.size ≤ maxLen) :
    (Instr.lookup 44 (.map (some b)) (.string s) false).run Tryd.prog w = .ok (.int .i64 (f s.data.toList : Int)) w := by
  obtain ⟨D, h1, h2⟩ := h
  obtain ⟨c, hrun, hat, _⟩ := h1.lookup_int keyed9 tyCnt ty3 (kz3 w) (key := .string s) (kl := .string s.data.toList) (keyOf_string_mk ty9 hs)
  rw [h2] at hat
  rw [hrun]
  cases hat
  rfl
theorem Cnt.same {w : World} {b n : Nat} {f g : List UInt8 → Nat} (h : Cnt w b n f) (e : ∀ l, f l = g l) : Cnt w b n g := by
  obtain ⟨D, h1, h2⟩ := h; exact ⟨D, h1, fun l => by rw [h2, e]⟩
theorem Cnt.more {w : World} {b n m : Nat} {f : List UInt8 → Nat} (h : Cnt w b n f) (e : n ≤ m) : Cnt w b m f := by
  obtain ⟨D, h1, h2⟩ := h; exact ⟨D, h1.mono e, h2⟩
theorem Cnt.made (w : World) : Cnt (w.alloc (.map #[] 0)) w.heap.size 0 (fun _ => 0) := ⟨.map [], World.ownsMap_made w _ _ _, fun _ => rfl⟩

theorem wpList_count (w : World) {ops : Array Oper} {rest : List Oper} {o : Oper} {a : Act} {Q : Exit → Act → World → Prop}
    (hg : o.guard = none) (m x v : Operand) (hop : o.op = Op.mapUpdate 44 m x v) (b n : Nat) (f : List UInt8 → Nat) (hm : a.eval m = .map (some b)) (h : Cnt w b n f) (hn : n < 1000000) (s : ByteArray) (hs : s.size ≤ maxLen)
    (hx : a.eval x = .string s) (z : Int) (hv : a.eval v = .int .i64 z) (c : Nat) (hz : z = (c : Int)) (hc : c ≤ 1000000)
    (hK : ∀ w', Cnt w' b (n + 1) (fun l => if l = s.data.toList then c else f l) → w.grownBy w' (some b) → wpList Tryd.prog ops Q rest (a.put o.dst undef) w') :
    wpList Tryd.prog ops Q (o :: rest) a w := by
  obtain ⟨D, hD, hat⟩ := h
  subst hz
  refine wpList_mapUpdate_own w hg m x v 44 hop 9 3 keyed9 tyCnt (plainElem Tryd.prog 3) b n D hm hD (by unfold maxLen; omega) _ _ (.string s.data.toList) hx hv (keyOf_string_mk ty9 hs) (.lit (.int .i64 (c : Int))) [] (plainElem_int ty3 (by apply WalkArith.wf_i64; omega)) ?_
  intro w' h1 h2
  refine hK w' ⟨_, h1, fun l => ?_⟩ h2
  by_cases e : l = s.data.toList
  · subst e
    rw [atKey_put_same hD.isMap (by trivial)]
    simp
  · rw [atKey_put_other (by intro h; cases h; exact e rfl), hat]
    simp [e]

/-- What stays: all blocks but the finder's own; its list stays where it is, or lies in a new one. -/
structure KF (w w' : World) (fb bm tm : Nat) (fv fv' : Value) : Prop where
  os : w'.os = w.os
  tape : w'.tape = w.tape
  output : w'.output = w.output
  size : w.heap.size ≤ w'.heap.size
  block : ∀ k, k < w.heap.size → k ≠ fb → k ≠ bm → k ≠ tm → some k ≠ fv.ownBlock → w'.heap[k]? = w.heap[k]?
  row : fv'.ownBlock = fv.ownBlock ∨ ∀ k, fv'.ownBlock = some k → w.heap.size ≤ k
theorem KF.refl (w : World) (fb bm tm : Nat) (fv : Value) : KF w w fb bm tm fv fv := ⟨rfl, rfl, rfl, Nat.le_refl _, fun _ _ _ _ _ _ => rfl, .inl rfl⟩
theorem KF.trans {w w1 w2 : World} {fb bm tm : Nat} {fv fv1 fv2 : Value} (h : KF w w1 fb bm tm fv fv1) (k : KF w1 w2 fb bm tm fv1 fv2) : KF w w2 fb bm tm fv fv2 := by
  refine ⟨k.os.trans h.os, k.tape.trans h.tape, k.output.trans h.output, Nat.le_trans h.size k.size, fun i hi a1 a2 a3 a4 => ?_, ?_⟩
  · refine (k.block i (Nat.lt_of_lt_of_le hi h.size) a1 a2 a3 ?_).trans (h.block i hi a1 a2 a3 a4)
    rcases h.row with e | e
    · rw [e]; exact a4
    · intro e2; have := e i e2.symm; omega
  · rcases k.row with e | e
    · rcases h.row with e' | e'
      · exact .inl (e.trans e')
      · exact .inr (fun j hj => e' j (by rw [← e]; exact hj))
    · exact .inr (fun j hj => Nat.le_trans h.size (e j hj))
theorem KF.grown {w w' : World} {fb bm tm : Nat} {fv : Value} {r : Option Nat} (h : w.grownBy w' r) (hr : ∀ k, some k = r → k = fb ∨ k = bm ∨ k = tm) : KF w w' fb bm tm fv fv :=
  ⟨h.os, h.tape, h.output, h.size, fun k hk a1 a2 a3 _ => h.block k hk (fun e => (hr k e).elim a1 (fun e => e.elim a2 a3)), .inl rfl⟩
theorem KF.of {w w' : World} {fb bm tm : Nat} {fv : Value} (h : Below w.heap.size w w') : KF w w' fb bm tm fv fv := ⟨h.os, h.tape, h.output, h.size, fun k hk _ _ _ _ => h.block k hk, .inl rfl⟩
theorem KF.low {w w' : World} {fb bm tm R B0 : Nat} {fv fv' : Value} (h : KF w w' fb bm tm fv fv') (hB0 : B0 ≤ fb ∧ B0 ≤ bm ∧ B0 ≤ tm ∧ B0 ≤ R) (hw : B0 ≤ w.heap.size) (hr : ∀ k, fv.ownBlock = some k → R ≤ k) : Below B0 w w' :=
  ⟨h.os, h.tape, h.output, h.size, fun k hk => h.block k (by omega) (by omega) (by omega) (by omega) (fun e => by have := hr k e.symm; omega)⟩
/-- A name that is met. -/
def Tr.met (b acc : List (List UInt8)) (n : List UInt8) : List (List UInt8) := Tr.add1 acc (if n ∈ b then none else some n)

end Go.Proofs.YthdlfeejeboboaaDoor
namespace Go.Proofs.YthdlfeejeboboaaDoor
open Go.RowKit Go.Maps Ck
open Go.WideMaps Go.WideElems
open T3.Tp (Ty enc cns met)
set_option maxRecDepth 100000
set_option linter.unusedSimpArgs false

/-- Block b is a map that knows of texts the numbers that g tells. -/
def Idx (w : World) (b n : Nat) (g : List UInt8 → Option Nat) : Prop :=
  ∃ D : DataW Unit, w.ownsMap Tryd.prog 9 (plainElem Tryd.prog 3) b n D ∧ ∀ l, Maps.has D (.string l) = (g l).isSome ∧ D.atKey (.string l) (.lit (.int .i64 0)) = .lit (.int .i64 (((g l).getD 0 : Nat) : Int))

set_option maxHeartbeats 2000000 in
theorem env1_any (w : World) (M T b n : Nat) (g : List UInt8 → Option Nat) (ts : List Ty) (env : Env) (m : ByteArray) (hm : m.size ≤ maxLen) (hI : Idx w b n g) (h1 : w.cell? ⟨M, 0, none⟩ = some (.map (some b))) (vt : Value) (h2 : w.cell? ⟨T, 0, none⟩ = some vt)
    (hts : ∀ j t, ts[j]? = some t → ∃ tb k c, vt = .slice (some ⟨tb, k, none⟩) ts.length c ∧ w.cell? ⟨tb, k + j, none⟩ = some (.string (S (enc t)))) (hg : ∀ l j, g l = some j → j < ts.length) (hl : ∀ l, Ck.look env l = (g l).bind fun j => ts[j]?) :
    Calls Tryd.prog 28 #[.string m, .pointer (some ⟨M, 0, none⟩), .pointer (some ⟨T, 0, none⟩)] w fun e w2 => e = .returned (.tuple #[.string (lookS env m), .bool (lookB env m)]) ∧ w2 = w := by
  obtain ⟨D, hD, hat⟩ := hI
  obtain ⟨ha1, ha2⟩ := hat m.data.toList
  have hlk := hl m.data.toList
  cases hgm : g m.data.toList with
  | none =>
    rw [hgm] at ha1 ha2 hlk
    have e1 : lookS env m = ⟨#[]⟩ := by unfold lookS; rw [hlk]; rfl
    have e2 : lookB env m = false := by unfold lookB; rw [hlk]; rfl
    rw [e1, e2]
    have HA1 : Aside _ := ha1
    clear hat ha1 ha2 hlk hgm hg hl e1 e2 hts
    go_enter Tryd.func28, Tryd.ntmps28
    go_wp2_with (at_lookup; refine wpList_lookup_own_ok_int _ rfl _ _ 44 rfl 9 3 .i64 keyed9 tyCnt ty3 (kz3 _) b n D rfl hD _ _ rfl (keyOf_string_mk ty9 hm) ?_; intro c hc hwc; rw [HA1.out])
    go_ret2
    exact ⟨rfl, rfl⟩
  | some j =>
    rw [hgm] at ha1 ha2 hlk
    have hj := hg _ _ hgm
    obtain ⟨t, ht⟩ : ∃ t, ts[j]? = some t := ⟨_, List.getElem?_eq_getElem hj⟩
    have hlk2 : Ck.look env m.data.toList = some t := by rw [hlk]; exact ht
    have e1 : lookS env m = S (enc t) := by unfold lookS; rw [hlk2]
    have e2 : lookB env m = true := by unfold lookB; rw [hlk2]; rfl
    rw [e1, e2]
    obtain ⟨tb, k, c, rfl, hcell⟩ := hts j t ht
    have hj' : (j : Int) < (ts.length : Int) := by omega
    have HA1 : Aside _ := ha1
    have HA2 : Aside (∀ c : Int, D.atKey (.string m.data.toList) (.lit (.int .i64 0)) = .lit (.int .i64 c) → c = (j : Int)) := fun c hc => by rw [ha2] at hc; simp at hc; omega
    clear hat ha1 ha2 hlk hlk2 hgm hg hl e1 e2 hts ht
    generalize S (enc t) = st at *
    go_enter Tryd.func28, Tryd.ntmps28
    go_wp2_with (at_lookup; refine wpList_lookup_own_ok_int _ rfl _ _ 44 rfl 9 3 .i64 keyed9 tyCnt ty3 (kz3 _) b n D rfl hD _ _ rfl (keyOf_string_mk ty9 hm) ?_; intro c hc hwc; rw [HA1.out, HA2.out c hc])
    go_ret2
    exact ⟨rfl, rfl⟩
end Go.Proofs.YthdlfeejeboboaaDoor
namespace Go.Proofs.YthdlfeejeboboaaDoor
open Go.RowKit Ck
open T3.Tp (Ty enc cns met)
set_option maxRecDepth 100000
set_option linter.unusedSimpArgs false
/-- The checker's block holds the nodes. -/
def HasN (w : World) (cb : Nat) (v : Value) (l : List Tr.Nd) : Prop := w.cell? ⟨cb, 0, none⟩ = some v ∧ IsNodes w v l
theorem HasN.at {w : World} {cb : Nat} {v : Value} {l : List Tr.Nd} (h : HasN w cb v l) {i : Nat} {x : Tr.Nd} (hx : l[i]? = some x) :
    ∃ nb no c, v = .slice (some ⟨nb, no, none⟩) l.length c ∧ nb < w.heap.size ∧ ∀ j u, (Tr.ncells x)[j]? = some u → w.cell? ⟨nb, no + i * 8 + j, none⟩ = some u := by
  obtain ⟨a, c, rfl⟩ := h.2.form
  obtain ⟨b, o, rfl, h1, h2, h3⟩ := h.2.at hx
  exact ⟨b, o, c, rfl, h2, h3⟩

/-- Behind the first steps of rule: its two blocks. -/
structure Rl (w w0 : World) (x : Tr.Nd) : Prop where
  below : Below w.heap.size w w0
  size : w0.heap.size = w.heap.size + 2
  res : w0.heap[w.heap.size]? = some (.cells #[.int .i64 0, .int .i64 0] 61)
  nd : w0.heap[w.heap.size + 1]? = some (.cells (ndc x) 36)
theorem Rl.made (w : World) (x : Tr.Nd) : Rl w ((w.alloc (.cells #[.int .i64 0, .int .i64 0] 61)).alloc (.cells (ndc x) 36)) x :=
  ⟨((Below.refl _ _).alloc (Nat.le_refl _) _).alloc (by simp) _, by simp, (Below.heap_alloc _ _ _ (by simp)).trans (heap_alloc_new _ _), by have := heap_alloc_new (w.alloc (.cells #[.int .i64 0, .int .i64 0] 61)) (.cells (ndc x) 36); simpa using this⟩
/-- What a walk of rule knows of a later world. -/
theorem Rl.later {w w0 w1 : World} {x : Tr.Nd} (h : Rl w w0 x) (hB : Below w0.heap.size w0 w1) :
    ((w1.cell? ⟨w.heap.size, 0, none⟩ = some (.int .i64 0) ∧ w1.cell? ⟨w.heap.size, 1, none⟩ = some (.int .i64 0)) ∧ ∀ q, w1.frozen? ⟨w.heap.size, q, none⟩ = false) ∧
    (w1.cell? ⟨w.heap.size + 1, 0, none⟩ = some (.int .i8 x.kind) ∧ w1.cell? ⟨w.heap.size + 1, 3, none⟩ = some (.string x.s) ∧ w1.cell? ⟨w.heap.size + 1, 4, none⟩ = some (.string x.t) ∧ w1.cell? ⟨w.heap.size + 1, 5, none⟩ = some (.string x.u)) ∧
    Below w.heap.size w w1 ∧ ∀ p q, Below w.heap.size w ((w1.setCell ⟨w.heap.size, 0, none⟩ p).setCell ⟨w.heap.size, 1, none⟩ q) := by
  have k0 := (hB.block _ (by have := h.size; omega)).trans h.res
  have k1 := (hB.block _ (by have := h.size; omega)).trans h.nd
  have hb := h.below.trans (hB.mono (by have := h.size; omega))
  exact ⟨⟨⟨(block_cells k0).1 0, (block_cells k0).1 1⟩, (block_cells k0).2⟩, ⟨(block_cells k1).1 0, (block_cells k1).1 3, (block_cells k1).1 4, (block_cells k1).1 5⟩, hb, fun p q => (hb.setCell (by simp) _).setCell (by simp) _⟩

theorem Ans.form {R : Rs Ty} {e : Ending} (h : Ans R e) : ∃ s c p, e = .returned (.tuple #[.string s, .agg #[.int .i64 c, .int .i64 p]]) := by
  cases R with
  | ok t => obtain ⟨p, rfl⟩ := h; exact ⟨_, _, _, rfl⟩
  | error q => obtain ⟨_, s, rfl⟩ := h; exact ⟨_, _, _, rfl⟩

set_option maxHeartbeats 8000000 in
theorem rule_ops (w : World) (cb tb n i κ : Nat) (nv kv sv : Value) (l : List Tr.Nd) (x : Tr.Nd) (ks : List (Nat × Ty)) (e : List UInt8 × List UInt8) (hK : Kds w tb n kv ks) (hG : HasG w) (hu : usesL[κ]? = some (0, 0, [])) (he : opsL[κ]? = some e) (h1 : ks = [] ∨ e.1 = enc (opT κ).1) (h2 : e.2 = enc (opT κ).2) (h3 : (enc (opT κ).1).length ≤ 64) (hne : κ ≠ 4 ∧ κ ≠ 5 ∧ κ ≠ 6 ∧ κ ≠ 8 ∧ κ ≠ 29 ∧ κ ≠ 9 ∧ κ ≠ 18 ∧ κ ≠ 26 ∧ κ ≠ 21) (hx : l[i]? = some x) (hκ : x.kind = κ) (hN : HasN w cb nv l) (hT : HasT w cb tb n) :
    Calls Tryd.prog 34 #[.pointer (some ⟨cb, 0, none⟩), .int .i64 (i : Int), kv, sv] w fun e w' => Ans (opr (opT κ) ks) e ∧ Below w.heap.size w w' := by
  obtain ⟨nb, no, nc, rfl, hnb, hnd⟩ := hN.at hx
  have hil : i < l.length := (List.getElem?_eq_some_iff.1 hx).1
  have hil' : (i : Int) < (l.length : Int) := by omega
  have n0 : w.cell? ⟨cb, 0, none⟩ = some (.slice (some ⟨nb, no, none⟩) l.length nc) := hN.1
  have hcb : cb < w.heap.size := World.block_lt_of_cell? _ _ n0
  have hA : ∀ o, Below w.heap.size w (w.alloc o) := fun o => (Below.refl _ _).alloc (Nat.le_refl _) o
  have e0 : ∀ o, (w.alloc o).cell? ⟨cb, 0, none⟩ = some (.slice (some ⟨nb, no, none⟩) l.length nc) := fun o => ((hA o).cell hcb).trans n0
  have q0 : ∀ o, (w.alloc o).cell? ⟨nb, no + i * 8, none⟩ = some (.int .i8 x.kind) := fun o => ((hA o).cell hnb).trans (hnd 0 _ rfl)
  have q1 : ∀ o, (w.alloc o).cell? ⟨nb, no + i * 8 + 1, none⟩ = some (.int .i64 x.kids) := fun o => ((hA o).cell hnb).trans (hnd 1 _ rfl)
  have q2 : ∀ o, (w.alloc o).cell? ⟨nb, no + i * 8 + 2, none⟩ = some (.int .i64 x.n) := fun o => ((hA o).cell hnb).trans (hnd 2 _ rfl)
  have q3 : ∀ o, (w.alloc o).cell? ⟨nb, no + i * 8 + 3, none⟩ = some (.string x.s) := fun o => ((hA o).cell hnb).trans (hnd 3 _ rfl)
  have q4 : ∀ o, (w.alloc o).cell? ⟨nb, no + i * 8 + 4, none⟩ = some (.string x.t) := fun o => ((hA o).cell hnb).trans (hnd 4 _ rfl)
  have q5 : ∀ o, (w.alloc o).cell? ⟨nb, no + i * 8 + 5, none⟩ = some (.string x.u) := fun o => ((hA o).cell hnb).trans (hnd 5 _ rfl)
  have q6 : ∀ o, (w.alloc o).cell? ⟨nb, no + i * 8 + 6, none⟩ = some (.int .i64 x.ln) := fun o => ((hA o).cell hnb).trans (hnd 6 _ rfl)
  have q7 : ∀ o, (w.alloc o).cell? ⟨nb, no + i * 8 + 7, none⟩ = some (.int .i64 x.co) := fun o => ((hA o).cell hnb).trans (hnd 7 _ rfl)
  obtain ⟨w0, hw0⟩ : ∃ w0, w0 = (w.alloc (.cells #[.int .i64 0, .int .i64 0] 61)).alloc (.cells #[.int .i8 x.kind, .int .i64 x.kids, .int .i64 x.n, .string x.s, .string x.t, .string x.u, .int .i64 x.ln, .int .i64 x.co] 36) := ⟨_, rfl⟩
  have hR : Rl w w0 x := by rw [hw0]; exact Rl.made w x
  obtain ⟨R, hRR⟩ : ∃ R, R = opr (opT κ) ks := ⟨_, rfl⟩
  obtain ⟨⟨⟨r0, r1⟩, rz⟩, ⟨d0, d3, d4, d5⟩, -, -⟩ := hR.later (Below.refl _ _)
  have hκ18 : κ < 18 := (List.getElem?_eq_some_iff.1 he).1
  obtain ⟨u0, u1, u2⟩ := (hG.below hR.below).uses κ _ hu
  have hB1 : ∀ o, Below w0.heap.size w0 (w0.alloc o) := fun o => (Below.refl _ _).alloc (Nat.le_refl _) o
  have hbo : ∀ o, Below w.heap.size w (w0.alloc o) := fun o => hR.below.alloc (by have := hR.size; omega) o
  have o0 : ∀ o, (w0.alloc o).cell? ⟨1, κ * 2, none⟩ = some (.string (S e.1)) := fun o => ((hG.below (hbo o)).ops κ _ he).1
  have o1 : ∀ o, (w0.alloc o).cell? ⟨1, κ * 2 + 1, none⟩ = some (.string (S e.2)) := fun o => ((hG.below (hbo o)).ops κ _ he).2
  have dd : ∀ o, (w0.alloc o).cell? ⟨w.heap.size + 1, 0, none⟩ = some (.int .i8 (κ : Int)) := fun o => by rw [← hκ]; exact (hR.later (hB1 o)).2.1.1
  have HC : ∀ o, Calls Tryd.prog 56 #[.pointer (some ⟨cb, 0, none⟩), .agg #[.string (S e.1), .string (S e.2)], kv] (w0.alloc o) fun e w' => Ans R e ∧ Below (w0.alloc o).heap.size (w0.alloc o) w' := fun o => by
    rw [h2, hRR]
    exact operate_any _ cb tb n kv ks (S e.1) (opT κ) (hT.below hcb (hbo o)) (hK.below (hbo o)) (h1.imp_right (fun h => by rw [h])) h3
  rw [← hRR]
  have HRR : Aside _ := hRR
  clear hnd n0 hA hRR hG hT hK hN hB1 hbo h1 h2 h3 he hu
  go_enter Tryd.func34, Tryd.ntmps34
  go_upto_region 2 with fail
  rw [hκ] at hw0 d0
  rw [← hw0]
  clear hw0 e0 q0 q1 q2 q3 q4 q5 q6 q7
  obtain ⟨f4, f5, f6, f8, f29, f9, f18, f26, f21⟩ := hne
  have k29 : (κ : Int) < 29 := by omega
  have k18 : (κ : Int) < 18 := by omega
  have HC := HC (.cells #[.int .i64 0, .int .u8 0, .string (S [])] 103)
  go_wp2_with fail
  refine HC.mono ?_
  rintro e w1 ⟨hans, hB1⟩
  obtain ⟨s, c, p, rfl⟩ := hans.form
  have HA : Aside _ := hans
  obtain ⟨⟨⟨m0, m1⟩, mz⟩, -, -, hbf⟩ := hR.later (below_unalloc hB1)
  have HBF : Aside _ := hbf
  clear o0 o1 dd u0 u1 u2 hbf hans HC hR r0 r1 rz d0 d3 d4 d5
  clear hB1
  go_wp2_with fail
  try simp only [Exit.inBlock, Exit.then]
  refine bodyPost_ret (v := .tuple #[.string s, .agg #[.int .i64 c, .int .i64 p]]) (by simp [results, Tryd.results34, go_sem, m0, m1]) rfl ?_
  exact ⟨HA.out, HBF.out _ _⟩
end Go.Proofs.YthdlfeejeboboaaDoor
namespace Go.Proofs.YthdlfeejeboboaaDoor
open Go.RowKit Ck
open T3.Tp (Ty enc cns met)
set_option maxRecDepth 100000
set_option linter.unusedSimpArgs false
set_option maxHeartbeats 8000000 in
theorem rule_uses (w : World) (cb tb n i κ : Nat) (nv kv sv : Value) (l : List Tr.Nd) (x : Tr.Nd) (ks : List (Nat × Ty)) (z : Nat × UInt8 × List UInt8) (g : Nat) (k : Nat × Ty) (hK : Kds w tb n kv ks) (hG : HasG w) (hu : usesL[κ]? = some z) (hg : z.2.2 = gt g) (hk : ks[z.1]? = some k) (hh : z.2.1 = 62 ∨ z.2.1 = 44 ∨ z.2.1 = 108 ∨ z.2.1 = 120) (hne : κ ≠ 4 ∧ κ ≠ 5 ∧ κ ≠ 6 ∧ κ ≠ 8 ∧ κ ≠ 29 ∧ κ ≠ 9 ∧ κ ≠ 18 ∧ κ ≠ 26 ∧ κ ≠ 21) (hx : l[i]? = some x) (hκ : x.kind = κ) (hN : HasN w cb nv l) (hT : HasT w cb tb n) :
    Calls Tryd.prog 34 #[.pointer (some ⟨cb, 0, none⟩), .int .i64 (i : Int), kv, sv] w fun e w' => Ans (use (z.1, z.2.1, g) ks) e ∧ Below w.heap.size w w' := by
  obtain ⟨nb, no, nc, rfl, hnb, hnd⟩ := hN.at hx
  have hil : i < l.length := (List.getElem?_eq_some_iff.1 hx).1
  have hil' : (i : Int) < (l.length : Int) := by omega
  have n0 : w.cell? ⟨cb, 0, none⟩ = some (.slice (some ⟨nb, no, none⟩) l.length nc) := hN.1
  have hcb : cb < w.heap.size := World.block_lt_of_cell? _ _ n0
  have hA : ∀ o, Below w.heap.size w (w.alloc o) := fun o => (Below.refl _ _).alloc (Nat.le_refl _) o
  have e0 : ∀ o, (w.alloc o).cell? ⟨cb, 0, none⟩ = some (.slice (some ⟨nb, no, none⟩) l.length nc) := fun o => ((hA o).cell hcb).trans n0
  have q0 : ∀ o, (w.alloc o).cell? ⟨nb, no + i * 8, none⟩ = some (.int .i8 x.kind) := fun o => ((hA o).cell hnb).trans (hnd 0 _ rfl)
  have q1 : ∀ o, (w.alloc o).cell? ⟨nb, no + i * 8 + 1, none⟩ = some (.int .i64 x.kids) := fun o => ((hA o).cell hnb).trans (hnd 1 _ rfl)
  have q2 : ∀ o, (w.alloc o).cell? ⟨nb, no + i * 8 + 2, none⟩ = some (.int .i64 x.n) := fun o => ((hA o).cell hnb).trans (hnd 2 _ rfl)
  have q3 : ∀ o, (w.alloc o).cell? ⟨nb, no + i * 8 + 3, none⟩ = some (.string x.s) := fun o => ((hA o).cell hnb).trans (hnd 3 _ rfl)
  have q4 : ∀ o, (w.alloc o).cell? ⟨nb, no + i * 8 + 4, none⟩ = some (.string x.t) := fun o => ((hA o).cell hnb).trans (hnd 4 _ rfl)
  have q5 : ∀ o, (w.alloc o).cell? ⟨nb, no + i * 8 + 5, none⟩ = some (.string x.u) := fun o => ((hA o).cell hnb).trans (hnd 5 _ rfl)
  have q6 : ∀ o, (w.alloc o).cell? ⟨nb, no + i * 8 + 6, none⟩ = some (.int .i64 x.ln) := fun o => ((hA o).cell hnb).trans (hnd 6 _ rfl)
  have q7 : ∀ o, (w.alloc o).cell? ⟨nb, no + i * 8 + 7, none⟩ = some (.int .i64 x.co) := fun o => ((hA o).cell hnb).trans (hnd 7 _ rfl)
  obtain ⟨w0, hw0⟩ : ∃ w0, w0 = (w.alloc (.cells #[.int .i64 0, .int .i64 0] 61)).alloc (.cells #[.int .i8 x.kind, .int .i64 x.kids, .int .i64 x.n, .string x.s, .string x.t, .string x.u, .int .i64 x.ln, .int .i64 x.co] 36) := ⟨_, rfl⟩
  have hR : Rl w w0 x := by rw [hw0]; exact Rl.made w x
  obtain ⟨R, hRR⟩ : ∃ R, R = use (z.1, z.2.1, g) ks := ⟨_, rfl⟩
  obtain ⟨⟨⟨r0, r1⟩, rz⟩, ⟨d0, d3, d4, d5⟩, -, -⟩ := hR.later (Below.refl _ _)
  have hκ18 : κ < 29 := (List.getElem?_eq_some_iff.1 hu).1
  obtain ⟨u0, u1, u2⟩ := (hG.below hR.below).uses κ _ hu
  have hbo : ∀ o, Below w.heap.size w (w0.alloc o) := fun o => hR.below.alloc (by have := hR.size; omega) o
  have hh0 : ((z.2.1.toNat : Int) != 0) = true := by rcases hh with h | h | h | h <;> rw [h] <;> rfl
  have HC : ∀ o, Calls Tryd.prog 55 #[.pointer (some ⟨cb, 0, none⟩), .agg #[.int .i64 (z.1 : Int), .int .u8 (z.2.1.toNat : Int), .string (S z.2.2)], kv] (w0.alloc o) fun e w' => Ans R e ∧ Below (w0.alloc o).heap.size (w0.alloc o) w' := fun o => by
    rw [hg, hRR]
    exact use_any _ cb tb n z.1 g z.2.1 kv ks k (hT.below hcb (hbo o)) (hK.below (hbo o)) hk hh (hG.below (hbo o)).m
  rw [← hRR]
  have HRR : Aside _ := hRR
  clear hnd n0 hA hRR hG hT hK hN hbo hh hg hk hu
  go_enter Tryd.func34, Tryd.ntmps34
  go_upto_region 2 with fail
  rw [hκ] at hw0 d0
  rw [← hw0]
  clear hw0 e0 q0 q1 q2 q3 q4 q5 q6 q7
  obtain ⟨f4, f5, f6, f8, f29, f9, f18, f26, f21⟩ := hne
  have k29 : (κ : Int) < 29 := by omega
  have HC := HC (.cells #[.int .i64 (z.1 : Int), .int .u8 (z.2.1.toNat : Int), .string (S z.2.2)] 103)
  generalize (z.2.1.toNat : Int) = hn at *
  go_wp2_with fail
  refine HC.mono ?_
  rintro e w1 ⟨hans, hB1⟩
  obtain ⟨s, c, p, rfl⟩ := hans.form
  have HA : Aside _ := hans
  obtain ⟨⟨⟨m0, m1⟩, mz⟩, -, -, hbf⟩ := hR.later (below_unalloc hB1)
  have HBF : Aside _ := hbf
  clear u0 u1 u2 hbf hans HC hR r0 r1 rz d0 d3 d4 d5
  clear hB1
  go_wp2_with fail
  try simp only [Exit.inBlock, Exit.then]
  refine bodyPost_ret (v := .tuple #[.string s, .agg #[.int .i64 c, .int .i64 p]]) (by simp [results, Tryd.results34, go_sem, m0, m1]) rfl ?_
  exact ⟨HA.out, HBF.out _ _⟩
end Go.Proofs.YthdlfeejeboboaaDoor
namespace Go.Proofs.YthdlfeejeboboaaDoor
open Go.RowKit Ck
open T3.Tp (Ty enc cns met)
set_option maxRecDepth 100000
set_option linter.unusedSimpArgs false
set_option maxHeartbeats 8000000 in
theorem rule_if (w : World) (cb tb n i : Nat) (nv kv sv : Value) (l : List Tr.Nd) (x : Tr.Nd) (c a b : Nat × Ty) (hK : Kds w tb n kv [c, a, b]) (hx : l[i]? = some x) (hκ : x.kind = 9) (hN : HasN w cb nv l) (hT : HasT w cb tb n) :
    Calls Tryd.prog 34 #[.pointer (some ⟨cb, 0, none⟩), .int .i64 (i : Int), kv, sv] w fun e w' => Ans (if cns c.2 .tb then meetK i a.2 b else .error (23, c.1)) e ∧ Below w.heap.size w w' := by
  obtain ⟨nb, no, nc, rfl, hnb, hnd⟩ := hN.at hx
  have hil : i < l.length := (List.getElem?_eq_some_iff.1 hx).1
  have hil' : (i : Int) < (l.length : Int) := by omega
  have n0 : w.cell? ⟨cb, 0, none⟩ = some (.slice (some ⟨nb, no, none⟩) l.length nc) := hN.1
  have hcb : cb < w.heap.size := World.block_lt_of_cell? _ _ n0
  have hA : ∀ o, Below w.heap.size w (w.alloc o) := fun o => (Below.refl _ _).alloc (Nat.le_refl _) o
  have e0 : ∀ o, (w.alloc o).cell? ⟨cb, 0, none⟩ = some (.slice (some ⟨nb, no, none⟩) l.length nc) := fun o => ((hA o).cell hcb).trans n0
  have q0 : ∀ o, (w.alloc o).cell? ⟨nb, no + i * 8, none⟩ = some (.int .i8 x.kind) := fun o => ((hA o).cell hnb).trans (hnd 0 _ rfl)
  have q1 : ∀ o, (w.alloc o).cell? ⟨nb, no + i * 8 + 1, none⟩ = some (.int .i64 x.kids) := fun o => ((hA o).cell hnb).trans (hnd 1 _ rfl)
  have q2 : ∀ o, (w.alloc o).cell? ⟨nb, no + i * 8 + 2, none⟩ = some (.int .i64 x.n) := fun o => ((hA o).cell hnb).trans (hnd 2 _ rfl)
  have q3 : ∀ o, (w.alloc o).cell? ⟨nb, no + i * 8 + 3, none⟩ = some (.string x.s) := fun o => ((hA o).cell hnb).trans (hnd 3 _ rfl)
  have q4 : ∀ o, (w.alloc o).cell? ⟨nb, no + i * 8 + 4, none⟩ = some (.string x.t) := fun o => ((hA o).cell hnb).trans (hnd 4 _ rfl)
  have q5 : ∀ o, (w.alloc o).cell? ⟨nb, no + i * 8 + 5, none⟩ = some (.string x.u) := fun o => ((hA o).cell hnb).trans (hnd 5 _ rfl)
  have q6 : ∀ o, (w.alloc o).cell? ⟨nb, no + i * 8 + 6, none⟩ = some (.int .i64 x.ln) := fun o => ((hA o).cell hnb).trans (hnd 6 _ rfl)
  have q7 : ∀ o, (w.alloc o).cell? ⟨nb, no + i * 8 + 7, none⟩ = some (.int .i64 x.co) := fun o => ((hA o).cell hnb).trans (hnd 7 _ rfl)
  obtain ⟨w0, hw0⟩ : ∃ w0, w0 = (w.alloc (.cells #[.int .i64 0, .int .i64 0] 61)).alloc (.cells #[.int .i8 x.kind, .int .i64 x.kids, .int .i64 x.n, .string x.s, .string x.t, .string x.u, .int .i64 x.ln, .int .i64 x.co] 36) := ⟨_, rfl⟩
  have hR : Rl w w0 x := by rw [hw0]; exact Rl.made w x
  obtain ⟨R, hRR⟩ : ∃ R, R = if cns c.2 .tb then meetK i a.2 b else .error (23, c.1) := ⟨_, rfl⟩
  obtain ⟨⟨⟨r0, r1⟩, rz⟩, ⟨d0, d3, d4, d5⟩, -, -⟩ := hR.later (Below.refl _ _)
  have HC : Calls Tryd.prog 52 #[.pointer (some ⟨cb, 0, none⟩), .int .i64 (i : Int), kv] w0 fun e w' => Ans R e ∧ Below w0.heap.size w0 w' := by
    rw [hRR]
    exact choose_any _ cb tb n i kv c a b (hT.below hcb hR.below) (hK.below hR.below)
  rw [← hRR]
  have HRR : Aside _ := hRR
  clear hnd n0 hA hRR hT hK hN
  go_enter Tryd.func34, Tryd.ntmps34
  go_upto_region 2 with fail
  rw [hκ] at hw0 d0
  rw [← hw0]
  clear hw0 e0 q0 q1 q2 q3 q4 q5 q6 q7
  go_wp2_with fail
  refine HC.mono ?_
  rintro e w1 ⟨hans, hB1⟩
  obtain ⟨s, c, p, rfl⟩ := hans.form
  have HA : Aside _ := hans
  obtain ⟨⟨⟨m0, m1⟩, mz⟩, -, -, hbf⟩ := hR.later (hB1)
  have HBF : Aside _ := hbf
  clear hbf hans HC hR r0 r1 rz d0 d3 d4 d5
  clear hB1
  go_wp2_with fail
  try simp only [Exit.inBlock, Exit.then]
  refine bodyPost_ret (v := .tuple #[.string s, .agg #[.int .i64 c, .int .i64 p]]) (by simp [results, Tryd.results34, go_sem, m0, m1]) rfl ?_
  exact ⟨HA.out, HBF.out _ _⟩
set_option maxHeartbeats 8000000 in
theorem rule_list (w : World) (cb tb n i : Nat) (nv kv sv : Value) (l : List Tr.Nd) (x : Tr.Nd) (ks : List (Nat × Ty)) (hK : Kds w tb n kv ks) (hx : l[i]? = some x) (hκ : x.kind = 21) (hN : HasN w cb nv l) (hT : HasT w cb tb n) :
    Calls Tryd.prog 34 #[.pointer (some ⟨cb, 0, none⟩), .int .i64 (i : Int), kv, sv] w fun e w' => Ans (lst i .tq ks) e ∧ Below w.heap.size w w' := by
  obtain ⟨nb, no, nc, rfl, hnb, hnd⟩ := hN.at hx
  have hil : i < l.length := (List.getElem?_eq_some_iff.1 hx).1
  have hil' : (i : Int) < (l.length : Int) := by omega
  have n0 : w.cell? ⟨cb, 0, none⟩ = some (.slice (some ⟨nb, no, none⟩) l.length nc) := hN.1
  have hcb : cb < w.heap.size := World.block_lt_of_cell? _ _ n0
  have hA : ∀ o, Below w.heap.size w (w.alloc o) := fun o => (Below.refl _ _).alloc (Nat.le_refl _) o
  have e0 : ∀ o, (w.alloc o).cell? ⟨cb, 0, none⟩ = some (.slice (some ⟨nb, no, none⟩) l.length nc) := fun o => ((hA o).cell hcb).trans n0
  have q0 : ∀ o, (w.alloc o).cell? ⟨nb, no + i * 8, none⟩ = some (.int .i8 x.kind) := fun o => ((hA o).cell hnb).trans (hnd 0 _ rfl)
  have q1 : ∀ o, (w.alloc o).cell? ⟨nb, no + i * 8 + 1, none⟩ = some (.int .i64 x.kids) := fun o => ((hA o).cell hnb).trans (hnd 1 _ rfl)
  have q2 : ∀ o, (w.alloc o).cell? ⟨nb, no + i * 8 + 2, none⟩ = some (.int .i64 x.n) := fun o => ((hA o).cell hnb).trans (hnd 2 _ rfl)
  have q3 : ∀ o, (w.alloc o).cell? ⟨nb, no + i * 8 + 3, none⟩ = some (.string x.s) := fun o => ((hA o).cell hnb).trans (hnd 3 _ rfl)
  have q4 : ∀ o, (w.alloc o).cell? ⟨nb, no + i * 8 + 4, none⟩ = some (.string x.t) := fun o => ((hA o).cell hnb).trans (hnd 4 _ rfl)
  have q5 : ∀ o, (w.alloc o).cell? ⟨nb, no + i * 8 + 5, none⟩ = some (.string x.u) := fun o => ((hA o).cell hnb).trans (hnd 5 _ rfl)
  have q6 : ∀ o, (w.alloc o).cell? ⟨nb, no + i * 8 + 6, none⟩ = some (.int .i64 x.ln) := fun o => ((hA o).cell hnb).trans (hnd 6 _ rfl)
  have q7 : ∀ o, (w.alloc o).cell? ⟨nb, no + i * 8 + 7, none⟩ = some (.int .i64 x.co) := fun o => ((hA o).cell hnb).trans (hnd 7 _ rfl)
  obtain ⟨w0, hw0⟩ : ∃ w0, w0 = (w.alloc (.cells #[.int .i64 0, .int .i64 0] 61)).alloc (.cells #[.int .i8 x.kind, .int .i64 x.kids, .int .i64 x.n, .string x.s, .string x.t, .string x.u, .int .i64 x.ln, .int .i64 x.co] 36) := ⟨_, rfl⟩
  have hR : Rl w w0 x := by rw [hw0]; exact Rl.made w x
  obtain ⟨R, hRR⟩ : ∃ R, R = lst i .tq ks := ⟨_, rfl⟩
  obtain ⟨⟨⟨r0, r1⟩, rz⟩, ⟨d0, d3, d4, d5⟩, -, -⟩ := hR.later (Below.refl _ _)
  have HC : Calls Tryd.prog 54 #[.pointer (some ⟨cb, 0, none⟩), .int .i64 (i : Int), kv] w0 fun e w' => Ans R e ∧ Below w0.heap.size w0 w' := by
    rw [hRR]
    exact list_any _ cb tb n i kv ks (hT.below hcb hR.below) (hK.below hR.below)
  rw [← hRR]
  have HRR : Aside _ := hRR
  clear hnd n0 hA hRR hT hK hN
  go_enter Tryd.func34, Tryd.ntmps34
  go_upto_region 2 with fail
  rw [hκ] at hw0 d0
  rw [← hw0]
  clear hw0 e0 q0 q1 q2 q3 q4 q5 q6 q7
  go_wp2_with fail
  refine HC.mono ?_
  rintro e w1 ⟨hans, hB1⟩
  obtain ⟨s, c, p, rfl⟩ := hans.form
  have HA : Aside _ := hans
  obtain ⟨⟨⟨m0, m1⟩, mz⟩, -, -, hbf⟩ := hR.later (hB1)
  have HBF : Aside _ := hbf
  clear hbf hans HC hR r0 r1 rz d0 d3 d4 d5
  clear hB1
  go_wp2_with fail
  try simp only [Exit.inBlock, Exit.then]
  refine bodyPost_ret (v := .tuple #[.string s, .agg #[.int .i64 c, .int .i64 p]]) (by simp [results, Tryd.results34, go_sem, m0, m1]) rfl ?_
  exact ⟨HA.out, HBF.out _ _⟩
end Go.Proofs.YthdlfeejeboboaaDoor
