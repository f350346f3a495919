/- Package value: what is told: add; untagged. -/
import Derived.Test.YtkmoeflodafoeaaGreatDoorUau
namespace Go.Proofs.YtkmoeflodafoeaaGreatDoor.Vl
open Go.RowKit
open T3.Tp (Ty)
set_option maxRecDepth 100000
set_option linter.unusedSimpArgs false
set_option linter.unusedVariables false
/-- An observation; a part that is still to be told. -/
structure Ob where
  k : Int
  n : Int
  s : ByteArray
structure Pt where
  v : Value
  f : Value
  d : Int
def ocell (o : Ob) : List Value := [.int .i8 o.k, .int .i64 o.n, .string o.s]
def orow (l : List Ob) : List Value := l.flatMap ocell
def pcell (p : Pt) : List Value := [p.v, p.f, .int .i64 p.d]
def prow (l : List Pt) : List Value := l.flatMap pcell
theorem orow_app (a b : List Ob) : orow (a ++ b) = orow a ++ orow b := by simp [orow]
theorem prow_app (a b : List Pt) : prow (a ++ b) = prow a ++ prow b := by simp [prow]
theorem tyOs : Tryz.prog.underlying 22 = some (.slice 79) := by kernel_rfl
theorem infoOb : (Tryz.prog.info? 79).map (fun i => (i.zero, i.size, i.bytes)) = some (some (.agg #[.int .i8 0, .int .i64 0, .string ⟨#[]⟩]), 3, 32) := by kernel_rfl
theorem tyPs : Tryz.prog.underlying 150 = some (.slice 219) := by kernel_rfl
theorem infoPt : (Tryz.prog.info? 219).map (fun i => (i.zero, i.size, i.bytes)) = some (some (.agg #[.nilIface, .nilFunc, .int .i64 0]), 3, 32) := by kernel_rfl
/-- A teller in its block: what is told, what is still to be told; its rows are its own. -/
structure TS (w : World) (tb : Nat) (lo lr : Value) (O : List Ob) (P : List Pt) : Prop where
  t : w.heap[tb]? = some (.cells #[lo, lr] 152 (0, 0))
  o : w.ownsRow (tb + 1) 79 3 lo O.length (orow O)
  p : w.ownsRow (tb + 1) 219 3 lr P.length (prow P)
theorem own_type {w : World} {b sz n : Nat} {T : TypeId} {v : Value} {xs : List Value} (h : w.ownsRow b T sz v n xs) {q : Nat} (e : v.ownBlock = some q) : ∃ cur, w.heap[q]? = some (.cells cur T (0, 0)) := by
  obtain ⟨_, ⟨rfl, _⟩ | ⟨g, cap, cur, rfl, _, hh, _⟩⟩ := h
  · cases e
  · obtain rfl : g = q := by simpa [Value.ownBlock] using e
    exact ⟨cur, hh⟩
theorem TS.ne {w : World} {tb : Nat} {lo lr : Value} {O : List Ob} {P : List Pt} (h : TS w tb lo lr O P) {q : Nat} (e : lo.ownBlock = some q) : lr.ownBlock ≠ some q := by
  intro e'
  obtain ⟨c1, h1⟩ := own_type h.o e
  obtain ⟨c2, h2⟩ := own_type h.p e'
  rw [h1] at h2
  simp at h2
theorem own_keep {w w' : World} {b sz n : Nat} {T : TypeId} {v : Value} {xs : List Value} (h : w.ownsRow b T sz v n xs) (hk : ∀ q, v.ownBlock = some q → w'.heap[q]? = w.heap[q]?) : w'.ownsRow b T sz v n xs := by
  obtain ⟨h1, h2 | ⟨g, cap, cur, rfl, hg, hh, hr⟩⟩ := h
  · exact ⟨h1, .inl h2⟩
  · exact ⟨h1, .inr ⟨g, cap, cur, rfl, hg, (hk g rfl).trans hh, hr⟩⟩
theorem TS.below {w w' : World} {tb : Nat} {lo lr : Value} {O : List Ob} {P : List Pt} (h : TS w tb lo lr O P) (hB : Below w.heap.size w w') : TS w' tb lo lr O P :=
  ⟨blk_keep h.t hB, own_keep h.o fun q e => hB.block q (World.ownsRow.lt h.o q e).2, own_keep h.p fun q e => hB.block q (World.ownsRow.lt h.p q e).2⟩
theorem TS.cells {w : World} {tb : Nat} {lo lr : Value} {O : List Ob} {P : List Pt} (h : TS w tb lo lr O P) : w.cell? ⟨tb, 0, none⟩ = some lo ∧ w.cell? ⟨tb, 1, none⟩ = some lr ∧ (∀ o, w.frozen? ⟨tb, o, none⟩ = false) ∧ tb < w.heap.size :=
  ⟨(ptr_block h.t).1 0, (ptr_block h.t).1 1, (ptr_block h.t).2.1, (ptr_block h.t).2.2⟩
/-- Behind an append to what is told. -/
theorem TS.told {w w' : World} {tb : Nat} {lo lr : Value} {O : List Ob} {P : List Pt} {ob : Obj} {x : Ob} {g cap : Nat} (h : TS w tb lo lr O P) (ho : w'.ownsRow (tb + 1) 79 3 (.slice (some ⟨g, 0, none⟩) (O.length + 1) cap) (O.length + 1) (orow O ++ ocell x)) (hg : (w.alloc ob).grownBy w' lo.ownBlock) :
    Below tb w w' ∧ w'.heap[tb]? = some (.cells #[lo, lr] 152 (0, 0)) ∧ TS (w'.setCell ⟨tb, 0, none⟩ (.slice (some ⟨g, 0, none⟩) (O.length + 1) cap)) tb (.slice (some ⟨g, 0, none⟩) (O.length + 1) cap) lr (O ++ [x]) P ∧ (∀ j o, w.heap[j]? = some o → lo.ownBlock ≠ some j → w'.heap[j]? = some o) := by
  have hlt := h.cells.2.2.2
  have kp : ∀ k, k < w.heap.size → lo.ownBlock ≠ some k → w'.heap[k]? = w.heap[k]? := fun k hk hn => by
    rw [hg.block k (by simp; omega) (fun e => hn e.symm)]
    exact Below.heap_alloc _ _ _ hk
  have h1 := (kp tb hlt (fun e => by have := (World.ownsRow.lt h.o _ e).1; omega)).trans h.t
  have hge := (World.ownsRow.lt ho g rfl).1
  refine ⟨(((Below.refl tb w).alloc (by omega) ob).grown hg (by simp; omega) (fun q e => by have := (World.ownsRow.lt h.o q e).1; omega)), h1, ⟨?_, ?_, ?_⟩, fun j o hj hn => (kp j (Array.getElem?_eq_some_iff.1 hj).1 hn).trans hj⟩
  · have := set_blk h1 0 (.slice (some ⟨g, 0, none⟩) (O.length + 1) cap)
    simpa using this
  · rw [List.length_append, orow_app]
    refine own_keep (by simpa [orow] using ho) fun q e => ?_
    rw [Below.heap_setCell _ _ _ _ (by intro e'; have : g = q := (by simpa [Value.ownBlock] using e); simp at e'; omega)]
  · refine own_keep h.p fun q e => ?_
    have hq := World.ownsRow.lt h.p q e
    rw [Below.heap_setCell _ _ _ _ (by intro e'; simp at e'; omega)]
    exact kp q hq.2 (fun e' => h.ne e' e)
set_option maxHeartbeats 1600000 in
theorem add_any (tb : Nat) (lo lr : Value) (O : List Ob) (P : List Pt) (x : Ob) (w : World) (h : TS w tb lo lr O P) (hl : O.length ≤ 5000) :
    Calls Tryz.prog 141 #[.pointer (some ⟨tb, 0, none⟩), .int .i8 x.k, .int .i64 x.n, .string x.s] w fun e w' => e = .returned (.tuple #[]) ∧ ∃ lo', TS w' tb lo' lr (O ++ [x]) P ∧ Below tb w w' ∧ (∀ j o, w.heap[j]? = some o → j ≠ tb → lo.ownBlock ≠ some j → w'.heap[j]? = some o) := by
  obtain ⟨i0, hi0, hz0, hz1, hz2⟩ := info_parts infoOb
  obtain ⟨c0, -, hf, hlt⟩ := h.cells
  have f0 := hf 0
  have H : Aside (TS w tb lo lr O P) := h
  clear hf h
  go_enter Tryz.func141, Tryz.ntmps141
  go_wp2_with (at_builtin; go_must (refine wpList_append_lies _ rfl _ _ 22 rfl (tb + 1) 79 i0 _ 3 32 tyOs hi0 hz0 hz1 hz2 rfl (by decide) lo O.length (orow O) rfl (own_keep H.out.o fun q e => Below.heap_alloc _ _ _ (World.ownsRow.lt H.out.o q e).2) ⟨w.heap.size, 0, none⟩ 1 1 (ocell x) rfl rfl (cells_listv w (ocell x) _) (by simp [ocell, Value.oneCell']) (by decide) (by unfold maxLen; omega) (by omega) (by simp; omega) _ rfl ?_); intro g9 cap9 w9 hown9 hg9 hat9 hlt9; obtain ⟨hb9, ht9, hT9, hk9⟩ := TS.told H.out hown9 hg9; have HK9 : Aside _ := hk9; clear hk9; have d0 := (ptr_block ht9).1 0; have d1 := (ptr_block ht9).2.1 0; have HT9 : Aside _ := hT9; have HB9 : Aside _ := hb9; clear hb9 ht9 hT9 hown9 hg9)
  go_end0
  refine ⟨rfl, _, HT9, HB9.out.setCell (Nat.le_refl _) _, fun j o hj hjt hn => ?_⟩
  rw [Below.heap_setCell _ _ _ _ (by intro e'; simp at e'; exact hjt e')]
  exact HK9.out j o hj hn
/-- Not tagged. -/
def NotTg (core : Value) : Prop := ∀ w, (Instr.typeAssert core 26 199 true).run Tryz.prog w = .ok (.tuple #[.pointer none, .bool false]) w
theorem ta_rt (u : Value) (w : World) : (Instr.typeAssert (.iface 203 u) 26 199 true).run Tryz.prog w = .ok (.tuple #[.pointer none, .bool false]) w := by kernel_rfl
set_option maxHeartbeats 1600000 in
theorem untagged_any (l : List Value) (x core : Value) (w : World) (h : Ch w l x core) (hn : NotWr core) (ht : NotTg core) :
    Calls Tryz.prog 173 #[x] w fun e w' => e = .returned (.tuple #[x, core]) ∧ w' = w := by
  have HC : Aside (Ch w l x core) := h
  have HN : Aside (NotWr core) := hn
  have HT : Aside (NotTg core) := ht
  have hw := ta_wr
  have hm := me_inner
  clear h hn ht
  go_enter Tryz.func173, Tryz.ntmps173
  go_upto_region 2 with fail
  go_loopg [2, 3] l.length (fun gq v2 v3 wr => ∃ rest : List Value, rest.length = gq ∧ Aside (Ch w rest v3 core) ∧ v2 = x ∧ wr = w)
  case atStart => exact ⟨l, rfl, HC, rfl, rfl⟩
  case round =>
    obtain ⟨rest, hgq, HCr, rfl, rfl⟩ := hrel
    clear HC
    cases rest with
    | nil =>
      obtain rfl : u3 = core := by have := HCr.out; cases this; rfl
      clear hgq
      have hn := HN.out
      have ht := HT.out
      unfold NotWr at hn
      unfold NotTg at ht
      go_wp2_with fail
      go_ret2
      exact ⟨rfl, rfl⟩
    | cons x' rest =>
      obtain ⟨inner, s, t, p, hr, hch⟩ : ∃ inner s t p, RcAt wr x' inner s t p ∧ Ch wr rest inner core := by have := HCr.out; cases this with | cons h1 h2 => exact ⟨_, _, _, _, h1, h2⟩
      obtain rfl : u3 = x' := by have := HCr.out; cases this; rfl
      obtain ⟨g, rfl, hg⟩ := hr
      have HCh : Aside (Ch wr rest inner core) := hch
      have ci := rc_inner g inner s t p wr hg
      have hg2 : rest.length < gk := by simp at hgq; omega
      clear hch hg hgq
      go_wp2_with (go_at_call 240; refine ci.mono ?_; rintro e w10 ⟨rfl, hw10⟩; replace hw10 := hw10.symm; subst hw10)
      go_roundg rest.length
      case measure => omega
      case rel => exact ⟨rest, rfl, HCh, rfl, rfl⟩
end Go.Proofs.YtkmoeflodafoeaaGreatDoor.Vl
