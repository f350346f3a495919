/- A builder of package strings in memory: what writes into it. Package coerce: written, of nodes without ? at their ends, with small labels; Text. Package coerce: size and lay of the casts that works asks for. From where to where a coercion goes, plain. Package coerce: partsThere. Package coerce: goes. -/
import Derived.Test.YtaaokecdmbmgbaaDoorUav
import Derived.Test.YtaaokecdmbmgbaaDoorUax
import Derived.Test.YtaaokecdmbmgbaaDoorUay
import Derived.Test.YtaaokecdmbmgbaaDoorUaz
import Derived.Deep.RegionWith
import Derived.Deep.RegionHeld3
import Derived.StillTailTactics
namespace Go.Proofs.YtaaokecdmbmgbaaDoor
open Go.RowKit Cc
set_option maxRecDepth 100000
set_option linter.unusedSimpArgs false
set_option linter.unusedVariables false
namespace Cc
theorem infoB : (Tryd.prog.info? 5).map (fun i => (i.zero, i.size, i.bytes)) = some (some (.int .u8 0), 1, 1) := by kernel_rfl
theorem tyBs : Tryd.prog.underlying 89 = some (.slice 5) := by kernel_rfl
theorem tyStr : Tryd.prog.underlying 9 = some .string := by kernel_rfl
theorem tyPb : Tryd.prog.underlying 112 = some (.pointer 114) := by kernel_rfl
theorem tyUn : Tryd.prog.underlying 148 = some .unsafePointer := by kernel_rfl
theorem sizeSb : (Tryd.prog.info? 114).map (·.size) = some 2 := by kernel_rfl
theorem liesSb : liesAt Tryd.prog Tryd.prog.depth 114 (2 / Tryd.prog.cellsOf 114) 0 114 1 = true := by kernel_rfl
/-- The builder's block, and what it has written. -/
def Bld (w : World) (pb : Nat) (l : List UInt8) : Prop := Lib.IsBuilderF 114 5 pb pb (Lib.byteCells l) w
/-- What a writer leaves alone. -/
def Wrt (w w' : World) (pb : Nat) : Prop := Below pb w w' ∧ Lib.OthersKept 5 (some pb) w w' ∧ w.heap.size ≤ w'.heap.size
end Cc
set_option maxHeartbeats 1000000 in
theorem copyCheck_any (b : Nat) (bs : List Value) (w : World) (h : Lib.IsBuilderF 114 5 b b bs w) :
    Calls Tryd.prog 90 #[.pointer (some ⟨b, 0, none⟩)] w fun e w' => e = .returned (.tuple #[]) ∧ Lib.BuilderAtF 114 5 b b (.pointer (some ⟨b, 0, none⟩)) bs w' ∧ Wrt w w' b := by
  rcases h with h | h
  · obtain ⟨j, hj, hjs⟩ := Option.map_eq_some_iff.1 sizeSb
    have c0 := h.cell0
    have f0 := h.frozen0
    have hsh := h.shape
    go_enter Tryd.func90, Tryd.ntmps90
    go_wp2
    rw [Lib.run_to_unsafe w ⟨b, 0, none⟩ tyPb tyUn hj (by rw [hjs]; decide) hsh (Nat.zero_lt_succ 1)]
    simp only [Result.andThen]
    rw [Oper.upon_value]
    go_wp2
    rw [run_callFunc_extern Tryd.func98 (by kernel_rfl) (by kernel_rfl) (by kernel_rfl) (e := Extern.AbiNoEscape.same) (by kernel_rfl)]
    rw [Lib.run_noEscape]
    simp only [Result.andThen]
    rw [Oper.upon_value]
    go_wp2
    rw [Lib.run_from_unsafe w ⟨b, 0, none⟩ tyUn tyPb hj hsh liesSb]
    simp only [Result.andThen]
    rw [Oper.upon_value]
    go_wp2
    go_end0
    exact ⟨rfl, h.used _, (Below.refl b w).setCell (p := ⟨b, 0, none⟩) h.1 _, (Lib.OthersKept.refl _ _ w).setCell ⟨b, 0, none⟩ rfl _, by simp [World.setCell]⟩
  · obtain ⟨j, hj, _⟩ := Option.map_eq_some_iff.1 sizeSb
    have c0 := h.cell0
    go_enter Tryd.func90, Tryd.ntmps90
    go_wp2
    rw [Lib.run_neq_ptr_same w _ tyPb hj]
    go_wp2
    go_end0
    exact ⟨rfl, h, Below.refl b _, Lib.OthersKept.refl _ _ _, Nat.le_refl _⟩
set_option maxHeartbeats 2000000 in
theorem writeByte_any (b : Nat) (l : List UInt8) (c : UInt8) (w : World) (h : Bld w b l) (hlen : l.length ≤ 100000) (hb : b < w.heap.size) :
    Calls Tryd.prog 75 #[.pointer (some ⟨b, 0, none⟩), .int .u8 (c.toNat : Int)] w fun e w' => e = .returned .nilIface ∧ Bld w' b (l ++ [c]) ∧ Wrt w w' b := by
  obtain ⟨i0, hi, hz0, hz1, hz2⟩ := info_parts infoB
  have hbl := Lib.byteCells_length l
  go_enter Tryd.func75, Tryd.ntmps75
  go_wp2_with (go_at_call 90; refine (copyCheck_any b _ _ h).mono ?_)
  rintro e w1 ⟨rfl, h1, hb1, hk1, hz1'⟩
  obtain ⟨hB, v, hbk, hown, hne⟩ := h1
  have c0 : w1.cell? ⟨b, 0, none⟩ = some (.pointer (some ⟨b, 0, none⟩)) := by rw [Lib.cell_of_heap hbk]; rfl
  have c1 : w1.cell? ⟨b, 1, none⟩ = some v := by rw [Lib.cell_of_heap hbk]; rfl
  have hlt : b < w1.heap.size := by omega
  go_wp2_with (at_builtin; refine wpList_append_ownF _ rfl _ _ 89 rfl b 5 i0 (.int .u8 0) 1 1 tyBs hi hz0 hz1 hz2 rfl (by decide) _ _ _ rfl (hown.alloc _) ⟨w1.heap.size, 0, none⟩ 1 1 [.int .u8 (c.toNat : Int)] rfl rfl ?c1 ?c2 ?c3 ?c4 ?c5 ?_)
  case c1 =>
    intro j u hj
    match j, hj with
    | 0, hj => simp at hj; subst hj; simp [Addr.add]
  case c2 => intro u hu; simp at hu; subst hu; rfl
  case c3 => unfold maxLen; omega
  case c4 => omega
  case c5 => simp; omega
  intro v' w2 hown' hgrow _
  have hb2 : w2.heap[b]? = some (.cells #[.pointer (some ⟨b, 0, none⟩), v] 114 (0, 0)) := by
    rw [hgrow.block b (by simp; omega) (fun e => hne e.symm), Lib.alloc_old w1 _ b hlt]
    exact hbk
  have d0 : w2.cell? ⟨b, 0, none⟩ = some (.pointer (some ⟨b, 0, none⟩)) := by rw [Lib.cell_of_heap hb2]; rfl
  have d1 : w2.cell? ⟨b, 1, none⟩ = some v := by rw [Lib.cell_of_heap hb2]; rfl
  have f1 : w2.frozen? ⟨b, 1, none⟩ = false := Lib.frozen_of_heap hb2 1
  obtain ⟨ao, n', cap, rfl⟩ : ∃ ao n' cap, v' = .slice ao n' cap := by
    rcases hown'.2 with ⟨hv, _⟩ | ⟨g, cap, cur, fz, hv, _⟩
    · exact ⟨_, _, _, hv⟩
    · exact ⟨_, _, _, hv⟩
  go_wp2
  go_ret
  refine ⟨rfl, .inr ?_, ((hb1.alloc (by omega) _).grown hgrow (by simp; omega) (fun k hk => (hown.lt k hk).1)).setCell (p := ⟨b, 1, none⟩) hB _, ((hk1.alloc _).grown hgrow (Lib.ownsRowF_kind (hown.alloc _))).setCell ⟨b, 1, none⟩ rfl _, by have := hgrow.size; simp [World.setCell] at this ⊢; omega⟩
  have hcc : Lib.byteCells (l ++ [c]) = Lib.byteCells l ++ [.int .u8 (c.toNat : Int)] := by simp [Lib.byteCells]
  rw [hcc]
  exact Lib.BuilderAtF.put (T := 114) (e := 5) hB hb2 (bs' := Lib.byteCells l ++ [.int .u8 (c.toNat : Int)]) (by rw [List.length_append, hbl]; simpa [hbl] using hown') (by decide)
set_option maxHeartbeats 2000000 in
theorem writeString_any (b : Nat) (l s : List UInt8) (w : World) (h : Bld w b l) (hlen : l.length + s.length ≤ 100000) (hb : b < w.heap.size) :
    Calls Tryd.prog 73 #[.pointer (some ⟨b, 0, none⟩), .string ⟨s.toArray⟩] w fun e w' => e = .returned (.tuple #[.int .i64 s.length, .nilIface]) ∧ Bld w' b (l ++ s) ∧ Wrt w w' b := by
  obtain ⟨i0, hi, hz0, hz1, hz2⟩ := info_parts infoB
  have hs : (⟨s.toArray⟩ : ByteArray).size = s.length := by simp [ByteArray.size]
  have hbl := Lib.byteCells_length l
  obtain ⟨S, hS⟩ : ∃ S : ByteArray, S = ⟨s.toArray⟩ := ⟨_, rfl⟩
  rw [← hS] at hs ⊢
  have HS : Aside (S = ⟨s.toArray⟩) := hS
  clear hS
  go_enter Tryd.func73, Tryd.ntmps73
  go_wp2_with (go_at_call 90; refine (copyCheck_any b _ _ h).mono ?_)
  rintro e w1 ⟨rfl, h1, hb1, hk1, hz1'⟩
  obtain ⟨hB, v, hbk, hown, hne⟩ := h1
  have c0 : w1.cell? ⟨b, 0, none⟩ = some (.pointer (some ⟨b, 0, none⟩)) := by rw [Lib.cell_of_heap hbk]; rfl
  have c1 : w1.cell? ⟨b, 1, none⟩ = some v := by rw [Lib.cell_of_heap hbk]; rfl
  have hlt : b < w1.heap.size := by omega
  go_wp2_with (at_builtin; refine Lib.wpList_append_own_stringF _ rfl _ _ 89 9 rfl b 5 i0 tyBs tyStr hi hz0 hz1 hz2 _ _ _ rfl hown S rfl ?c3 ?c4 ?c5 ?_)
  case c3 => unfold maxLen; omega
  case c4 => omega
  case c5 => omega
  intro v' w2 hown' hgrow _
  have hb2 : w2.heap[b]? = some (.cells #[.pointer (some ⟨b, 0, none⟩), v] 114 (0, 0)) := by
    rw [hgrow.block b hlt (fun e => hne e.symm)]
    exact hbk
  have d0 : w2.cell? ⟨b, 0, none⟩ = some (.pointer (some ⟨b, 0, none⟩)) := by rw [Lib.cell_of_heap hb2]; rfl
  have d1 : w2.cell? ⟨b, 1, none⟩ = some v := by rw [Lib.cell_of_heap hb2]; rfl
  have f1 : w2.frozen? ⟨b, 1, none⟩ = false := Lib.frozen_of_heap hb2 1
  obtain ⟨ao, n', cap, rfl⟩ : ∃ ao n' cap, v' = .slice ao n' cap := by
    rcases hown'.2 with ⟨hv, _⟩ | ⟨g, cap, cur, fz, hv, _⟩
    · exact ⟨_, _, _, hv⟩
    · exact ⟨_, _, _, hv⟩
  go_wp2
  go_ret2
  refine ⟨rfl, .inr ?_, (hb1.grown hgrow (by omega) (fun k hk => (hown.lt k hk).1)).setCell (p := ⟨b, 1, none⟩) hB _, (hk1.grown hgrow (Lib.ownsRowF_kind hown)).setCell ⟨b, 1, none⟩ rfl _, by have := hgrow.size; simp [World.setCell]; omega⟩
  have hcc : Lib.byteCells (l ++ s) = Lib.byteCells l ++ Lib.strCells S := by rw [HS.out]; simp [Lib.byteCells, Lib.strCells]
  rw [hcc]
  exact Lib.BuilderAtF.put (T := 114) (e := 5) hB hb2 (bs' := Lib.byteCells l ++ Lib.strCells S) (by rw [List.length_append, Lib.strCells_length, hbl, hs]; exact hown') (by decide)
end Go.Proofs.YtaaokecdmbmgbaaDoor
namespace Go.Proofs.YtaaokecdmbmgbaaDoor
open Go.RowKit Cc
set_option maxRecDepth 100000
set_option linter.unusedSimpArgs false
set_option linter.unusedVariables false
namespace Cc
/-- A node, and its text. -/
def Wr (x : N) (t : List UInt8) : Prop :=
  x.proj = 0 ∧ x.inj = false ∧ ((∃ c : UInt8, x.op ≠ 1 ∧ x.op ≠ 7 ∧ x.head = (c.toNat : Int) ∧ t = [c]) ∨ ∃ (i : Nat) (f g : UInt8), i < 100 ∧ x.op = 7 ∧ x.label = (i : Int) ∧ x.frm = (f.toNat : Int) ∧ x.tto = (g.toNat : Int) ∧ t = (35 :: Lib.decDigits i) ++ [f] ++ [g])
theorem bld_new (w : World) : Bld (w.alloc (.cells #[.pointer none, .slice none 0 0] 114)) w.heap.size [] :=
  .inl ⟨Nat.le_refl _, _, heap_alloc_new _ _, World.ownsRowF_nil _ _ _ _, by simp [Value.ownBlock]⟩
theorem Bld.alloc {w : World} {pb : Nat} {l : List UInt8} (h : Bld w pb l) (o : Obj) : Bld (w.alloc o) pb l := Lib.IsBuilderF.alloc h o
theorem kept_new {w w' : World} {pb : Nat} {cs : Array Value} {t : TypeId} (h : Lib.OthersKept 5 (some pb) (w.alloc (.cells cs t)) w') (ht : t ≠ 5) (hp : pb < w.heap.size) : w'.heap[w.heap.size]? = some (.cells cs t (0, 0)) := by
  refine h w.heap.size _ (heap_alloc_new w _) ?_ ?_
  · intro e; injection e with e; omega
  · intro c fz e; injection e with _ e _; exact ht e
theorem bytes_cons (c : UInt8) (d : List UInt8) : (⟨#[c]⟩ : ByteArray) ++ ⟨d.toArray⟩ = ⟨(c :: d).toArray⟩ := by
  apply ByteArray.ext
  simp
/-- What holds at a round's head. -/
structure Wst (w wr : World) (l : List UInt8) : Prop where
  bl : Below w.heap.size w wr
  bd : Bld wr w.heap.size l
  lt : w.heap.size < wr.heap.size
theorem Wst.wrt {w w1 w2 : World} {l l' : List UInt8} (h : Wst w w1 l) (hb : Bld w2 w.heap.size l') (hw : Wrt w1 w2 w.heap.size) : Wst w w2 l' :=
  ⟨h.bl.trans hw.1, hb, Nat.lt_of_lt_of_le h.lt hw.2.2⟩
theorem Wst.alloc {w w1 : World} {l : List UInt8} (h : Wst w w1 l) (o : Obj) : Wst w (w1.alloc o) l :=
  ⟨h.bl.alloc h.bl.size _, h.bd.alloc _, by have := h.lt; simp; omega⟩
theorem box_cells {w : World} {g : Nat} {cs : Array Value} {t : TypeId} (h : w.heap[g]? = some (.cells cs t (0, 0))) (o : Nat) : w.cell? ⟨g, o, none⟩ = cs[o]? := Lib.cell_of_heap h o
end Cc
set_option maxHeartbeats 3200000 in
theorem written_any (l : List N) (ts : List (List UInt8)) (v : Value) (w : World) (hl : IsCos w v l) (hn : l.length ≤ 1000) (hts : ts.length = l.length) (hw : ∀ (k : Nat) x t, l[k]? = some x → ts[k]? = some t → Wr x t) (ht : ts.flatten.length ≤ 10000) :
    Calls Tryd.prog 58 #[v] w fun e w' => e = .returned (.string ⟨ts.flatten.toArray⟩) ∧ Below w.heap.size w w' := by
  obtain ⟨al, cl, rfl⟩ := hl.form
  have HL : Aside (IsCos w (.slice al l.length cl) l) := hl
  have HW : Aside (∀ (k : Nat) x t, l[k]? = some x → ts[k]? = some t → Wr x t) := hw
  have HT : Aside (ts.flatten.length ≤ 10000) := ht
  have HN : Aside (ts.length = l.length) := hts
  clear hl hw ht hts
  go_enter Tryd.func58, Tryd.ntmps58
  go_wp2
  go_loopg [8] l.length (fun gq tq wr => ∃ k : Nat, k + gq = l.length ∧ tq = .int .i64 (k : Int) ∧ Aside (Wst w wr (ts.take k).flatten))
  case atStart => exact ⟨0, by omega, rfl, ⟨(Below.refl _ _).alloc (Nat.le_refl _) _, by simpa using bld_new w, by simp⟩⟩
  case round =>
    obtain ⟨k, hkg, rfl, HS⟩ := hrel
    by_cases hk : k < l.length
    · have hk' : (k : Int) < (l.length : Int) := by omega
      obtain ⟨x, hx⟩ : ∃ x, l[k]? = some x := ⟨_, List.getElem?_eq_getElem hk⟩
      obtain ⟨t, htk⟩ : ∃ t, ts[k]? = some t := ⟨_, List.getElem?_eq_getElem (by rw [HN.out]; exact hk)⟩
      have hwr := HW.out k x t hx htk
      obtain ⟨b, o, c, e1, hA⟩ := (HL.out.below HS.out.bl).at hx
      injection e1 with e1 _ e3
      subst e1 e3
      obtain ⟨g0, g1, g2, g3, g4, g5, g6⟩ := hA
      have HF : Aside ((ts.take (k + 1)).flatten = (ts.take k).flatten ++ t) := by
        show _ = _
        obtain ⟨hk2, e⟩ := List.getElem?_eq_some_iff.1 htk
        rw [List.take_succ_eq_append_getElem hk2, e]
        simp
      have HLen : Aside ((ts.take k).flatten.length + t.length ≤ 10000) := by
        show _ ≤ _
        have h1 := HT.out
        have h2 : ts.flatten = (ts.take (k + 1)).flatten ++ (ts.drop (k + 1)).flatten := by rw [← List.flatten_append, List.take_append_drop]
        rw [h2, HF.out] at h1
        simp only [List.length_append] at h1
        omega
      clear hx htk
      generalize (ts.take k).flatten = pre at *
      obtain ⟨hp, hj, hkind⟩ := hwr
      rw [hp] at g1
      rw [hj] at g2
      rcases hkind with ⟨ch, h1, h7, hh, rfl⟩ | ⟨i, f, g, hi, h7, hlb, hf, hg, rfl⟩
      · rw [hh] at g3
        have cw : ∀ W, Wst w W pre → Calls Tryd.prog 75 #[.pointer (some ⟨w.heap.size, 0, none⟩), .int .u8 (ch.toNat : Int)] W fun e w' => e = .returned .nilIface ∧ Wst w w' (pre ++ [ch]) := fun W hW =>
          (writeByte_any w.heap.size pre ch W hW.bd (by have := HLen.out; simp at this; omega) hW.lt).mono (by rintro e w' ⟨rfl, hb, hwt⟩; exact ⟨rfl, hW.wrt hb hwt⟩)
        clear hp hj hh
        go_wp2_with (go_at_call 75; refine (cw _ (HS.out.alloc _)).mono ?_; rintro e w2 ⟨rfl, hW2⟩; have HW2 : Aside (Wst w w2 (pre ++ [ch])) := hW2; clear hW2)
        go_roundg (l.length - (k + 1))
        case measure => omega
        case rel => exact ⟨k + 1, by omega, by go_num, by rw [HF.out]; exact HW2⟩
      · rw [h7] at g0
        rw [hlb] at g4
        rw [hf] at g5
        rw [hg] at g6
        have cf := Tryd.strconv_FormatInt_10_small i hi
        have cs : ∀ W, Wst w W pre → Calls Tryd.prog 73 #[.pointer (some ⟨w.heap.size, 0, none⟩), .string ⟨(35 :: Lib.decDigits i).toArray⟩] W fun e w' => e = .returned (.tuple #[.int .i64 (35 :: Lib.decDigits i).length, .nilIface]) ∧ Wst w w' (pre ++ (35 :: Lib.decDigits i)) ∧ Lib.OthersKept 5 (some w.heap.size) W w' := fun W hW =>
          (writeString_any w.heap.size pre _ W hW.bd (by have := HLen.out; simp at this ⊢; omega) hW.lt).mono (by rintro e w' ⟨rfl, hb, hwt⟩; exact ⟨rfl, hW.wrt hb hwt, hwt.2.1⟩)
        have cw : ∀ W ch l', Wst w W l' → l'.length ≤ 10000 → Calls Tryd.prog 75 #[.pointer (some ⟨w.heap.size, 0, none⟩), .int .u8 (UInt8.toNat ch : Int)] W fun e w' => e = .returned .nilIface ∧ Wst w w' (l' ++ [ch]) ∧ Lib.OthersKept 5 (some w.heap.size) W w' := fun W ch l' hW hl' =>
          (writeByte_any w.heap.size l' ch W hW.bd (by omega) hW.lt).mono (by rintro e w' ⟨rfl, hb, hwt⟩; exact ⟨rfl, hW.wrt hb hwt, hwt.2.1⟩)
        have hbc := bytes_cons 35 (Lib.decDigits i)
        clear hp hj h7 hlb hf hg
        go_wp2_with fail
        refine (cf _).mono ?_
        rintro e w1 ⟨rfl, rfl⟩
        have HDL : Aside ((Lib.decDigits i).length ≤ 9999) := by have := HLen.out; simp at this; show _ ≤ _; omega
        go_wp2_with fail
        · exfalso
          rename_i hov
          have h9 := HDL.out
          first | omega | (simp only [ByteArray.size] at hov; simp at hov; omega)
        refine (cs _ (HS.out.alloc _)).mono ?_
        rintro e w2 ⟨rfl, hW2, hK2⟩
        have HW2 : Aside (Wst w w2 (pre ++ (35 :: Lib.decDigits i))) := hW2
        have hbx := kept_new hK2 (by decide) HS.out.lt
        have c5 := box_cells hbx 5
        simp at c5
        have HX2 : Aside (w2.heap[wr.heap.size]? = some (.cells #[.int .i8 7, .int .i64 0, .bool false, .int .u8 x.head, .int .i64 (i : Int), .int .u8 (f.toNat : Int), .int .u8 (g.toNat : Int)] 29 (0, 0))) := hbx
        clear hW2 hK2 hbx
        go_wp2_with fail
        refine (cw _ f _ HW2.out (by have := HLen.out; simp at this ⊢; omega)).mono ?_
        rintro e w3 ⟨rfl, hW3, hK3⟩
        have hbx := hK3 wr.heap.size _ HX2.out (by have := HS.out.lt; intro e; injection e with e; omega) (by intro c fz e; injection e with _ e _; exact absurd e (by decide))
        have c6 := box_cells hbx 6
        simp at c6
        have HW3 : Aside (Wst w w3 (pre ++ (35 :: Lib.decDigits i) ++ [f])) := hW3
        clear hW3 hK3 hbx c5
        go_wp2_with fail
        refine (cw _ g _ HW3.out (by have := HLen.out; simp at this ⊢; omega)).mono ?_
        rintro e w4 ⟨rfl, hW4, -⟩
        have HW4 : Aside (Wst w w4 (pre ++ (35 :: Lib.decDigits i) ++ [f] ++ [g])) := hW4
        clear hW4 c6
        go_wp2_with fail
        go_roundg (l.length - (k + 1))
        case measure => omega
        case rel => exact ⟨k + 1, by omega, by go_num, by rw [HF.out]; simpa [Aside] using HW4.out⟩
    · obtain rfl : k = l.length := by omega
      have cst := Tryd.Builder_String_any_k w.heap.size w.heap.size ts.flatten wr (by have h := HS.out.bd; rw [← HN.out, List.take_length] at h; exact h) (by have := HS.out.lt; omega)
      have HB : Aside (Below w.heap.size w wr) := HS.out.bl
      go_wp2_with (go_at_call 76; refine cst.mono ?_; rintro e w2 ⟨rfl, -, hB2, -⟩)
      go_ret
      exact ⟨rfl, HB.out.trans hB2⟩
set_option maxHeartbeats 800000 in
theorem Text_any (l : List N) (ts : List (List UInt8)) (v : Value) (w : World) (hl : IsCos w v l) (hn : l.length ≤ 1000) (hts : ts.length = l.length) (hw : ∀ (k : Nat) x t, l[k]? = some x → ts[k]? = some t → Wr x t) (ht : ts.flatten.length ≤ 10000) (hm : (Cc.whole l).isSome = true) :
    Calls Tryd.prog 36 #[v] w fun e w' => e = .returned (.tuple #[.string ⟨ts.flatten.toArray⟩, .int .i64 0]) ∧ Below w.heap.size w w' := by
  have c1 := May_any l v w hl (by omega)
  rw [hm] at c1
  have c2 : ∀ W, Below w.heap.size w W → Calls Tryd.prog 58 #[v] W fun e w' => e = .returned (.string ⟨ts.flatten.toArray⟩) ∧ Below w.heap.size w w' := fun W hW =>
    (written_any l ts v W (hl.below hW) hn hts hw ht).mono (by rintro e w' ⟨rfl, hB⟩; exact ⟨rfl, hW.trans (hB.mono hW.size)⟩)
  clear hl hw ht hts hm
  generalize (⟨ts.flatten.toArray⟩ : ByteArray) = T at *
  go_enter Tryd.func36, Tryd.ntmps36
  go_wp2_with (first | (go_at_call 18; refine c1.mono ?_; rintro e w1 ⟨rfl, hB⟩) | (go_at_call 58; refine (c2 _ hB).mono ?_; rintro e w2 ⟨rfl, hB2⟩))
  go_ret2
  exact ⟨rfl, hB2⟩
end Go.Proofs.YtaaokecdmbmgbaaDoor
namespace Go.Proofs.YtaaokecdmbmgbaaDoor
open Go.RowKit Cc
set_option maxRecDepth 100000
set_option linter.unusedSimpArgs false
set_option linter.unusedVariables false
namespace Cc
/-- A base type's text, of this letter. -/
abbrev sB (c : UInt8) : ByteArray := ⟨#[c]⟩
def bT : UInt8 → T3.Tp.Ty := fun c => if c = 98 then .tb else .ti
theorem sB_i : sB 105 = T3.S (T3.Tp.enc .ti) := rfl
theorem sB_b : sB 98 = T3.S (T3.Tp.enc .tb) := rfl
end Cc
set_option maxHeartbeats 800000 in
theorem ground_b (c : UInt8) (hc : c = 105 ∨ c = 98) (w : World) :
    Calls Tryd.prog 51 #[.string (sB c)] w fun e w' => e = .returned (.string (sB c)) ∧ Below w.heap.size w w' := by
  have ct : ∀ W, Calls Tryd.prog 70 #[.string (sB c)] W fun e w' => e = .returned (.bool true) ∧ w' = W := fun W => T3.isType_yes _ (by rcases hc with rfl | rfl <;> rfl) W
  have cp : ∀ W, Calls Tryd.prog 67 #[.int .u8 (c.toNat : Int)] W fun e w' => e = .returned (.int .i64 0) ∧ w' = W := fun W => by
    have h := T3.partsOf_any (c.toNat : Int) W
    rwa [show T3.Tp.ar (c.toNat : Int) = 0 by rcases hc with rfl | rfl <;> rfl] at h
  have cr := Tryd.strings_Repeat_zero (sB 63)
  rcases hc with rfl | rfl
  all_goals
    go_enter Tryd.func51, Tryd.ntmps51
    go_wp2_with (go_at_call 70; refine (ct _).mono ?_; rintro e w1 ⟨rfl, rfl⟩)
    go_quiet ((first | (go_at_call 67; exact Calls.quiet_of_same (cp _)) | (go_at_call 71; exact Calls.quiet_of_same (cr _))))
    go_wp2
    go_ret
    exact ⟨congrArg (fun s => Ending.returned (.string s)) (by decide), below_dN (Below.refl _ _) _⟩
theorem parts_b (c : UInt8) (hc : c = 105 ∨ c = 98) (w : World) :
    Calls Tryd.prog 52 #[.string (sB c)] w fun e w' => ∃ a k, e = .returned (.slice a 0 k) ∧ Below w.heap.size w w' := by
  rcases hc with rfl | rfl
  · refine (T3.parts_yes .ti (by decide) w).mono ?_
    rintro e w' ⟨v, rfl, hO, hB⟩
    obtain ⟨a, k, rfl⟩ := T3.own_len hO
    exact ⟨a, k, rfl, hB⟩
  · refine (T3.parts_yes .tb (by decide) w).mono ?_
    rintro e w' ⟨v, rfl, hO, hB⟩
    obtain ⟨a, k, rfl⟩ := T3.own_len hO
    exact ⟨a, k, rfl, hB⟩
theorem head_b (c : UInt8) (hc : c = 105 ∨ c = 98) (w : World) :
    Calls Tryd.prog 53 #[.string (sB c)] w fun e w' => e = .returned (.int .u8 (c.toNat : Int)) ∧ w' = w := by
  rcases hc with rfl | rfl
  · exact T3.head_yes .ti (by decide) w
  · exact T3.head_yes .tb (by decide) w
namespace Cc
/-- A contract, from a world on. -/
theorem at_of {K : Nat} {args : Array Value} {Q : Ending → Prop} (h : ∀ W, Calls Tryd.prog K args W fun e w' => Q e ∧ Below W.heap.size W w') (w W : World) (hW : Below w.heap.size w W) : Calls Tryd.prog K args W fun e w' => Q e ∧ Below w.heap.size w w' :=
  (h W).mono fun e w' ⟨a, b⟩ => ⟨a, hW.trans (b.mono hW.size)⟩
end Cc
set_option maxHeartbeats 1600000 in
theorem size_b (c : UInt8) (hc : c = 105 ∨ c = 98) (r : Bool) (w : World) :
    Calls Tryd.prog 29 #[.string (if r then sB c else sB 63), .string (if r then sB 63 else sB c)] w fun e w' => e = .returned (.int .u64 1) ∧ Below w.heap.size w w' := by
  have cg := at_of (ground_b c hc) w
  have cp : ∀ W, Below w.heap.size w W → Calls Tryd.prog 52 #[.string (sB c)] W fun e w' => (∃ a k, e = .returned (.slice a 0 k)) ∧ Below w.heap.size w w' := at_of (Q := fun e => ∃ a k, e = .returned (.slice a 0 k)) (fun W => (parts_b c hc W).mono (by rintro e w' ⟨a, k, rfl, hB⟩; exact ⟨⟨a, k, rfl⟩, hB⟩)) w
  have ch := head_b c hc
  have hB := Below.refl w.heap.size w
  have hx : ((c.toNat : Int) == 120) = false := by rcases hc with rfl | rfl <;> rfl
  rcases hc with rfl | rfl <;> cases r <;> simp only [if_true, if_false, Bool.false_eq_true]
  all_goals
    go_enter Tryd.func29, Tryd.ntmps29
    go_wp2_with (first | (go_at_call 51; refine (cg _ hB).mono ?_; rintro e w1 ⟨rfl, hB⟩) | (go_at_call 52; refine (cp _ hB).mono ?_; rintro e w2 ⟨⟨a2, k2, rfl⟩, hB⟩))
    go_loopg [5, 31] 0 (fun gq v5 tq wr => v5 = .int .u64 1 ∧ tq = .int .i64 0 ∧ Below w.heap.size w wr)
    case atStart => exact ⟨rfl, rfl, hB⟩
    case round =>
      obtain ⟨rfl, rfl, hB⟩ := hrel
      go_wp2_with (go_at_call 53; refine (ch _).mono ?_; rintro e w3 ⟨rfl, rfl⟩)
      go_ret
      exact ⟨rfl, hB⟩
namespace Cc
/-- Two texts, in a row of our own. -/
theorem own_two {W : World} {B : Nat} {v : Value} {x y : List UInt8} (h : W.ownsRow B 9 1 v 2 (T3.tcells [x, y])) : ∃ g k, v = .slice (some ⟨g, 0, none⟩) 2 k ∧ B ≤ g ∧ g < W.heap.size ∧ W.cell? ⟨g, 0, none⟩ = some (.string (T3.S x)) ∧ W.cell? ⟨g, 1, none⟩ = some (.string (T3.S y)) := by
  obtain ⟨g, cap, rfl, hc, hg, hcell⟩ := T3.own_cells h (by decide)
  have h0 := hcell 0 (by decide)
  have h1 := hcell 1 (by decide)
  exact ⟨g, cap, rfl, hg, World.block_lt_of_cell? W _ h0, h0, h1⟩
end Cc
theorem parts_f (a b : T3.Tp.Ty) (h : (T3.Tp.enc (.tf a b)).length ≤ 64) (w W : World) (hW : Below w.heap.size w W) :
    Calls Tryd.prog 52 #[.string (T3.S (T3.Tp.enc (.tf a b)))] W fun e w' => ∃ g k, e = .returned (.slice (some ⟨g, 0, none⟩) 2 k) ∧ W.heap.size ≤ g ∧ g < w'.heap.size ∧ w'.cell? ⟨g, 0, none⟩ = some (.string (T3.S (T3.Tp.enc a))) ∧ w'.cell? ⟨g, 1, none⟩ = some (.string (T3.S (T3.Tp.enc b))) ∧ Below w.heap.size w w' ∧ Below W.heap.size W w' := by
  refine (T3.parts_yes (.tf a b) h W).mono ?_
  rintro e w' ⟨v, rfl, hO, hB⟩
  obtain ⟨g, k, rfl, h1, h2, h3, h4⟩ := own_two hO
  exact ⟨g, k, rfl, h1, h2, h3, h4, hW.trans (hB.mono hW.size), hB⟩
set_option maxHeartbeats 1600000 in
theorem size_f (a b c d : T3.Tp.Ty) (h1 : (T3.Tp.enc (.tf a b)).length ≤ 64) (h2 : (T3.Tp.enc (.tf c d)).length ≤ 64) (hs1 : ∀ W, Calls Tryd.prog 29 #[.string (T3.S (T3.Tp.enc a)), .string (T3.S (T3.Tp.enc c))] W fun e w' => e = .returned (.int .u64 1) ∧ Below W.heap.size W w')
    (hs2 : ∀ W, Calls Tryd.prog 29 #[.string (T3.S (T3.Tp.enc b)), .string (T3.S (T3.Tp.enc d))] W fun e w' => e = .returned (.int .u64 1) ∧ Below W.heap.size W w') (w : World) :
    Calls Tryd.prog 29 #[.string (T3.S (T3.Tp.enc (.tf a b))), .string (T3.S (T3.Tp.enc (.tf c d)))] w fun e w' => e = .returned (.int .u64 3) ∧ Below w.heap.size w w' := by
  have cp1 := parts_f a b h1 w
  have cp2 := parts_f c d h2 w
  have ch := T3.head_yes (.tf a b) h1
  have hh : (T3.Tp.hd (.tf a b)).toNat = 62 := rfl
  rw [hh] at ch
  have hB := Below.refl w.heap.size w
  have n1 : ((T3.S (T3.Tp.enc (.tf a b))).toList == [63]) = false := by rw [ByteArray.toList_eq]; simp [T3.S, T3.Tp.enc]
  have n2 : ((T3.S (T3.Tp.enc (.tf c d))).toList == [63]) = false := by rw [ByteArray.toList_eq]; simp [T3.S, T3.Tp.enc]
  generalize T3.S (T3.Tp.enc (.tf a b)) = s1 at *
  generalize T3.S (T3.Tp.enc (.tf c d)) = s2 at *
  generalize T3.S (T3.Tp.enc a) = sa at *
  generalize T3.S (T3.Tp.enc b) = sb at *
  generalize T3.S (T3.Tp.enc c) = sc at *
  generalize T3.S (T3.Tp.enc d) = sd at *
  go_enter Tryd.func29, Tryd.ntmps29
  go_wp2_with (first | (go_at_call 52; refine (cp2 _ hB).mono ?_; rintro e w1 ⟨g2, k2, rfl, -, hg2, d0, d1, hB, -⟩; clear cp2) | (go_at_call 52; refine (cp1 _ hB).mono ?_; rintro e w2 ⟨g1, k1, rfl, -, hg1, c0, c1, hB, hB2⟩; clear cp1))
  have HC : Aside (∀ W, Below w2.heap.size w2 W → W.cell? ⟨g1, 0, none⟩ = some (.string sa) ∧ W.cell? ⟨g1, 1, none⟩ = some (.string sb) ∧ W.cell? ⟨g2, 0, none⟩ = some (.string sc) ∧ W.cell? ⟨g2, 1, none⟩ = some (.string sd)) := fun W hW =>
    have hg2' := Nat.lt_of_lt_of_le hg2 hB2.size
    ⟨(hW.cell (p := ⟨g1, 0, none⟩) hg1).trans c0, (hW.cell (p := ⟨g1, 1, none⟩) hg1).trans c1, (hW.cell (p := ⟨g2, 0, none⟩) hg2').trans ((hB2.cell (p := ⟨g2, 0, none⟩) hg2).trans d0), (hW.cell (p := ⟨g2, 1, none⟩) hg2').trans ((hB2.cell (p := ⟨g2, 1, none⟩) hg2).trans d1)⟩
  clear c0 c1 d0 d1 hg1 hg2 hB2
  go_loopg [5, 31] 2 (fun gq v5 tq wr => ∃ k : Nat, k + gq = 2 ∧ v5 = .int .u64 (1 + (k : Int)) ∧ tq = .int .i64 (k : Int) ∧ Below w.heap.size w wr ∧ Aside (Below w2.heap.size w2 wr))
  case atStart => exact ⟨0, rfl, rfl, rfl, hB, Below.refl _ _⟩
  case round =>
    obtain ⟨k, hkg, rfl, rfl, hBr, HR⟩ := hrel
    obtain ⟨c0, c1, d0, d1⟩ := HC.out wr HR.out
    have hk3 : k = 0 ∨ k = 1 ∨ k = 2 := by omega
    rcases hk3 with rfl | rfl | rfl
    · go_wp2_with (go_at_call 29; refine (hs1 _).mono ?_; rintro e w3 ⟨rfl, hB3⟩)
      go_roundg 1
      case measure => omega
      case rel => exact ⟨1, rfl, by go_num, by go_num, hBr.trans (hB3.mono hBr.size), HR.out.trans (hB3.mono HR.out.size)⟩
    · go_wp2_with (go_at_call 29; refine (hs2 _).mono ?_; rintro e w3 ⟨rfl, hB3⟩)
      go_roundg 0
      case measure => omega
      case rel => exact ⟨2, rfl, by go_num, by go_num, hBr.trans (hB3.mono hBr.size), HR.out.trans (hB3.mono HR.out.size)⟩
    · go_wp2_with (go_at_call 53; refine (ch _).mono ?_; rintro e w3 ⟨rfl, rfl⟩)
      go_ret
      exact ⟨rfl, hBr⟩
end Go.Proofs.YtaaokecdmbmgbaaDoor
namespace Go.Proofs.YtaaokecdmbmgbaaDoor
open Go.RowKit Cc
set_option maxRecDepth 100000
set_option linter.unusedSimpArgs false
set_option linter.unusedVariables false
namespace Cc
abbrev Ty := T3.Tp.Ty
abbrev sT (t : Ty) : ByteArray := T3.S (T3.Tp.enc t)
def hdI (t : Ty) : Int := ((T3.Tp.hd t).toNat : Int)
/-- One end of a middle: must a ? stand there, or a type of that head? -/
def sideB (u : Bool) (h : H) (t : Ty) : Bool := if u then decide (t = .tq) else decide (hdI t = hB h)
/-- The texts of the parts that stand there. -/
def sideL (u : Bool) (h : H) (t : Ty) : List (List UInt8) := if u then T3.mtL .tq (hB h) else (T3.Tp.kids t).map T3.Tp.enc
/-- A part of a type, or of the ground. -/
def kd (u : Bool) (i : Nat) (t : Ty) : Ty := if u then .tq else (T3.Tp.kids t).getD i .tq
/-- Which parts the second kid goes between. -/
def iK : K → Nat
  | .bx => 0
  | _ => 1
def goT : C → Ty → Ty → Bool
  | .any, f, t => decide (f = .tq) && decide (t = .tq)
  | .fl p h _ _, f, _ => sideB (p != 0) h f
  | .bs p j h, f, t => sideB (p != 0) h f && sideB j h t
  | .ls p j a, f, t => sideB (p != 0) .ls f && (sideB j .ls t && goT a (kd (p != 0) 0 f) (kd j 0 t))
  | .tw k p j a b, f, t => sideB (p != 0) (.tw k) f && (sideB j (.tw k) t &&
      (goT a (if t0 k then kd j 0 t else kd (p != 0) 0 f) (if t0 k then kd (p != 0) 0 f else kd j 0 t) &&
       goT b (if t1 k then kd j (iK k) t else kd (p != 0) (iK k) f) (if t1 k then kd (p != 0) (iK k) f else kd j (iK k) t)))
theorem kd_len {u : Bool} {i : Nat} {t : Ty} (h : (T3.Tp.enc t).length ≤ 64) : (T3.Tp.enc (kd u i t)).length ≤ 64 := by
  unfold kd
  cases u
  · cases t <;> simp only [T3.Tp.kids, if_false, Bool.false_eq_true]
    all_goals
      match i with
      | 0 => first | decide | (simp [T3.Tp.enc] at h ⊢; omega) | (simp [T3.Tp.enc] at h ⊢; done)
      | 1 => first | decide | (simp [T3.Tp.enc] at h ⊢; omega) | (simp [T3.Tp.enc] at h ⊢; done)
      | n + 2 => first | decide | (simp [T3.Tp.enc]; done) | (simp [T3.Tp.enc]; omega)
  · simp [T3.Tp.enc]
/-- Where it stands, there are so many parts. -/
theorem sideL_tw {u : Bool} {k : K} {t : Ty} (h : sideB u (.tw k) t = true) : sideL u (.tw k) t = if k = .bx then [T3.Tp.enc (kd u 0 t)] else [T3.Tp.enc (kd u 0 t), T3.Tp.enc (kd u 1 t)] := by
  unfold sideL kd
  cases u
  · simp only [sideB, if_false, Bool.false_eq_true, decide_eq_true_eq] at h ⊢
    cases k <;> cases t <;> simp [hdI, T3.Tp.hd, hB] at h <;> simp [T3.Tp.kids]
  · cases k <;> simp [T3.mtL, hB, T3.Tp.hd, T3.Tp.ar, T3.Tp.enc, List.replicate]
theorem sideL_ls {u : Bool} {t : Ty} (h : sideB u .ls t = true) : sideL u .ls t = [T3.Tp.enc (kd u 0 t)] := by
  unfold sideL kd
  cases u
  · simp only [sideB, if_false, Bool.false_eq_true, decide_eq_true_eq] at h ⊢
    cases t <;> simp [hdI, T3.Tp.hd, hB] at h <;> simp [T3.Tp.kids]
  · simp [T3.mtL, hB, T3.Tp.hd, T3.Tp.ar, T3.Tp.enc, List.replicate]
theorem hB_q (h : H) : (63 : Int) ≠ hB h := by
  cases h <;> (try (simp [hB]; done))
  rename_i k; cases k <;> simp [hB]
end Cc
end Go.Proofs.YtaaokecdmbmgbaaDoor
namespace Go.Proofs.YtaaokecdmbmgbaaDoor
open Go.RowKit Cc
set_option maxRecDepth 100000
set_option linter.unusedSimpArgs false
set_option linter.unusedVariables false
set_option maxHeartbeats 1600000 in
theorem partsThere_any (u : Bool) (h : H) (t : Ty) (h64 : (T3.Tp.enc t).length ≤ 64) (w : World) :
    Calls Tryd.prog 63 #[.string (sT t), .bool u, .int .u8 (hB h)] w fun e w' => ∃ v, e = .returned (.tuple #[v, .bool (sideB u h t)]) ∧ w'.ownsRow w.heap.size 9 1 v (sideL u h t).length (T3.tcells (sideL u h t)) ∧ Below w.heap.size w w' := by
  have h1 := T3.head_yes t h64
  have hp := T3.parts_yes t h64
  have hq : ((sT t).toList == [63]) = T3.Tp.isq t := T3.Tp.isq_S t
  have hm := T3.match_yes .tq (hB h) (by decide)
  have HB : Aside (sideB u h t = if u then T3.Tp.isq t else (((T3.Tp.hd t).toNat : Int) == hB h)) := by
    show _ = _
    unfold sideB T3.Tp.isq hdI
    cases u
    · simp only [if_false, Bool.false_eq_true]; rfl
    · rfl
  have HL : Aside (sideL u h t = if u then T3.mtL .tq (hB h) else (T3.Tp.kids t).map T3.Tp.enc) := rfl
  generalize sideB u h t = SB at *
  generalize sideL u h t = SL at *
  generalize T3.mtB .tq (hB h) = MB at *
  generalize hB h = hb at *
  cases u
  · go_enter Tryd.func63, Tryd.ntmps63
    go_wp2_with (first | (go_at_call 53; refine (h1 _).mono ?_; rintro e w' ⟨rfl, hw'⟩; replace hw' := hw'.symm; subst hw') | (go_at_call 52; refine (hp _).mono ?_; rintro e w1 ⟨v, rfl, hown, hB⟩))
    go_ret2
    have e1 := HB.out
    have e2 := HL.out
    simp only [if_false, Bool.false_eq_true] at e1 e2
    subst e1 e2
    refine ⟨v, rfl, ?_, hB⟩
    rw [List.length_map]; exact hown
  · generalize S9 : sT t = s at *
    go_enter Tryd.func63, Tryd.ntmps63
    go_wp2_with (go_at_call 85; refine (hm _).mono ?_; rintro e w1 ⟨v, rfl, hown, hB⟩)
    go_ret2
    have e1 := HB.out
    have e2 := HL.out
    simp only [if_true] at e1 e2
    subst e1 e2
    exact ⟨v, rfl, hown, hB⟩
end Go.Proofs.YtaaokecdmbmgbaaDoor
namespace Go.Proofs.YtaaokecdmbmgbaaDoor
open Go.RowKit Cc
set_option maxRecDepth 100000
set_option linter.unusedSimpArgs false
set_option linter.unusedVariables false
namespace Cc
/-- One text, in a row of our own. -/
theorem own_oneC {W : World} {B : Nat} {v : Value} {x : List UInt8} (h : W.ownsRow B 9 1 v 1 (T3.tcells [x])) : ∃ g k, v = .slice (some ⟨g, 0, none⟩) 1 k ∧ B ≤ g ∧ g < W.heap.size ∧ W.cell? ⟨g, 0, none⟩ = some (.string (T3.S x)) ∧ 1 ≤ k := by
  obtain ⟨g, cap, rfl, hc, hg, hcell⟩ := T3.own_cells h (by decide)
  have h0 := hcell 0 (by decide)
  exact ⟨g, cap, rfl, hg, World.block_lt_of_cell? W _ h0, h0, hc⟩
theorem own_twoC {W : World} {B : Nat} {v : Value} {x y : List UInt8} (h : W.ownsRow B 9 1 v 2 (T3.tcells [x, y])) : ∃ g k, v = .slice (some ⟨g, 0, none⟩) 2 k ∧ B ≤ g ∧ g < W.heap.size ∧ W.cell? ⟨g, 0, none⟩ = some (.string (T3.S x)) ∧ W.cell? ⟨g, 1, none⟩ = some (.string (T3.S y)) ∧ 2 ≤ k := by
  obtain ⟨g, cap, rfl, hc, hg, hcell⟩ := T3.own_cells h (by decide)
  have h0 := hcell 0 (by decide)
  have h1 := hcell 1 (by decide)
  exact ⟨g, cap, rfl, hg, World.block_lt_of_cell? W _ h0, h0, h1, hc⟩
end Cc
theorem partsThere_two (u : Bool) (k : K) (hk : k ≠ .bx) (t : Ty) (h64 : (T3.Tp.enc t).length ≤ 64) (w W : World) (hW : Below w.heap.size w W) :
    Calls Tryd.prog 63 #[.string (sT t), .bool u, .int .u8 (hB (.tw k))] W fun e w' => ∃ v, e = .returned (.tuple #[v, .bool (sideB u (.tw k) t)]) ∧ (sideB u (.tw k) t = true → ∃ g c, v = .slice (some ⟨g, 0, none⟩) 2 c ∧ g < w'.heap.size ∧ w'.cell? ⟨g, 0, none⟩ = some (.string (sT (kd u 0 t))) ∧ w'.cell? ⟨g, 1, none⟩ = some (.string (sT (kd u 1 t))) ∧ 2 ≤ c) ∧ Below w.heap.size w w' ∧ Below W.heap.size W w' := by
  refine (partsThere_any u (.tw k) t h64 W).mono ?_
  rintro e w' ⟨v, rfl, hO, hB⟩
  refine ⟨v, rfl, fun h => ?_, hW.trans (hB.mono hW.size), hB⟩
  rw [sideL_tw h, if_neg hk] at hO
  obtain ⟨g, c, e1, -, h1, h2, h3, h4⟩ := own_twoC hO
  exact ⟨g, c, e1, h1, h2, h3, h4⟩
theorem partsThere_one (u : Bool) (h : H) (hh : h = .ls ∨ h = .tw .bx) (t : Ty) (h64 : (T3.Tp.enc t).length ≤ 64) (w W : World) (hW : Below w.heap.size w W) :
    Calls Tryd.prog 63 #[.string (sT t), .bool u, .int .u8 (hB h)] W fun e w' => ∃ v, e = .returned (.tuple #[v, .bool (sideB u h t)]) ∧ (sideB u h t = true → ∃ g c, v = .slice (some ⟨g, 0, none⟩) 1 c ∧ g < w'.heap.size ∧ w'.cell? ⟨g, 0, none⟩ = some (.string (sT (kd u 0 t))) ∧ 1 ≤ c) ∧ Below w.heap.size w w' ∧ Below W.heap.size W w' := by
  refine (partsThere_any u h t h64 W).mono ?_
  rintro e w' ⟨v, rfl, hO, hB⟩
  refine ⟨v, rfl, fun h' => ?_, hW.trans (hB.mono hW.size), hB⟩
  rcases hh with rfl | rfl
  · rw [sideL_ls h'] at hO
    obtain ⟨g, c, e1, -, h1, h2, h3⟩ := own_oneC hO
    exact ⟨g, c, e1, h1, h2, h3⟩
  · rw [sideL_tw h', if_pos rfl] at hO
    obtain ⟨g, c, e1, -, h1, h2, h3⟩ := own_oneC hO
    exact ⟨g, c, e1, h1, h2, h3⟩
theorem partsThere_at (u : Bool) (h : H) (t : Ty) (h64 : (T3.Tp.enc t).length ≤ 64) (w W : World) (hW : Below w.heap.size w W) :
    Calls Tryd.prog 63 #[.string (sT t), .bool u, .int .u8 (hB h)] W fun e w' => ∃ v, e = .returned (.tuple #[v, .bool (sideB u h t)]) ∧ Below w.heap.size w w' ∧ Below W.heap.size W w' := by
  refine (partsThere_any u h t h64 W).mono ?_
  rintro e w' ⟨v, rfl, hO, hB⟩
  exact ⟨v, rfl, hW.trans (hB.mono hW.size), hB⟩
def Cc.GoC (n : Nat) : Prop := ∀ (c : C) (b o : Nat) (w : World) (f t : Ty), Cc.size c ≤ n → Lie w b o c → (T3.Tp.enc f).length ≤ 64 → (T3.Tp.enc t).length ≤ 64 →
  Calls Tryd.prog 44 #[tv b o c, .string (sT f), .string (sT t)] w fun e w' => e = .returned (.bool (goT c f t)) ∧ Below w.heap.size w w'
theorem Cc.GoC.at {n : Nat} (h : GoC n) (c : C) (b o : Nat) (w : World) (f t : Ty) (hz : Cc.size c ≤ n) (hl : Lie w b o c) (hf : (T3.Tp.enc f).length ≤ 64) (ht : (T3.Tp.enc t).length ≤ 64) (W : World) (hW : Below w.heap.size w W) :
    Calls Tryd.prog 44 #[tv b o c, .string (sT f), .string (sT t)] W fun e w' => e = .returned (.bool (goT c f t)) ∧ Below w.heap.size w w' ∧ Below W.heap.size W w' :=
  (h c b o W f t hz (hl.below hW) hf ht).mono (by rintro e w' ⟨rfl, hB⟩; exact ⟨rfl, hW.trans (hB.mono hW.size), hB⟩)
set_option maxHeartbeats 1600000 in
theorem goes_any (b o : Nat) (w : World) (f t : Ty) (hl : Lie w b o .any) :
    Calls Tryd.prog 44 #[tv b o .any, .string (sT f), .string (sT t)] w fun e w' => e = .returned (.bool (goT .any f t)) ∧ Below w.heap.size w w' := by
  have hr := root_at .any b o w hl
  have q1 : ((sT f).toList == [63]) = T3.Tp.isq f := T3.Tp.isq_S f
  have q2 : ((sT t).toList == [63]) = T3.Tp.isq t := T3.Tp.isq_S t
  obtain ⟨T, v, e, hm, -⟩ := tv_meth .any b o
  rw [tv] at e ⊢
  injection e with e1 e2
  subst e1 e2
  simp only [nod, sh, shN] at hr
  have hB := Below.refl w.heap.size w
  have HG : Aside (goT .any f t = (T3.Tp.isq f && T3.Tp.isq t)) := rfl
  generalize goT .any f t = G at *
  generalize T3.Tp.isq f = i1 at *
  generalize T3.Tp.isq t = i2 at *
  generalize sT f = sf at *
  generalize sT t = st at *
  clear hl
  cases i1
  all_goals cases i2
  all_goals
    go_enter Tryd.func44, Tryd.ntmps44
    go_wp2_with (go_at_call 128; refine (hr _ hB).mono ?_; rintro e w' ⟨rfl, hB, -⟩)
    go_ret
    exact ⟨ret_b (by rw [HG.out]; rfl), by first | exact hB | exact below_al hB hB.size _⟩
set_option maxHeartbeats 1600000 in
theorem goes_fl (b o : Nat) (w : World) (p : Int) (h : H) (l : Int) (g : H) (f t : Ty) (hl : Lie w b o (.fl p h l g)) (hf : (T3.Tp.enc f).length ≤ 64) :
    Calls Tryd.prog 44 #[tv b o (.fl p h l g), .string (sT f), .string (sT t)] w fun e w' => e = .returned (.bool (goT (.fl p h l g) f t)) ∧ Below w.heap.size w w' := by
  have hr := root_at (.fl p h l g) b o w hl
  have cp := partsThere_at (p != 0) h f hf w
  obtain ⟨T, v, e, hm, -⟩ := tv_meth (.fl p h l g) b o
  rw [tv] at e ⊢
  injection e with e1 e2
  subst e1 e2
  simp only [nod, sh, shN] at hr
  have hB := Below.refl w.heap.size w
  have HG : Aside (goT (.fl p h l g) f t = sideB (p != 0) h f) := rfl
  generalize goT (.fl p h l g) f t = G at *
  generalize sideB (p != 0) h f = B1 at *
  generalize sT f = sf at *
  generalize sT t = st at *
  clear hl
  generalize Cc.hB h = hb at *
  generalize Cc.hB g = gb at *
  cases B1
  all_goals
    go_enter Tryd.func44, Tryd.ntmps44
    go_wp2_with (first | (go_at_call 128; refine (hr _ hB).mono ?_; rintro e w' ⟨rfl, hB, -⟩; have c0 : (w'.alloc (.cells #[.int .i8 7, .int .i64 p, .bool false, .int .u8 hb, .int .i64 l, .int .u8 hb, .int .u8 gb] 29)).cell? ⟨w'.heap.size, 0, none⟩ = some (.int .i8 7) ∧ w'.heap.size < (w'.alloc (.cells #[.int .i8 7, .int .i64 p, .bool false, .int .u8 hb, .int .i64 l, .int .u8 hb, .int .u8 gb] 29)).heap.size := by simp) | (go_at_call 63; refine (cp _ (below_al hB hB.size _)).mono ?_; rintro e w2 ⟨v2, rfl, hB2, hB2'⟩; have d0 := (hB2'.cell (p := ⟨w'.heap.size, 0, none⟩) c0.2).trans c0.1))
    go_ret
    exact ⟨ret_b HG.out.symm, hB2⟩
set_option maxHeartbeats 1600000 in
theorem goes_bs (b o : Nat) (w : World) (p : Int) (j : Bool) (h : H) (f t : Ty) (hl : Lie w b o (.bs p j h)) (hf : (T3.Tp.enc f).length ≤ 64) (ht : (T3.Tp.enc t).length ≤ 64) :
    Calls Tryd.prog 44 #[tv b o (.bs p j h), .string (sT f), .string (sT t)] w fun e w' => e = .returned (.bool (goT (.bs p j h) f t)) ∧ Below w.heap.size w w' := by
  have hr := root_at (.bs p j h) b o w hl
  have cp1 := partsThere_at (p != 0) h f hf w
  have cp2 := partsThere_at j h t ht w
  have q5 := ta_base_function
  have q6 := ta_base_pair
  have q7 := ta_base_list
  have q8 := ta_base_box
  obtain ⟨T, v, e, hm, -⟩ := tv_meth (.bs p j h) b o
  rw [tv] at e ⊢
  injection e with e1 e2
  subst e1 e2
  simp only [nod, sh, shN] at hr
  have hB := Below.refl w.heap.size w
  have HG : Aside (goT (.bs p j h) f t = (sideB (p != 0) h f && sideB j h t)) := rfl
  generalize goT (.bs p j h) f t = G at *
  generalize sideB (p != 0) h f = B1 at *
  generalize sideB j h t = B2 at *
  generalize sT f = sf at *
  generalize sT t = st at *
  clear hl
  generalize Cc.hB h = hb at *
  cases B1
  · go_enter Tryd.func44, Tryd.ntmps44
    go_wp2_with (first | (go_at_call 128; refine (hr _ hB).mono ?_; rintro e w' ⟨rfl, hB, -⟩; have c0 : (w'.alloc (.cells #[.int .i8 2, .int .i64 p, .bool j, .int .u8 hb, .int .i64 0, .int .u8 0, .int .u8 0] 29)).cell? ⟨w'.heap.size, 0, none⟩ = some (.int .i8 2) := by simp) | (go_at_call 63; refine (cp1 _ (below_al hB hB.size _)).mono ?_; rintro e w2 ⟨v2, rfl, hB2, hB2'⟩; clear cp1))
    go_ret
    exact ⟨ret_b HG.out.symm, hB2⟩
  cases B2
  all_goals
    go_enter Tryd.func44, Tryd.ntmps44
    go_wp2_with (first | (go_at_call 128; refine (hr _ hB).mono ?_; rintro e w' ⟨rfl, hB, -⟩; have c0 : (w'.alloc (.cells #[.int .i8 2, .int .i64 p, .bool j, .int .u8 hb, .int .i64 0, .int .u8 0, .int .u8 0] 29)).cell? ⟨w'.heap.size, 0, none⟩ = some (.int .i8 2) ∧ (w'.alloc (.cells #[.int .i8 2, .int .i64 p, .bool j, .int .u8 hb, .int .i64 0, .int .u8 0, .int .u8 0] 29)).cell? ⟨w'.heap.size, 2, none⟩ = some (.bool j) ∧ (w'.alloc (.cells #[.int .i8 2, .int .i64 p, .bool j, .int .u8 hb, .int .i64 0, .int .u8 0, .int .u8 0] 29)).cell? ⟨w'.heap.size, 3, none⟩ = some (.int .u8 hb) ∧ w'.heap.size < (w'.alloc (.cells #[.int .i8 2, .int .i64 p, .bool j, .int .u8 hb, .int .i64 0, .int .u8 0, .int .u8 0] 29)).heap.size := by simp) | (go_at_call 63; refine (cp1 _ (below_al hB hB.size _)).mono ?_; rintro e w2 ⟨v2, rfl, hB2, hB2'⟩; obtain ⟨c0, c2, c3, c9⟩ := c0; have d0 := (hB2'.cell (p := ⟨w'.heap.size, 0, none⟩) c9).trans c0; have d2 := (hB2'.cell (p := ⟨w'.heap.size, 2, none⟩) c9).trans c2; have d3 := (hB2'.cell (p := ⟨w'.heap.size, 3, none⟩) c9).trans c3; clear cp1 hB2' c0 c2 c3 c9) | (go_at_call 63; refine (cp2 _ hB2).mono ?_; rintro e w3 ⟨v3, rfl, hB3, -⟩; clear cp2))
    go_ret
    exact ⟨ret_b HG.out.symm, hB3⟩
end Go.Proofs.YtaaokecdmbmgbaaDoor
