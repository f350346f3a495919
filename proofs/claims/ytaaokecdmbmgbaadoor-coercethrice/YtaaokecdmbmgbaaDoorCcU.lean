/- Package coerce: written, of nodes without ? at their ends, with small labels; Text. -/
import Derived.Test.YtaaokecdmbmgbaaDoorCcS
namespace Go.Proofs.YtaaokecdmbmgbaaDoor
open Go.RowKit Cc
set_option maxRecDepth 100000
set_option linter.unusedSimpArgs false
set_option linter.unusedVariables false
namespace Cc
/-- A node, and its text. -/
def Wr (x : N) (t : List UInt8) : Prop :=
  x.proj = 0 ∧ x.inj = false ∧ ((∃ c : UInt8, x.op ≠ 1 ∧ x.op ≠ 7 ∧ x.head = (c.toNat : Int) ∧ t = [c]) ∨ ∃ (i : Nat) (f g : UInt8), i < 100 ∧ x.op = 7 ∧ x.label = (i : Int) ∧ x.frm = (f.toNat : Int) ∧ x.tto = (g.toNat : Int) ∧ t = (35 :: Lib.decDigits i) ++ [f] ++ [g])
theorem bld_new (w : World) : Bld (w.alloc (.cells #[.pointer none, .slice none 0 0] 114)) w.heap.size [] :=
  .inl ⟨Nat.le_refl _, _, heap_alloc_new _ _, World.ownsRowF_nil _ _ _ _, by simp [Value.ownBlock]⟩
theorem Bld.alloc {w : World} {pb : Nat} {l : List UInt8} (h : Bld w pb l) (o : Obj) : Bld (w.alloc o) pb l := Lib.IsBuilderF.alloc h o
theorem kept_new {w w' : World} {pb : Nat} {cs : Array Value} {t : TypeId} (h : Lib.OthersKept 5 (some pb) (w.alloc (.cells cs t)) w') (ht : t ≠ 5) (hp : pb < w.heap.size) : w'.heap[w.heap.size]? = some (.cells cs t (0, 0)) := by
  refine h w.heap.size _ (heap_alloc_new w _) ?_ ?_
  · intro e; injection e with e; omega
  · intro c fz e; injection e with _ e _; exact ht e
theorem bytes_cons (c : UInt8) (d : List UInt8) : (⟨#[c]⟩ : ByteArray) ++ ⟨d.toArray⟩ = ⟨(c :: d).toArray⟩ := by
  apply ByteArray.ext
  simp
/-- What holds at a round's head. -/
structure Wst (w wr : World) (l : List UInt8) : Prop where
  bl : Below w.heap.size w wr
  bd : Bld wr w.heap.size l
  lt : w.heap.size < wr.heap.size
theorem Wst.wrt {w w1 w2 : World} {l l' : List UInt8} (h : Wst w w1 l) (hb : Bld w2 w.heap.size l') (hw : Wrt w1 w2 w.heap.size) : Wst w w2 l' :=
  ⟨h.bl.trans hw.1, hb, Nat.lt_of_lt_of_le h.lt hw.2.2⟩
theorem Wst.alloc {w w1 : World} {l : List UInt8} (h : Wst w w1 l) (o : Obj) : Wst w (w1.alloc o) l :=
  ⟨h.bl.alloc h.bl.size _, h.bd.alloc _, by have := h.lt; simp; omega⟩
theorem box_cells {w : World} {g : Nat} {cs : Array Value} {t : TypeId} (h : w.heap[g]? = some (.cells cs t (0, 0))) (o : Nat) : w.cell? ⟨g, o, none⟩ = cs[o]? := Lib.cell_of_heap h o
end Cc
set_option maxHeartbeats 3200000 in
theorem written_any (l : List N) (ts : List (List UInt8)) (v : Value) (w : World) (hl : IsCos w v l) (hn : l.length ≤ 1000) (hts : ts.length = l.length) (hw : ∀ (k : Nat) x t, l[k]? = some x → ts[k]? = some t → Wr x t) (ht : ts.flatten.length ≤ 10000) :
    Calls Tryd.prog 58 #[v] w fun e w' => e = .returned (.string ⟨ts.flatten.toArray⟩) ∧ Below w.heap.size w w' := by
  obtain ⟨al, cl, rfl⟩ := hl.form
  have HL : Aside (IsCos w (.slice al l.length cl) l) := hl
  have HW : Aside (∀ (k : Nat) x t, l[k]? = some x → ts[k]? = some t → Wr x t) := hw
  have HT : Aside (ts.flatten.length ≤ 10000) := ht
  have HN : Aside (ts.length = l.length) := hts
  clear hl hw ht hts
  go_enter Tryd.func58, Tryd.ntmps58
  go_wp2
  go_loopg [8] l.length (fun gq tq wr => ∃ k : Nat, k + gq = l.length ∧ tq = .int .i64 (k : Int) ∧ Aside (Wst w wr (ts.take k).flatten))
  case atStart => exact ⟨0, by omega, rfl, ⟨(Below.refl _ _).alloc (Nat.le_refl _) _, by simpa using bld_new w, by simp⟩⟩
  case round =>
    obtain ⟨k, hkg, rfl, HS⟩ := hrel
    by_cases hk : k < l.length
    · have hk' : (k : Int) < (l.length : Int) := by omega
      obtain ⟨x, hx⟩ : ∃ x, l[k]? = some x := ⟨_, List.getElem?_eq_getElem hk⟩
      obtain ⟨t, htk⟩ : ∃ t, ts[k]? = some t := ⟨_, List.getElem?_eq_getElem (by rw [HN.out]; exact hk)⟩
      have hwr := HW.out k x t hx htk
      obtain ⟨b, o, c, e1, hA⟩ := (HL.out.below HS.out.bl).at hx
      injection e1 with e1 _ e3
      subst e1 e3
      obtain ⟨g0, g1, g2, g3, g4, g5, g6⟩ := hA
      have HF : Aside ((ts.take (k + 1)).flatten = (ts.take k).flatten ++ t) := by
        show _ = _
        obtain ⟨hk2, e⟩ := List.getElem?_eq_some_iff.1 htk
        rw [List.take_succ_eq_append_getElem hk2, e]
        simp
      have HLen : Aside ((ts.take k).flatten.length + t.length ≤ 10000) := by
        show _ ≤ _
        have h1 := HT.out
        have h2 : ts.flatten = (ts.take (k + 1)).flatten ++ (ts.drop (k + 1)).flatten := by rw [← List.flatten_append, List.take_append_drop]
        rw [h2, HF.out] at h1
        simp only [List.length_append] at h1
        omega
      clear hx htk
      generalize (ts.take k).flatten = pre at *
      obtain ⟨hp, hj, hkind⟩ := hwr
      rw [hp] at g1
      rw [hj] at g2
      rcases hkind with ⟨ch, h1, h7, hh, rfl⟩ | ⟨i, f, g, hi, h7, hlb, hf, hg, rfl⟩
      · rw [hh] at g3
        have cw : ∀ W, Wst w W pre → Calls Tryd.prog 75 #[.pointer (some ⟨w.heap.size, 0, none⟩), .int .u8 (ch.toNat : Int)] W fun e w' => e = .returned .nilIface ∧ Wst w w' (pre ++ [ch]) := fun W hW =>
          (writeByte_any w.heap.size pre ch W hW.bd (by have := HLen.out; simp at this; omega) hW.lt).mono (by rintro e w' ⟨rfl, hb, hwt⟩; exact ⟨rfl, hW.wrt hb hwt⟩)
        clear hp hj hh
        go_wp2_with (go_at_call 75; refine (cw _ (HS.out.alloc _)).mono ?_; rintro e w2 ⟨rfl, hW2⟩; have HW2 : Aside (Wst w w2 (pre ++ [ch])) := hW2; clear hW2)
        go_roundg (l.length - (k + 1))
        case measure => omega
        case rel => exact ⟨k + 1, by omega, by go_num, by rw [HF.out]; exact HW2⟩
      · rw [h7] at g0
        rw [hlb] at g4
        rw [hf] at g5
        rw [hg] at g6
        have cf := Tryd.strconv_FormatInt_10_small i hi
        have cs : ∀ W, Wst w W pre → Calls Tryd.prog 73 #[.pointer (some ⟨w.heap.size, 0, none⟩), .string ⟨(35 :: Lib.decDigits i).toArray⟩] W fun e w' => e = .returned (.tuple #[.int .i64 (35 :: Lib.decDigits i).length, .nilIface]) ∧ Wst w w' (pre ++ (35 :: Lib.decDigits i)) ∧ Lib.OthersKept 5 (some w.heap.size) W w' := fun W hW =>
          (writeString_any w.heap.size pre _ W hW.bd (by have := HLen.out; simp at this ⊢; omega) hW.lt).mono (by rintro e w' ⟨rfl, hb, hwt⟩; exact ⟨rfl, hW.wrt hb hwt, hwt.2.1⟩)
        have cw : ∀ W ch l', Wst w W l' → l'.length ≤ 10000 → Calls Tryd.prog 75 #[.pointer (some ⟨w.heap.size, 0, none⟩), .int .u8 (UInt8.toNat ch : Int)] W fun e w' => e = .returned .nilIface ∧ Wst w w' (l' ++ [ch]) ∧ Lib.OthersKept 5 (some w.heap.size) W w' := fun W ch l' hW hl' =>
          (writeByte_any w.heap.size l' ch W hW.bd (by omega) hW.lt).mono (by rintro e w' ⟨rfl, hb, hwt⟩; exact ⟨rfl, hW.wrt hb hwt, hwt.2.1⟩)
        have hbc := bytes_cons 35 (Lib.decDigits i)
        clear hp hj h7 hlb hf hg
        go_wp2_with fail
        refine (cf _).mono ?_
        rintro e w1 ⟨rfl, rfl⟩
        have HDL : Aside ((Lib.decDigits i).length ≤ 9999) := by have := HLen.out; simp at this; show _ ≤ _; omega
        go_wp2_with fail
        · exfalso
          rename_i hov
          have h9 := HDL.out
          first | omega | (simp only [ByteArray.size] at hov; simp at hov; omega) | trace_state
        refine (cs _ (HS.out.alloc _)).mono ?_
        rintro e w2 ⟨rfl, hW2, hK2⟩
        have HW2 : Aside (Wst w w2 (pre ++ (35 :: Lib.decDigits i))) := hW2
        have hbx := kept_new hK2 (by decide) HS.out.lt
        have c5 := box_cells hbx 5
        simp at c5
        have HX2 : Aside (w2.heap[wr.heap.size]? = some (.cells #[.int .i8 7, .int .i64 0, .bool false, .int .u8 x.head, .int .i64 (i : Int), .int .u8 (f.toNat : Int), .int .u8 (g.toNat : Int)] 29 (0, 0))) := hbx
        clear hW2 hK2 hbx
        go_wp2_with fail
        refine (cw _ f _ HW2.out (by have := HLen.out; simp at this ⊢; omega)).mono ?_
        rintro e w3 ⟨rfl, hW3, hK3⟩
        have hbx := hK3 wr.heap.size _ HX2.out (by have := HS.out.lt; intro e; injection e with e; omega) (by intro c fz e; injection e with _ e _; exact absurd e (by decide))
        have c6 := box_cells hbx 6
        simp at c6
        have HW3 : Aside (Wst w w3 (pre ++ (35 :: Lib.decDigits i) ++ [f])) := hW3
        clear hW3 hK3 hbx c5
        go_wp2_with fail
        refine (cw _ g _ HW3.out (by have := HLen.out; simp at this ⊢; omega)).mono ?_
        rintro e w4 ⟨rfl, hW4, -⟩
        have HW4 : Aside (Wst w w4 (pre ++ (35 :: Lib.decDigits i) ++ [f] ++ [g])) := hW4
        clear hW4 c6
        go_wp2_with fail
        go_roundg (l.length - (k + 1))
        case measure => omega
        case rel => exact ⟨k + 1, by omega, by go_num, by rw [HF.out]; simpa [Aside] using HW4.out⟩
    · obtain rfl : k = l.length := by omega
      have cst := Tryd.Builder_String_any_k w.heap.size w.heap.size ts.flatten wr (by have h := HS.out.bd; rw [← HN.out, List.take_length] at h; exact h) (by have := HS.out.lt; omega)
      have HB : Aside (Below w.heap.size w wr) := HS.out.bl
      go_wp2_with (go_at_call 76; refine cst.mono ?_; rintro e w2 ⟨rfl, -, hB2, -⟩)
      go_ret
      exact ⟨rfl, HB.out.trans hB2⟩
set_option maxHeartbeats 800000 in
theorem Text_any (l : List N) (ts : List (List UInt8)) (v : Value) (w : World) (hl : IsCos w v l) (hn : l.length ≤ 1000) (hts : ts.length = l.length) (hw : ∀ (k : Nat) x t, l[k]? = some x → ts[k]? = some t → Wr x t) (ht : ts.flatten.length ≤ 10000) (hm : (Cc.whole l).isSome = true) :
    Calls Tryd.prog 36 #[v] w fun e w' => e = .returned (.tuple #[.string ⟨ts.flatten.toArray⟩, .int .i64 0]) ∧ Below w.heap.size w w' := by
  have c1 := May_any l v w hl (by omega)
  rw [hm] at c1
  have c2 : ∀ W, Below w.heap.size w W → Calls Tryd.prog 58 #[v] W fun e w' => e = .returned (.string ⟨ts.flatten.toArray⟩) ∧ Below w.heap.size w w' := fun W hW =>
    (written_any l ts v W (hl.below hW) hn hts hw ht).mono (by rintro e w' ⟨rfl, hB⟩; exact ⟨rfl, hW.trans (hB.mono hW.size)⟩)
  clear hl hw ht hts hm
  generalize (⟨ts.flatten.toArray⟩ : ByteArray) = T at *
  go_enter Tryd.func36, Tryd.ntmps36
  go_wp2_with (first | (go_at_call 18; refine c1.mono ?_; rintro e w1 ⟨rfl, hB⟩) | (go_at_call 58; refine (c2 _ hB).mono ?_; rintro e w2 ⟨rfl, hB2⟩))
  go_ret2
  exact ⟨rfl, hB2⟩
end Go.Proofs.YtaaokecdmbmgbaaDoor
