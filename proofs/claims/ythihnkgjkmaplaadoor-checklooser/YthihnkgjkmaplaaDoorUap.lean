/- What strings.Split answers at one blank, and the program's binds. -/
import Derived.Test.YthihnkgjkmaplaaDoorUao
import Derived.Lib.IndexBytes
import Derived.Lib.SplitLaws
namespace Go.Proofs.YthihnkgjkmaplaaDoor
open Go.RowKit
set_option maxRecDepth 100000
set_option linter.unusedSimpArgs false

theorem hi9e : (Tryd.prog.info? 9).map (fun i => (i.zero, i.size, i.bytes)) = some (some (.string ByteArray.empty), 1, 16) := by kernel_rfl
theorem indexB_blank (s : ByteArray) : Lib.indexB s ⟨#[32]⟩ = Lib.indexByte s.data.toList 32 := Lib.index_one s.data.toList 32
/-- The pieces of a text between blanks. -/
def pcs (s : ByteArray) : List ByteArray := Lib.splitB ⟨#[32]⟩ 0 (Lib.countB s ⟨#[32]⟩) s
theorem pcs_len (s : ByteArray) : (pcs s).length = Lib.countB s ⟨#[32]⟩ + 1 := Lib.splitB_all _ (by decide) 0 _ s rfl

theorem genSplit_one (s : ByteArray) (hs : s.size < 4294967281) (w : World) :
    Calls Tryd.prog 74 #[.string s, .string ⟨#[32]⟩, .int .i64 0, .int .i64 (-1)] w fun e w' =>
      e = .returned (.slice (some ⟨w.heap.size, 0, none⟩) (pcs s).length (pcs s).length) ∧ w' = w.alloc (.cells ((pcs s).map Value.string).toArray 9) := by
  have hle := Lib.countB_le ⟨#[32]⟩ (by decide) s.size s (Nat.le_refl _)
  have c := Any.strings_genSplit_core Tryd.lays221 hi9e s ⟨#[32]⟩ 0 (-1) (Lib.countB s ⟨#[32]⟩ + 1) w hs (by decide) (Nat.zero_le _)
    (fun x c _ => by
      refine (Tryd.strings_Index_one x 32 _).mono ?_
      rintro e w' ⟨rfl, rfl⟩
      exact ⟨by rw [indexB_blank], rfl⟩)
    (by
      refine (Tryd.strings_Count_one s 32 w).mono ?_
      rintro e w' ⟨rfl, rfl⟩
      refine ⟨?_, rfl⟩
      show _ = Ending.returned (Value.int .i64 ((Lib.count s.data.toList [32] : Nat) : Int))
      rw [Lib.count_one]
      rfl)
    (by decide) (by decide) (by rw [if_pos (by decide)]; omega)
  rw [Nat.add_sub_cancel] at c
  have hl := pcs_len s
  have e2 : Lib.cellsOf (pcs s) (Lib.countB s ⟨#[32]⟩ + 1) = ((pcs s).map Value.string).toArray := by rw [← hl]; exact Lib.cellsOf_full _
  unfold pcs at e2 hl ⊢
  rw [e2, ← hl] at c
  exact c

set_option maxHeartbeats 1000000 in
theorem split_one (s : ByteArray) (hs : s.size < 4294967281) (w : World) :
    Calls Tryd.prog 64 #[.string s, .string ⟨#[32]⟩] w fun e w' =>
      e = .returned (.slice (some ⟨w.heap.size, 0, none⟩) (pcs s).length (pcs s).length) ∧ w' = w.alloc (.cells ((pcs s).map Value.string).toArray 9) := by
  have h := genSplit_one s hs w
  go_enter Tryd.func64, Tryd.ntmps64
  go_wp2_with (go_at_call 74; refine h.mono ?_; rintro e w' ⟨rfl, hw'⟩)
  go_ret
  exact ⟨rfl, rfl⟩

/-- A list of texts, wherever it lies. -/
def IsTexts (w : World) (v : Value) (ps : List (List UInt8)) : Prop :=
  (ps = [] ∧ ∃ a c, v = .slice a 0 c) ∨ ∃ b o c, v = .slice (some ⟨b, o, none⟩) ps.length c ∧ ps.length ≤ c ∧ b < w.heap.size ∧ ∀ j p, ps[j]? = some p → w.cell? ⟨b, o + j, none⟩ = some (.string (S p))
theorem IsTexts.form {w : World} {v : Value} {ps : List (List UInt8)} (h : IsTexts w v ps) : ∃ a c, v = .slice a ps.length c := by
  rcases h with ⟨rfl, a, c, rfl⟩ | ⟨b, o, c, rfl, _⟩
  · exact ⟨a, c, rfl⟩
  · exact ⟨_, c, rfl⟩
theorem IsTexts.at {w : World} {a : Option Addr} {n c : Nat} {ps : List (List UInt8)} (h : IsTexts w (.slice a n c) ps) {k : Nat} {p : List UInt8} (hp : ps[k]? = some p) : ∃ b o, a = some ⟨b, o, none⟩ ∧ n ≤ c ∧ b < w.heap.size ∧ w.cell? ⟨b, o + k, none⟩ = some (.string (S p)) := by
  rcases h with ⟨rfl, _⟩ | ⟨b, o, c', h0, h1, h2, h3⟩
  · simp at hp
  · obtain ⟨rfl, rfl, rfl⟩ : a = some ⟨b, o, none⟩ ∧ n = ps.length ∧ c = c' := by simpa using h0
    exact ⟨b, o, rfl, h1, h2, h3 k p hp⟩
theorem IsTexts.own {w : World} {base : Nat} {v : Value} {ps : List (List UInt8)} (h : w.ownsRow base 9 1 v ps.length (tcells ps)) : IsTexts w v ps := by
  by_cases h0 : ps = []
  · subst h0
    obtain ⟨a, c, rfl⟩ := own_len h
    exact .inl ⟨rfl, a, c, rfl⟩
  · obtain ⟨g, cap, rfl, hc, hg, hcell⟩ := own_cells h (List.length_pos_iff.2 h0)
    have key : ∀ j p, ps[j]? = some p → w.cell? ⟨g, 0 + j, none⟩ = some (.string (S p)) := by
      intro j p hp
      have hj : j < ps.length := (List.getElem?_eq_some_iff.1 hp).1
      rw [Nat.zero_add, hcell j (by omega)]
      unfold tcells
      rw [List.getElem?_map, hp]
      rfl
    refine .inr ⟨g, 0, cap, rfl, hc, ?_, key⟩
    obtain ⟨p, r, rfl⟩ := List.exists_cons_of_ne_nil h0
    exact World.block_lt_of_cell? w _ (key 0 p rfl)
theorem IsTexts.pcs (w : World) (ls : List (List UInt8)) : IsTexts (w.alloc (.cells (tcells ls).toArray 9)) (.slice (some ⟨w.heap.size, 0, none⟩) ls.length ls.length) ls := by
  refine .inr ⟨_, 0, _, rfl, Nat.le_refl _, by simp, fun j p hp => ?_⟩
  rw [(block_cells (heap_alloc_new w (.cells (tcells ls).toArray 9))).1, Nat.zero_add]
  simp [tcells, hp]

namespace Tr
theorem name_chars {l : List UInt8} (h : nameB l = true) : (32 : UInt8) ∉ l := by
  intro hm
  unfold nameB at h
  simp only [Bool.and_eq_true, beq_iff_eq] at h
  obtain ⟨⟨⟨⟨h1, h2⟩, h3⟩, h4⟩, h5⟩ := h
  obtain ⟨j, hj, he⟩ := List.getElem_of_mem hm
  have := (Tx.upTo_all Tx.innerB l 0 j (Nat.zero_le _) (by rw [h4]; exact hj)).1
  unfold Tx.B at this
  rw [List.getElem?_eq_getElem hj, he] at this
  revert this
  decide
theorem index_none {l : List UInt8} (h : (32 : UInt8) ∉ l) : Lib.indexByte l 32 = -1 := by
  induction l with
  | nil => rfl
  | cons c r ih =>
    simp at h
    unfold Lib.indexByte
    rw [if_neg (by simpa using fun e => h.1 e.symm), ih h.2]
    rfl
end Tr
theorem pcs_none (s : ByteArray) (h : (32 : UInt8) ∉ s.data.toList) : pcs s = [s] := by
  have hi : Lib.indexB s ⟨#[32]⟩ = -1 := by rw [indexB_blank]; exact Tr.index_none h
  unfold pcs
  rw [Lib.splitB_miss _ _ _ _ hi]
theorem pcs_two (s : ByteArray) {a b : List UInt8} (hc : Tr.cut32 s.data.toList = (a, b, true)) (hb : (32 : UInt8) ∉ b) : pcs s = [S a, S b] := by
  have hne : Lib.indexByte s.data.toList 32 ≠ -1 := fun e => by rw [Tr.cut32_none e] at hc; simp at hc
  obtain ⟨o, ho⟩ : ∃ o : Nat, Lib.indexByte s.data.toList 32 = o := ⟨(Lib.indexByte s.data.toList 32).toNat, by have := Lib.indexByte_ge s.data.toList 32; omega⟩
  obtain ⟨h1, h2⟩ := Tr.cut32_some ho
  rw [h2] at hc
  simp at hc
  obtain ⟨rfl, rfl⟩ := hc
  have hi : Lib.indexB s ⟨#[32]⟩ = o := by rw [indexB_blank]; exact ho
  have hx : s.extract (o + (⟨#[32]⟩ : ByteArray).size) s.size = S (s.data.toList.drop (o + 1)) := by
    show s.extract (o + 1) s.size = _
    have := S_cut s.data.toList (o + 1) s.size
    rw [List.take_of_length_le (by simp)] at this
    simpa [S] using this
  have hc := Lib.countB_hit s ⟨#[32]⟩ o (by decide) hi
  have hi2 : Lib.indexB (S (s.data.toList.drop (o + 1))) ⟨#[32]⟩ = -1 := by rw [indexB_blank]; exact Tr.index_none hb
  rw [hx, Lib.countB_miss _ _ hi2] at hc
  unfold pcs
  rw [hc, Lib.splitB_hit _ _ _ _ _ hi, hx, Lib.splitB_zero]
  congr 1
  have := S_cut s.data.toList 0 o
  simpa [S] using this

/-- A list that lies above a mark. -/
def High (v : Value) (B : Nat) : Prop := ∀ b o n c, v = .slice (some ⟨b, o, none⟩) n c → B ≤ b
namespace Tr
theorem mayB_s {x : Nd} (h : mayB x = true) : sB x = true := by
  unfold mayB at h
  simp only [Bool.and_eq_true] at h
  exact h.1.1.2
theorem name_len {l : List UInt8} (h : nameB l = true) : l.length ≤ 32 := by
  unfold nameB at h
  simp only [Bool.and_eq_true, decide_eq_true_eq] at h
  exact h.1.1.1.2
theorem cut32_join : ∀ (l : List UInt8), (cut32 l).2.2 = true → l = (cut32 l).1 ++ 32 :: (cut32 l).2.1
  | [], h => by simp [cut32] at h
  | c :: r, h => by
    rw [cut32] at h ⊢
    by_cases hc : c = 32
    · subst hc; simp
    · rw [if_neg hc] at h ⊢
      simp only at h ⊢
      rw [List.cons_append, ← cut32_join r h]
theorem nameB_nil : nameB [] = false := rfl
end Tr
theorem val_node (x : Tr.Nd) : Tr.agg x = .agg #[.int .i8 x.kind, .int .i64 x.kids, .int .i64 x.n, .string x.s, .string x.t, .string x.u, .int .i64 x.ln, .int .i64 x.co] := rfl
/-- The pieces that binds hands out. -/
theorem pcs_binds {x : Tr.Nd} (hm : Tr.mayB x = true) (hk : x.kind = 5 ∨ x.kind = 6 ∨ x.kind = 8) : x.s.size < 4294967281 ∧ (pcs x.s).map Value.string = tcells (if x.kind = 6 then [(Tr.cut32 (Tr.nm x)).1, (Tr.cut32 (Tr.nm x)).2.1] else [Tr.nm x]) := by
  have hs := Tr.mayB_s hm
  have hsl := str_len x.s
  unfold Tr.sB at hs
  rcases hk with h | h | h
  · rw [h] at hs ⊢
    have hn : nameB (Tr.nm x) = true := hs
    have hl := Tr.name_len hn
    unfold Tr.nm at hl
    refine ⟨by omega, ?_⟩
    rw [pcs_none _ (Tr.name_chars hn)]; rfl
  · rw [h] at hs ⊢
    have hn : (nameB (Tr.cut32 (Tr.nm x)).1 && nameB (Tr.cut32 (Tr.nm x)).2.1) = true := hs
    simp only [Bool.and_eq_true] at hn
    have hc : (Tr.cut32 (Tr.nm x)).2.2 = true := by
      by_cases h1 : Lib.indexByte (Tr.nm x) 32 = -1
      · rw [Tr.cut32_none h1] at hn; simp [Tr.nameB_nil] at hn
      · obtain ⟨o, ho⟩ : ∃ o : Nat, Lib.indexByte (Tr.nm x) 32 = o := ⟨(Lib.indexByte (Tr.nm x) 32).toNat, by have := Lib.indexByte_ge (Tr.nm x) 32; omega⟩
        rw [(Tr.cut32_some ho).2]
    have hl1 := Tr.name_len hn.1
    have hl2 := Tr.name_len hn.2
    have hj := congrArg List.length (Tr.cut32_join _ hc)
    simp at hj
    unfold Tr.nm at *
    refine ⟨by omega, ?_⟩
    rw [pcs_two x.s (a := (Tr.cut32 x.s.data.toList).1) (b := (Tr.cut32 x.s.data.toList).2.1) (by rw [← hc]) (Tr.name_chars hn.2)]; rfl
  · rw [h] at hs ⊢
    have hn : nameB (Tr.nm x) = true := hs
    have hl := Tr.name_len hn
    unfold Tr.nm at hl
    refine ⟨by omega, ?_⟩
    rw [pcs_none _ (Tr.name_chars hn)]; rfl

set_option maxHeartbeats 2000000 in
/-- The names that a node binds, as the program tells them. -/
theorem binds_any (x : Tr.Nd) (hm : Tr.mayB x = true) (j : Nat) (hj : x.kind = 8 → j < 2) (w : World) :
    Calls Tryd.prog 44 #[Tr.agg x, .int .i64 (j : Int)] w fun e w' => ∃ a c, e = .returned (.slice a (Tr.binds x j).length c) ∧ IsTexts w' (.slice a (Tr.binds x j).length c) (Tr.binds x j) ∧ High (.slice a (Tr.binds x j).length c) w.heap.size ∧ Below w.heap.size w w' := by
  have hB1 : ∀ o : Obj, Below w.heap.size w (w.alloc o) := fun o => balloc (Below.refl _ _) _
  rw [val_node]
  by_cases hk : x.kind = 5 ∨ x.kind = 6 ∨ x.kind = 8
  · obtain ⟨hsz, hp⟩ := pcs_binds hm hk
    by_cases h80 : x.kind = 8 ∧ j = 0
    · obtain ⟨h8, rfl⟩ := h80
      have HN : Aside (Tr.binds x 0 = []) := by show _ = _; unfold Tr.binds; rw [h8]; rfl
      rw [h8]
      clear hk hp hsz hm hj h8
      go_enter Tryd.func44, Tryd.ntmps44
      go_wp2_with fail
      go_ret
      rw [HN.out]
      exact ⟨_, _, rfl, .inl ⟨rfl, _, _, rfl⟩, (fun b o n c h => by simp at h), hB1 _⟩
    · have HN : Aside (Tr.binds x j = if x.kind = 6 then [(Tr.cut32 (Tr.nm x)).1, (Tr.cut32 (Tr.nm x)).2.1] else [Tr.nm x]) := by
        show _ = _
        unfold Tr.binds
        rcases hk with h | h | h
        · rw [h]; rfl
        · rw [h]; rfl
        · have : j = 1 := by have := hj h; omega
          rw [h, this]; rfl
      have hsp := split_one x.s hsz
      rw [hp] at hsp
      have hlen : (pcs x.s).length = (if x.kind = 6 then [(Tr.cut32 (Tr.nm x)).1, (Tr.cut32 (Tr.nm x)).2.1] else [Tr.nm x]).length := by
        have := congrArg List.length hp; simpa [tcells] using this
      rw [hlen] at hsp
      rw [HN.out]
      clear hp hlen HN
      generalize (if x.kind = 6 then [(Tr.cut32 (Tr.nm x)).1, (Tr.cut32 (Tr.nm x)).2.1] else [Tr.nm x]) = ls at *
      have fin : Aside (∀ o : Obj, IsTexts ((w.alloc o).alloc (.cells (tcells ls).toArray 9)) (.slice (some ⟨w.heap.size + 1, 0, none⟩) ls.length ls.length) ls ∧ Below w.heap.size w ((w.alloc o).alloc (.cells (tcells ls).toArray 9))) := fun o =>
        ⟨by have := IsTexts.pcs (w.alloc o) ls; simpa using this, balloc (hB1 _) _⟩
      have k8 : x.kind = 8 → ((j : Int) == 0) = false := fun h => by simp; intro e; exact h80 ⟨h, e⟩
      clear hB1 hsz hm hj h80
      rcases hk with h | h | h
      · rw [h]
        clear k8 h
        go_enter Tryd.func44, Tryd.ntmps44
        go_wp2_with (go_at_call 64; refine (hsp _).mono ?_; rintro e w1 ⟨rfl, rfl⟩)
        go_ret
        exact ⟨_, _, rfl, (fin.out _).1, (fun b o n c h => by simp at h; omega), (fin.out _).2⟩
      · rw [h]
        clear k8 h
        go_enter Tryd.func44, Tryd.ntmps44
        go_wp2_with (go_at_call 64; refine (hsp _).mono ?_; rintro e w1 ⟨rfl, rfl⟩)
        go_ret
        exact ⟨_, _, rfl, (fin.out _).1, (fun b o n c h => by simp at h; omega), (fin.out _).2⟩
      · have j0 := k8 h
        rw [h]
        clear k8 h
        go_enter Tryd.func44, Tryd.ntmps44
        go_wp2_with (go_at_call 64; refine (hsp _).mono ?_; rintro e w1 ⟨rfl, rfl⟩)
        go_ret
        exact ⟨_, _, rfl, (fin.out _).1, (fun b o n c h => by simp at h; omega), (fin.out _).2⟩
  · have HN : Aside (Tr.binds x j = []) := by
      show _ = _
      unfold Tr.binds
      rw [if_neg (fun h => hk (.inl h)), if_neg (fun h => hk (.inr (.inl h))), if_neg (fun h => hk (.inr (.inr h.1)))]
    have e5 : (x.kind == 5) = false := by simpa using fun h => hk (.inl h)
    have e6 : (x.kind == 6) = false := by simpa using fun h => hk (.inr (.inl h))
    have e8 : (x.kind == 8) = false := by simpa using fun h => hk (.inr (.inr h))
    clear hk hm hj
    go_enter Tryd.func44, Tryd.ntmps44
    go_wp2_with fail
    go_ret
    rw [HN.out]
    exact ⟨_, _, rfl, .inl ⟨rfl, _, _, rfl⟩, (fun b o n c h => by simp at h), hB1 _⟩
end Go.Proofs.YthihnkgjkmaplaaDoor
