/- The pen in memory: what the program's between, arm, whole write. What the program's Words answers. -/
import Derived.Test.YtpikfdkgblghhaaGreatDoorXaa
import Derived.Deep.RegionWith
import Derived.Shelf.RegionOpenPlain
import Derived.Shelf.Abstract
import Derived.Deep.CutRange
import Derived.Deep.DeepCutAuto
namespace Go.Proofs.YtpikfdkgblghhaaGreatDoor.T3
open Go.RowKit

theorem pinfo5 : (Tryz.prog.info? 5).map (fun i => (i.zero, i.size, i.bytes)) = some (some (.int .u8 0), 1, 1) := by kernel_rfl
theorem ty49 : Tryz.prog.underlying 40 = some (.slice 5) := by kernel_rfl
theorem ty9 : Tryz.prog.underlying 9 = some .string := by kernel_rfl
theorem ty48 : Tryz.prog.underlying 62 = some (.pointer 64) := by kernel_rfl
theorem ty73 : Tryz.prog.underlying 226 = some .unsafePointer := by kernel_rfl
theorem ty71 : Tryz.prog.underlying 156 = some (.pointer 5) := by kernel_rfl
theorem size51 : (Tryz.prog.info? 64).map (·.size) = some 2 := by kernel_rfl
theorem lies51 : liesAt Tryz.prog Tryz.prog.depth 204 (2 / Tryz.prog.cellsOf 204) 0 64 1 = true := by kernel_rfl

/-- The pen's block, and what it has written. -/
def Pen (w : World) (pb : Nat) (l : List UInt8) : Prop := Lib.IsBuilderF 204 5 pb pb (Lib.byteCells l) w
/-- What a writer leaves alone. -/
def Wrote (w w' : World) (pb : Nat) : Prop := Below pb w w' ∧ Lib.OthersKept 5 (some pb) w w' ∧ w.heap.size ≤ w'.heap.size

set_option maxHeartbeats 1000000 in
set_option maxRecDepth 100000 in
theorem copyCheck_any (b : Nat) (bs : List Value) (w : World) (h : Lib.IsBuilderF 204 5 b b bs w) :
    Calls Tryz.prog 165 #[.pointer (some ⟨b, 0, none⟩)] w fun e w' => e = .returned (.tuple #[]) ∧ Lib.BuilderAtF 204 5 b b (.pointer (some ⟨b, 0, none⟩)) bs w' ∧ Wrote w w' b := by
  rcases h with h | h
  · obtain ⟨j, hj, hjs⟩ := Option.map_eq_some_iff.1 size51
    have c0 := h.cell0
    have f0 := h.frozen0
    have hsh := h.shape
    go_enter Tryz.func165, Tryz.ntmps165
    go_wp2
    rw [Lib.run_to_unsafe w ⟨b, 0, none⟩ ty48 ty73 hj (by rw [hjs]; decide) hsh (Nat.zero_lt_succ 1)]
    simp only [Result.andThen]
    rw [Oper.upon_value]
    go_wp2
    rw [run_callFunc_extern Tryz.func195 (by kernel_rfl) (by kernel_rfl) (by kernel_rfl) (e := Extern.AbiNoEscape.same) (by kernel_rfl)]
    rw [Lib.run_noEscape]
    simp only [Result.andThen]
    rw [Oper.upon_value]
    go_wp2
    rw [Lib.run_from_unsafe w ⟨b, 0, none⟩ ty73 ty48 hj hsh lies51]
    simp only [Result.andThen]
    rw [Oper.upon_value]
    go_wp2
    go_end0
    exact ⟨rfl, h.used _, (Below.refl b w).setCell (p := ⟨b, 0, none⟩) h.1 _, (Lib.OthersKept.refl _ _ w).setCell ⟨b, 0, none⟩ rfl _, by simp [World.setCell]⟩
  · obtain ⟨j, hj, _⟩ := Option.map_eq_some_iff.1 size51
    have c0 := h.cell0
    go_enter Tryz.func165, Tryz.ntmps165
    go_wp2
    rw [Lib.run_neq_ptr_same w _ ty48 hj]
    go_wp2
    go_end0
    exact ⟨rfl, h, Below.refl b _, Lib.OthersKept.refl _ _ _, Nat.le_refl _⟩

set_option maxHeartbeats 2000000 in
set_option maxRecDepth 100000 in
theorem writeString_any (b : Nat) (l s : List UInt8) (w : World) (h : Pen w b l) (hlen : l.length + s.length ≤ 100000) :
    Calls Tryz.prog 115 #[.pointer (some ⟨b, 0, none⟩), .string (S s)] w fun e w' => e = .returned (.tuple #[.int .i64 (S s).size, .nilIface]) ∧ Pen w' b (l ++ s) ∧ Wrote w w' b := by
  obtain ⟨i0, hi, hz0, hz1, hz2⟩ := info_parts pinfo5
  have hs := S_size s
  have hbl := Lib.byteCells_length l
  go_enter Tryz.func115, Tryz.ntmps115
  go_wp2_with (go_at_call 165; refine (copyCheck_any b _ _ h).mono ?_)
  rintro e w1 ⟨rfl, h1, hb1, hk1, hz1'⟩
  obtain ⟨hB, v, hbk, hown, hne⟩ := h1
  have c0 : w1.cell? ⟨b, 0, none⟩ = some (.pointer (some ⟨b, 0, none⟩)) := by rw [Lib.cell_of_heap hbk]; rfl
  have c1 : w1.cell? ⟨b, 1, none⟩ = some v := by rw [Lib.cell_of_heap hbk]; rfl
  have hlt : b < w1.heap.size := by
    rcases Nat.lt_or_ge b w1.heap.size with h' | h'
    · exact h'
    · simp [Array.getElem?_eq_none h'] at hbk
  go_wp2_with (at_builtin; refine Lib.wpList_append_own_stringF _ rfl _ _ 40 9 rfl b 5 i0 ty49 ty9 hi hz0 hz1 hz2 _ _ _ rfl hown (S s) rfl ?c3 ?c4 ?c5 ?_)
  case c3 => unfold maxLen; omega
  case c4 => omega
  case c5 => omega
  intro v' w2 hown' hgrow _
  have hb2 : w2.heap[b]? = some (.cells #[.pointer (some ⟨b, 0, none⟩), v] 204 (0, 0)) := by
    rw [hgrow.block b hlt (fun e => hne e.symm)]
    exact hbk
  have d0 : w2.cell? ⟨b, 0, none⟩ = some (.pointer (some ⟨b, 0, none⟩)) := by rw [Lib.cell_of_heap hb2]; rfl
  have d1 : w2.cell? ⟨b, 1, none⟩ = some v := by rw [Lib.cell_of_heap hb2]; rfl
  have f1 : w2.frozen? ⟨b, 1, none⟩ = false := Lib.frozen_of_heap hb2 1
  obtain ⟨ao, n', cap, rfl⟩ : ∃ ao n' cap, v' = .slice ao n' cap := by
    rcases hown'.2 with ⟨hv, _⟩ | ⟨g, cap, cur, fz, hv, _⟩
    · exact ⟨_, _, _, hv⟩
    · exact ⟨_, _, _, hv⟩
  go_wp2
  go_ret2
  refine ⟨rfl, .inr ?_, (hb1.grown hgrow (by omega) (fun k hk => (hown.lt k hk).1)).setCell (p := ⟨b, 1, none⟩) hB _, (hk1.grown hgrow (Lib.ownsRowF_kind hown)).setCell ⟨b, 1, none⟩ rfl _, by have := hgrow.size; simp [World.setCell]; omega⟩
  have hcc : Lib.byteCells (l ++ s) = Lib.byteCells l ++ Lib.strCells (S s) := by simp [Lib.byteCells, Lib.strCells, S]
  rw [hcc]
  exact Lib.BuilderAtF.put (T := 204) (e := 5) hB hb2 (bs' := Lib.byteCells l ++ Lib.strCells (S s)) (by rw [List.length_append, Lib.strCells_length, hbl, hs]; exact hown') (by decide)

set_option maxHeartbeats 1000000 in
set_option maxRecDepth 100000 in
theorem string_any (b : Nat) (l : List UInt8) (w : World) (h : Pen w b l) (h0 : l ≠ []) :
    Calls Tryz.prog 55 #[.pointer (some ⟨b, 0, none⟩)] w fun e w' => e = .returned (.string (S l)) ∧ Below b w w' ∧ w.heap.size ≤ w'.heap.size := by
  obtain ⟨p, hp, hAt⟩ : ∃ p, (p = .pointer none ∨ p = .pointer (some ⟨b, 0, none⟩)) ∧ Lib.BuilderAtF 204 5 b b p (Lib.byteCells l) w := by
    rcases h with h | h
    · exact ⟨_, .inl rfl, h⟩
    · exact ⟨_, .inr rfl, h⟩
  obtain ⟨hB, v, hbk, hown, hne⟩ := hAt
  have hl0 : l.length ≠ 0 := by simpa using h0
  rw [Lib.byteCells_length] at hown
  obtain ⟨g, cap, cur, fz, rfl, hbg, hg, hfz, hnc, hcm, hcs, htake⟩ : ∃ g cap cur fz, v = .slice (some ⟨g, 0, none⟩) l.length cap ∧ b ≤ g ∧ w.heap[g]? = some (.cells cur 5 fz) ∧ fz.2 ≤ l.length * 1 ∧ l.length ≤ cap ∧ cap ≤ maxLen ∧ cur.size = cap * 1 ∧ cur.toList.take (l.length * 1) = Lib.byteCells l := by
    rcases hown.2 with ⟨_, hz⟩ | ⟨g, cap, cur, fz, hv, r⟩
    · exact absurd hz hl0
    · exact ⟨g, cap, cur, fz, hv, r⟩
  have c1 : w.drew.cell? ⟨b, 1, none⟩ = some (.slice (some ⟨g, 0, none⟩) l.length cap) := by
    have : w.drew.heap[b]? = some (.cells #[p, .slice (some ⟨g, 0, none⟩) l.length cap] 204 (0, 0)) := hbk
    rw [Lib.cell_of_heap this]; rfl
  have hSD : (Builtin.unsafeSliceData_ #[40] 156 #[.slice (some ⟨g, 0, none⟩) l.length cap]).run Tryz.prog w.drew = .ok (.pointer (some ⟨g, 0, none⟩)) w.drew :=
    Lib.run_unsafeSliceData_row _ _ _ _ _ _ (by omega)
  have hUS : (Builtin.unsafeString_ #[156, 3] 9 #[.pointer (some ⟨g, 0, none⟩), .int .i64 l.length]).run Tryz.prog w.drew = .ok (.string (S l)) (w.drew.freeze ⟨g, 0, none⟩ l.length) := by
    refine Lib.run_unsafeString_row w.drew 156 3 9 5 ty71 (by kernel_rfl) g cur.size (by have hg' : w.drew.heap[g]? = some (.cells cur 5 fz) := hg; simp [World.shape?, hg']) l h0 (by omega) (by unfold maxLen at hcm; omega) ?_
    intro j x hx
    have := hown.cells (g := g) rfl j (.int .u8 x.toNat) (by simp [Lib.byteCells, hx])
    exact this
  have hBF : Below b w (w.drew.freeze ⟨g, 0, none⟩ l.length) := Lib.below_freeze (Below.drew (Below.refl b w)) (p := ⟨g, 0, none⟩) hbg _
  have mixed : Tryz.prog.follows Departure.mixedOrders = true := by kernel_rfl
  go_enter Tryz.func55, Tryz.ntmps55
  go_wp2
  go_region_o
  all_goals (go_wp2; go_ret; exact ⟨rfl, hBF, hBF.size⟩)

theorem Wrote.trans {a b c : World} {pb : Nat} (h : Wrote a b pb) (k : Wrote b c pb) : Wrote a c pb := ⟨h.1.trans (k.1.mono (Nat.le_refl _)), h.2.1.trans k.2.1, Nat.le_trans h.2.2 k.2.2⟩

set_option maxHeartbeats 1000000 in
theorem between_any (pb : Nat) (l a z m : List UInt8) (F : Nat) (caps : Array Value) (w : World) (h : Pen w pb l) (hlen : l.length + a.length + z.length + m.length ≤ 100000) (hE : ∀ args w, (callFunc F args).run Tryz.prog w = .ok (.enter F args) w)
    (hF : ∀ w1, Wrote w w1 pb → Pen w1 pb (l ++ a) → Calls Tryz.prog F caps w1 fun e w' => e = .returned (.tuple #[]) ∧ Pen w' pb (l ++ a ++ m) ∧ Wrote w1 w' pb) :
    Calls Tryz.prog 198 #[.pointer (some ⟨pb, 0, none⟩), .string (S a), .string (S z), .func (.func F) #[] caps] w fun e w' => e = .returned (.tuple #[]) ∧ Pen w' pb (l ++ a ++ m ++ z) ∧ Wrote w w' pb := by
  go_enter Tryz.func198, Tryz.ntmps198
  go_wp2_with (go_at_call 115; refine (writeString_any pb _ _ _ h (by omega)).mono ?_; rintro e w1 ⟨rfl, h1, k1⟩)
  refine (hF w1 k1 h1).mono ?_
  rintro e w2 ⟨rfl, h2, k2⟩
  go_wp2_with (go_at_call 115; refine (writeString_any pb _ _ _ h2 (by simp; omega)).mono ?_; rintro e w3 ⟨rfl, h3, k3⟩)
  go_end0
  exact ⟨rfl, h3, (k1.trans k2).trans k3⟩

theorem Pen.kept {w w' : World} {pb : Nat} {l : List UInt8} (h : Pen w pb l) (hg : w.grownBy w' none) : Pen w' pb l := by
  have key : ∀ p, Lib.BuilderAtF 204 5 pb pb p (Lib.byteCells l) w → Lib.BuilderAtF 204 5 pb pb p (Lib.byteCells l) w' := by
    rintro p ⟨hB, v, hb, hown, hne⟩
    exact ⟨hB, v, (hg.block pb (Array.getElem?_eq_some_iff.1 hb).1 (by simp)).trans hb, hown.kept hg (by cases hv : v.ownBlock <;> simp), hne⟩
  exact h.elim (fun x => .inl (key _ x)) (fun x => .inr (key _ x))
theorem Pen.lt {w : World} {pb : Nat} {l : List UInt8} (h : Pen w pb l) : pb < w.heap.size := by
  rcases h with ⟨_, v, hb, _⟩ | ⟨_, v, hb, _⟩ <;> exact (Array.getElem?_eq_some_iff.1 hb).1
theorem grown_below {w w' : World} (h : Below w.heap.size w w') : w.grownBy w' none := ⟨h.os, h.tape, h.output, h.size, fun k hk _ => h.block k hk⟩
theorem Wrote.grown {w w' : World} (hg : w.grownBy w' none) (pb : Nat) (hp : pb ≤ w.heap.size) : Wrote w w' pb :=
  ⟨⟨hg.os, hg.tape, hg.output, hg.size, fun k hk => hg.block k (by omega) (by simp)⟩, fun k o ho _ _ => (hg.block k (Array.getElem?_eq_some_iff.1 ho).1 (by simp)).trans ho, hg.size⟩
theorem Wrote.at {w w' : World} {pb k : Nat} {C : Array Value} {T : TypeId} {fz : Nat × Nat} (h : Wrote w w' pb) (hk : w.heap[k]? = some (.cells C T fz)) (hne : k ≠ pb) (hT : T ≠ 5) : w'.heap[k]? = some (.cells C T fz) :=
  h.2.1 k _ hk (by simpa using hne) (fun c f e => by cases e; exact hT rfl)

theorem enters55 : ∀ args w, (callFunc 227 args).run Tryz.prog w = .ok (.enter 227 args) w := enters_of Tryz.func227 (by kernel_rfl) rfl
theorem enters43 : ∀ args w, (callFunc 199 args).run Tryz.prog w = .ok (.enter 199 args) w := enters_of Tryz.func199 (by kernel_rfl) rfl
theorem enters44 : ∀ args w, (callFunc 200 args).run Tryz.prog w = .ok (.enter 200 args) w := enters_of Tryz.func200 (by kernel_rfl) rfl

/-- What whole writes of a type. -/
def WholeOk (t : Tp.Ty) : Prop := ∀ (pb : Nat) (l : List UInt8) (w : World), Pen w pb l → l.length + 10 * (Tp.enc t).length ≤ 50000 →
  Calls Tryz.prog 166 #[.pointer (some ⟨pb, 0, none⟩), .string (S (Tp.enc t))] w fun e w' => e = .returned (.tuple #[]) ∧ Pen w' pb (l ++ Tp.wd t) ∧ Wrote w w' pb
def ArmOk (t : Tp.Ty) : Prop := ∀ (pb : Nat) (l : List UInt8) (w : World), Pen w pb l → l.length + 10 * (Tp.enc t).length + 2 ≤ 50000 →
  Calls Tryz.prog 197 #[.pointer (some ⟨pb, 0, none⟩), .string (S (Tp.enc t))] w fun e w' => e = .returned (.tuple #[]) ∧ Pen w' pb (l ++ Tp.par t (Tp.wd t)) ∧ Wrote w w' pb

theorem cell_one {w : World} {g : Nat} {v : Value} {T : TypeId} (h : w.heap[g]? = some (.cells #[v] T (0, 0))) : w.cell? ⟨g, 0, none⟩ = some v := by simp [World.cell?, h]
theorem heap_two {w : World} {x y : Value} {S T : TypeId} : ((w.alloc (.cells #[x] S)).alloc (.cells #[y] T)).heap[w.heap.size]? = some (.cells #[x] S (0, 0)) ∧ ((w.alloc (.cells #[x] S)).alloc (.cells #[y] T)).heap[w.heap.size + 1]? = some (.cells #[y] T (0, 0)) := by
  constructor
  · rw [Below.heap_alloc _ _ _ (by simp)]; exact heap_alloc_new _ _
  · have := heap_alloc_new (w.alloc (.cells #[x] S)) (.cells #[y] T)
    simpa using this

theorem Wrote.of_drew {w w' : World} {pb : Nat} (h : Wrote w.drew w' pb) : Wrote w w' pb := ⟨⟨h.1.os, h.1.tape, h.1.output, h.1.size, h.1.block⟩, h.2.1, h.2.2⟩

set_option maxHeartbeats 1000000 in
theorem clo55_any (t : Tp.Ty) (h : WholeOk t) (pb a b : Nat) (l : List UInt8) (w : World) (hP : Pen w pb l) (hl : l.length + 10 * (Tp.enc t).length ≤ 50000)
    (ha : w.heap[a]? = some (.cells #[.pointer (some ⟨pb, 0, none⟩)] 228 (0, 0))) (hb : w.heap[b]? = some (.cells #[.string (S (Tp.enc t))] 9 (0, 0))) :
    Calls Tryz.prog 227 #[.pointer (some ⟨a, 0, none⟩), .pointer (some ⟨b, 0, none⟩)] w fun e w' => e = .returned (.tuple #[]) ∧ Pen w' pb (l ++ Tp.wd t) ∧ Wrote w w' pb := by
  have ca := cell_one ha
  have cb := cell_one hb
  go_enter Tryz.func227, Tryz.ntmps227
  go_wp2_with (go_at_call 166; refine (h pb l _ hP hl).mono ?_; rintro e w1 ⟨rfl, h1, k1⟩)
  go_end0
  exact ⟨rfl, h1, k1⟩

set_option maxHeartbeats 1000000 in
theorem armOk_of (t : Tp.Ty) (h : WholeOk t) : ArmOk t := by
  intro pb l w hP hl
  obtain ⟨hp, hh⟩ := S_head t
  have hh' := hh hp
  have hp' : (0 : Int) < ((S (Tp.enc t)).size : Int) := by omega
  have hwl := Tp.wd_len t
  have hpb := hP.lt
  obtain ⟨h1, h2⟩ := heap_two (w := w) (x := .pointer (some ⟨pb, 0, none⟩)) (y := .string (S (Tp.enc t))) (S := 228) (T := 9)
  have hg : w.grownBy ((w.alloc (.cells #[.pointer (some ⟨pb, 0, none⟩)] 228)).alloc (.cells #[.string (S (Tp.enc t))] 9)) none := grownBy_alloc (grownBy_alloc (grownBy_refl _ _) _) _
  have hP1 := hP.kept hg
  have hW1 := Wrote.grown hg pb (by omega)
  have hlt : w.heap.size < ((w.alloc (.cells #[.pointer (some ⟨pb, 0, none⟩)] 228)).alloc (.cells #[.string (S (Tp.enc t))] 9)).heap.size := by simp; omega
  by_cases hf : Tp.isF t = true
  · have hd : (Tp.hd t).toNat = 62 := by cases t <;> simp [Tp.isF] at hf <;> rfl
    have HP : Aside (Tp.par t (Tp.wd t) = 40 :: (Tp.wd t ++ [41])) := by show _ = _; simp [Tp.par, hf]
    rw [hd] at hh'
    clear hf hh
    go_enter Tryz.func197, Tryz.ntmps197
    go_wp2_with fail
    refine (between_any pb l [40] [41] (Tp.wd t) 227 _ _ hP1 (by simp; omega) enters55 (fun w1 k1 p1 => clo55_any t h pb _ _ _ w1 p1 (by simp; omega) (k1.at h1 (by omega) (by decide)) (k1.at h2 (by omega) (by decide)))).mono ?_
    rintro e w2 ⟨rfl, p2, k2⟩
    go_wp2
    go_end0
    refine ⟨rfl, ?_, hW1.trans k2⟩
    rw [HP.out]
    simpa using p2
  · have hd : ((Tp.hd t).toNat : Int) ≠ 62 := by cases t <;> simp [Tp.isF] at hf <;> simp [Tp.hd]
    have HP : Aside (Tp.par t (Tp.wd t) = Tp.wd t) := by show _ = _; simp [Tp.par, hf]
    have hh2 : (((S (Tp.enc t))[0].toNat : Int) != 62) = true := by rw [hh']; simpa using hd
    clear hf hh hh' hd
    go_enter Tryz.func197, Tryz.ntmps197
    go_wp2_with (go_at_call 166; refine (h pb l _ hP1 (by omega)).mono ?_; rintro e w1 ⟨rfl, p1, k1⟩)
    refine bodyPost_ret (v := .tuple #[]) (by simp [results, Tryz.results197, go_sem]) rfl ?_
    refine ⟨rfl, ?_, hW1.trans k1⟩
    rw [HP.out]
    exact p1

theorem own_block {W : World} {base n : Nat} {v : Value} {ps : List (List UInt8)} (h : W.ownsRow base 9 1 v n (tcells ps)) (hn : 0 < n) : ∃ g cap cur, v = .slice (some ⟨g, 0, none⟩) n cap ∧ n ≤ cap ∧ base ≤ g ∧ W.heap[g]? = some (.cells cur 9 (0, 0)) ∧ ∀ j p, j < n → ps[j]? = some p → cur[j]? = some (.string (S p)) := by
  obtain ⟨h1, ⟨rfl, h0⟩ | ⟨g, cap, cur, rfl, hg, hh, hc, _, hs, ht⟩⟩ := h
  · omega
  · refine ⟨g, cap, cur, rfl, hc, hg, hh, fun j p hj hp => ?_⟩
    have : cur.toList[j]? = some (.string (S p)) := by
      rw [← List.getElem?_take_of_lt (j := n * 1) (by omega), ht]
      simp [tcells, hp]
    simpa using this
theorem cell_of {w : World} {g j : Nat} {C : Array Value} {T : TypeId} {v : Value} (h : w.heap[g]? = some (.cells C T (0, 0))) (hj : C[j]? = some v) : w.cell? ⟨g, j, none⟩ = some v := by simp [World.cell?, h, hj]

set_option maxHeartbeats 2000000 in
theorem clo44_any (a : Tp.Ty) (h : WholeOk a) (pb A C g vc n : Nat) (cur : Array Value) (l : List UInt8) (w : World) (hP : Pen w pb l) (hl : l.length + 10 * (Tp.enc a).length ≤ 50000) (hn : (0 : Int) < (n : Int))
    (hA : w.heap[A]? = some (.cells #[.pointer (some ⟨pb, 0, none⟩)] 228 (0, 0))) (hC : w.heap[C]? = some (.cells #[.slice (some ⟨g, 0, none⟩) n vc] 149 (0, 0)))
    (hG : w.heap[g]? = some (.cells cur 9 (0, 0))) (e0 : cur[0]? = some (.string (S (Tp.enc a)))) :
    Calls Tryz.prog 200 #[.pointer (some ⟨A, 0, none⟩), .pointer (some ⟨C, 0, none⟩)] w fun e w' => e = .returned (.tuple #[]) ∧ Pen w' pb (l ++ Tp.wd a) ∧ Wrote w w' pb := by
  have cA := cell_one hA
  have cC := cell_one hC
  have c0 := cell_of hG e0
  go_enter Tryz.func200, Tryz.ntmps200
  go_wp2_with fail
  go_region_with (go_at_call 166; refine (h pb l _ (by exact hP) (by omega)).mono ?_; rintro e w3 ⟨rfl, p3, k3⟩)
  all_goals (go_wp2_with fail; go_end0; exact ⟨rfl, p3, k3.of_drew⟩)

set_option maxHeartbeats 2000000 in
theorem clo43_any (a b : Tp.Ty) (h : WholeOk a) (h' : WholeOk b) (pb A C g vc n : Nat) (cur : Array Value) (l : List UInt8) (w : World) (hP : Pen w pb l) (hl : l.length + 10 * (Tp.enc a).length + 10 * (Tp.enc b).length ≤ 50000) (hn : (1 : Int) < (n : Int))
    (hA : w.heap[A]? = some (.cells #[.pointer (some ⟨pb, 0, none⟩)] 228 (0, 0))) (hC : w.heap[C]? = some (.cells #[.slice (some ⟨g, 0, none⟩) n vc] 149 (0, 0)))
    (hG : w.heap[g]? = some (.cells cur 9 (0, 0))) (e0 : cur[0]? = some (.string (S (Tp.enc a)))) (e1 : cur[1]? = some (.string (S (Tp.enc b)))) (nA : A ≠ pb) (nC : C ≠ pb) (nG : g ≠ pb) :
    Calls Tryz.prog 199 #[.pointer (some ⟨A, 0, none⟩), .pointer (some ⟨C, 0, none⟩)] w fun e w' => e = .returned (.tuple #[]) ∧ Pen w' pb (l ++ (Tp.wd a ++ ([44, 32] ++ Tp.wd b))) ∧ Wrote w w' pb := by
  have cA := cell_one hA
  have cC := cell_one hC
  have c0 := cell_of hG e0
  have hwa := Tp.wd_len a
  have hn0 : (0 : Int) < (n : Int) := by omega
  go_enter Tryz.func199, Tryz.ntmps199
  go_wp2_with fail
  go_cut [] (fun wx => Pen wx pb (l ++ Tp.wd a) ∧ Wrote w wx pb)
  case first =>
    go_region_with (go_at_call 166; refine (h pb l _ (by exact hP) (by omega)).mono ?_; rintro e w3 ⟨rfl, p3, k3⟩)
    all_goals (go_wp2_with fail; go_meet; exact ⟨p3, k3.of_drew⟩)
  case rest =>
    obtain ⟨p3, k3⟩ := hcut
    have hA3 := k3.at hA nA (by decide)
    have hC3 := k3.at hC nC (by decide)
    have hG3 := k3.at hG nG (by decide)
    have cA3 := cell_one hA3
    clear cA cC c0
    go_wp2_with fail
    refine (writeString_any pb _ [44, 32] _ p3 (by simp; omega)).mono ?_
    rintro e w4 ⟨rfl, p4, k4⟩
    have cA4 := cell_one (k4.at hA3 nA (by decide))
    have cC4 := cell_one (k4.at hC3 nC (by decide))
    have c14 := cell_of (k4.at hG3 nG (by decide)) e1
    clear cA3
    go_wp2_with fail
    go_region_with (go_at_call 166; refine (h' pb _ _ (by exact p4) (by simp; omega)).mono ?_; rintro e w5 ⟨rfl, p5, k5⟩)
    all_goals (go_wp2_with fail; go_end0; exact ⟨rfl, by simpa using p5, (k3.trans k4).trans k5.of_drew⟩)

set_option maxHeartbeats 4000000 in
theorem wholeOk (n : Nat) : ∀ t : Tp.Ty, (Tp.enc t).length ≤ n → (Tp.enc t).length ≤ 64 → WholeOk t := by
  induction n with
  | zero => intro t h _; have := Tp.enc_pos t; omega
  | succ n ih =>
    intro t hn h64 pb l w hP hl
    obtain ⟨hp, hh⟩ := S_head t
    have hh' := hh hp
    have hp' : (0 : Int) < ((S (Tp.enc t)).size : Int) := by omega
    have hwl := Tp.wd_len t
    have hpb := hP.lt
    have hPt := parts_yes t h64
    have hkl := Tp.kid_len t
    clear hh
    go_enter Tryz.func166, Tryz.ntmps166
    go_wp2_with fail
    refine (hPt _).mono ?_
    rintro e w1 ⟨v, rfl, hown, hB1⟩
    obtain ⟨va, vc, rfl⟩ := own_len hown
    have hAs : w.heap.size < (w.alloc (.cells #[.pointer (some ⟨pb, 0, none⟩)] 228)).heap.size := by simp
    have hs1 : w.heap.size < w1.heap.size := Nat.lt_of_lt_of_le hAs hB1.size
    have hA1 : w1.heap[w.heap.size]? = some (.cells #[.pointer (some ⟨pb, 0, none⟩)] 228 (0, 0)) := (hB1.block _ hAs).trans (heap_alloc_new _ _)
    have cA := cell_one hA1
    have hg1 : w.grownBy w1 none := grownBy_alloc_pre (grown_below hB1)
    have hg2 : w.grownBy (w1.alloc (.cells #[.slice va (Tp.kids t).length vc] 149)) none := grownBy_alloc hg1 _
    have hP2 := hP.kept hg2
    have hW2 := Wrote.grown hg2 pb (by omega)
    have hA2 : (w1.alloc (.cells #[.slice va (Tp.kids t).length vc] 149)).heap[w.heap.size]? = some (.cells #[.pointer (some ⟨pb, 0, none⟩)] 228 (0, 0)) := (Below.heap_alloc _ _ _ hs1).trans hA1
    have hC2 : (w1.alloc (.cells #[.slice va (Tp.kids t).length vc] 149)).heap[w1.heap.size]? = some (.cells #[.slice va (Tp.kids t).length vc] 149 (0, 0)) := heap_alloc_new _ _
    clear hPt hg1 hg2
    cases t with
    | ti =>
      clear hown hkl
      go_wp2_with (go_at_call 115; refine (writeString_any pb l [105, 110, 116] _ hP2 (by simp; omega)).mono ?_; rintro e w3 ⟨rfl, p3, k3⟩)
      go_end0
      exact ⟨rfl, p3, hW2.trans k3⟩
    | tb =>
      clear hown hkl
      go_wp2_with (go_at_call 115; refine (writeString_any pb l [98, 111, 111, 108] _ hP2 (by simp; omega)).mono ?_; rintro e w3 ⟨rfl, p3, k3⟩)
      go_end0
      exact ⟨rfl, p3, hW2.trans k3⟩
    | tt =>
      clear hown hkl
      go_wp2_with (go_at_call 115; refine (writeString_any pb l [116, 101, 120, 116] _ hP2 (by simp; omega)).mono ?_; rintro e w3 ⟨rfl, p3, k3⟩)
      go_end0
      exact ⟨rfl, p3, hW2.trans k3⟩
    | tq =>
      clear hown hkl
      go_wp2_with (go_at_call 115; refine (writeString_any pb l [63] _ hP2 (by simp; omega)).mono ?_; rintro e w3 ⟨rfl, p3, k3⟩)
      go_end0
      exact ⟨rfl, p3, hW2.trans k3⟩
    | tl a =>
      obtain ⟨g, cap, cur, hvc, hcap, hgb, hG1, hcur⟩ := own_block hown (Nat.zero_lt_succ _)
      obtain ⟨rfl, rfl⟩ : va = some ⟨g, 0, none⟩ ∧ vc = cap := by simpa using hvc
      have hgl : g < w1.heap.size := (Array.getElem?_eq_some_iff.1 hG1).1
      have hgb' : w.heap.size < g := by simp at hgb; omega
      have e0 := hcur 0 (Tp.enc a) (Nat.zero_lt_succ _) rfl
      have c0 := cell_of hG1 e0
      have hla := hkl a (by simp [Tp.kids])
      have hwa := Tp.wd_len a
      have hpa := Tp.par_len a (Tp.wd a)
      have hwo : (Tp.enc a).length + 1 = (Tp.enc (.tl a)).length := by simp [Tp.enc]
      have iha := ih a (by omega) (by omega)
      have iha' := armOk_of a iha
      have hG2 : (w1.alloc (.cells #[.slice (some ⟨g, 0, none⟩) (Tp.kids (.tl a)).length vc] 149)).heap[g]? = some (.cells cur 9 (0, 0)) := (Below.heap_alloc _ _ _ hgl).trans hG1
      have hi0 : (0 : Int) < ((Tp.kids (.tl a)).length : Int) := by show (0 : Int) < 1; decide
      clear hown hkl hcur hvc
      go_wp2_with fail
      refine (between_any pb l [91] [93] (Tp.wd a) 200 _ _ hP2 (by simp; omega) enters44 (fun w3 k3 p3 => clo44_any a iha pb _ _ g vc _ cur _ w3 p3 (by simp; omega) hi0 (k3.at hA2 (by omega) (by decide)) (k3.at hC2 (by omega) (by decide)) (k3.at hG2 (by omega) (by decide)) e0)).mono ?_
      rintro e w4 ⟨rfl, p4, k4⟩
      go_wp2_with fail
      go_end0
      exact ⟨rfl, by simpa [Tp.wd] using p4, hW2.trans k4⟩
    | tx a =>
      obtain ⟨g, cap, cur, hvc, hcap, hgb, hG1, hcur⟩ := own_block hown (Nat.zero_lt_succ _)
      obtain ⟨rfl, rfl⟩ : va = some ⟨g, 0, none⟩ ∧ vc = cap := by simpa using hvc
      have hgl : g < w1.heap.size := (Array.getElem?_eq_some_iff.1 hG1).1
      have hgb' : w.heap.size < g := by simp at hgb; omega
      have e0 := hcur 0 (Tp.enc a) (Nat.zero_lt_succ _) rfl
      have c0 := cell_of hG1 e0
      have hla := hkl a (by simp [Tp.kids])
      have hwa := Tp.wd_len a
      have hpa := Tp.par_len a (Tp.wd a)
      have hwo : (Tp.enc a).length + 1 = (Tp.enc (.tx a)).length := by simp [Tp.enc]
      have iha := ih a (by omega) (by omega)
      have iha' := armOk_of a iha
      have hG2 : (w1.alloc (.cells #[.slice (some ⟨g, 0, none⟩) (Tp.kids (.tx a)).length vc] 149)).heap[g]? = some (.cells cur 9 (0, 0)) := (Below.heap_alloc _ _ _ hgl).trans hG1
      have hi0 : (0 : Int) < ((Tp.kids (.tx a)).length : Int) := by show (0 : Int) < 1; decide
      clear hown hkl hcur hvc
      go_wp2_with fail
      refine (writeString_any pb l [98, 111, 120, 32] _ hP2 (by simp; omega)).mono ?_
      rintro e w4 ⟨rfl, p4, k4⟩
      have cA4 := cell_one (k4.at hA2 (by omega) (by decide))
      have cC4 := cell_one (k4.at hC2 (by omega) (by decide))
      have c04 := cell_of (k4.at hG2 (by omega) (by decide)) e0
      clear c0 cA
      go_wp2_with fail
      go_region_with (go_at_call 197; refine (iha' pb _ _ (by exact p4) (by simp; omega)).mono ?_; rintro e w5 ⟨rfl, p5, k5⟩)
      all_goals (go_wp2_with fail; go_end0; exact ⟨rfl, by simpa [Tp.wd] using p5, (hW2.trans k4).trans k5.of_drew⟩)
    | tf a b =>
      obtain ⟨g, cap, cur, hvc, hcap, hgb, hG1, hcur⟩ := own_block hown (Nat.zero_lt_succ _)
      obtain ⟨rfl, rfl⟩ : va = some ⟨g, 0, none⟩ ∧ vc = cap := by simpa using hvc
      have hgl : g < w1.heap.size := (Array.getElem?_eq_some_iff.1 hG1).1
      have hgb' : w.heap.size < g := by simp at hgb; omega
      have e0 := hcur 0 (Tp.enc a) (Nat.zero_lt_succ _) rfl
      have e1 := hcur 1 (Tp.enc b) (by show 1 < 2; omega) rfl
      have c0 := cell_of hG1 e0
      have hla := hkl a (by simp [Tp.kids])
      have hlb := hkl b (by simp [Tp.kids])
      have hwa := Tp.wd_len a
      have hpa := Tp.par_len a (Tp.wd a)
      have hwb := Tp.wd_len b
      have hwo : (Tp.enc a).length + (Tp.enc b).length + 1 = (Tp.enc (.tf a b)).length := by simp [Tp.enc]
      have ihb := ih b (by omega) (by omega)
      have iha := ih a (by omega) (by omega)
      have iha' := armOk_of a iha
      have hG2 : (w1.alloc (.cells #[.slice (some ⟨g, 0, none⟩) (Tp.kids (.tf a b)).length vc] 149)).heap[g]? = some (.cells cur 9 (0, 0)) := (Below.heap_alloc _ _ _ hgl).trans hG1
      have hi0 : (0 : Int) < ((Tp.kids (.tf a b)).length : Int) := by show (0 : Int) < 2; decide
      have hi1 : (1 : Int) < ((Tp.kids (.tf a b)).length : Int) := by show (1 : Int) < 2; decide
      clear hown hkl hcur hvc
      go_wp2_with fail
      go_cut [] from 35 to 39 (fun wx => Pen wx pb (l ++ Tp.par a (Tp.wd a)) ∧ Wrote (w1.alloc (.cells #[.slice (some ⟨g, 0, none⟩) (Tp.kids (.tf a b)).length vc] 149)) wx pb)
      case first =>
        go_region_with (go_at_call 197; refine (iha' pb l _ (by exact hP2) (by omega)).mono ?_; rintro e w3 ⟨rfl, p3, k3⟩)
        all_goals (go_wp2_with fail; go_meet; exact ⟨p3, k3.of_drew⟩)
      case rest =>
        obtain ⟨p3, k3⟩ := hcut
        have hA3 := k3.at hA2 (by omega) (by decide)
        have hC3 := k3.at hC2 (by omega) (by decide)
        have hG3 := k3.at hG2 (by omega) (by decide)
        have cA3 := cell_one hA3
        clear c0 cA
        go_wp2_with fail
        refine (writeString_any pb _ [32, 45, 62, 32] _ p3 (by simp; omega)).mono ?_
        rintro e w4 ⟨rfl, p4, k4⟩
        have cA4 := cell_one (k4.at hA3 (by omega) (by decide))
        have cC4 := cell_one (k4.at hC3 (by omega) (by decide))
        have c14 := cell_of (k4.at hG3 (by omega) (by decide)) e1
        clear cA3
        go_wp2_with fail
        go_region_with (go_at_call 166; refine (ihb pb _ _ (by exact p4) (by simp; omega)).mono ?_; rintro e w5 ⟨rfl, p5, k5⟩)
        all_goals (go_wp2_with fail; go_end0; exact ⟨rfl, by simpa [Tp.wd] using p5, ((hW2.trans k3).trans k4).trans k5.of_drew⟩)
    | tp a b =>
      obtain ⟨g, cap, cur, hvc, hcap, hgb, hG1, hcur⟩ := own_block hown (Nat.zero_lt_succ _)
      obtain ⟨rfl, rfl⟩ : va = some ⟨g, 0, none⟩ ∧ vc = cap := by simpa using hvc
      have hgl : g < w1.heap.size := (Array.getElem?_eq_some_iff.1 hG1).1
      have hgb' : w.heap.size < g := by simp at hgb; omega
      have e0 := hcur 0 (Tp.enc a) (Nat.zero_lt_succ _) rfl
      have e1 := hcur 1 (Tp.enc b) (by show 1 < 2; omega) rfl
      have c0 := cell_of hG1 e0
      have hla := hkl a (by simp [Tp.kids])
      have hlb := hkl b (by simp [Tp.kids])
      have hwa := Tp.wd_len a
      have hpa := Tp.par_len a (Tp.wd a)
      have hwb := Tp.wd_len b
      have hwo : (Tp.enc a).length + (Tp.enc b).length + 1 = (Tp.enc (.tp a b)).length := by simp [Tp.enc]
      have ihb := ih b (by omega) (by omega)
      have iha := ih a (by omega) (by omega)
      have iha' := armOk_of a iha
      have hG2 : (w1.alloc (.cells #[.slice (some ⟨g, 0, none⟩) (Tp.kids (.tp a b)).length vc] 149)).heap[g]? = some (.cells cur 9 (0, 0)) := (Below.heap_alloc _ _ _ hgl).trans hG1
      have hi0 : (0 : Int) < ((Tp.kids (.tp a b)).length : Int) := by show (0 : Int) < 2; decide
      have hi1 : (1 : Int) < ((Tp.kids (.tp a b)).length : Int) := by show (1 : Int) < 2; decide
      clear hown hkl hcur hvc
      go_wp2_with fail
      refine (between_any pb l [40] [41] (Tp.wd a ++ ([44, 32] ++ Tp.wd b)) 199 _ _ hP2 (by simp; omega) enters43 (fun w3 k3 p3 => by
        exact (clo43_any a b iha ihb pb _ _ g vc _ cur _ w3 p3 (by simp; omega) hi1 (k3.at hA2 (by omega) (by decide)) (k3.at hC2 (by omega) (by decide)) (k3.at hG2 (by omega) (by decide)) e0 e1 (by omega) (by omega) (by omega)))).mono ?_
      rintro e w4 ⟨rfl, p4, k4⟩
      go_wp2_with fail
      go_end0
      exact ⟨rfl, by simpa [Tp.wd] using p4, hW2.trans k4⟩
end Go.Proofs.YtpikfdkgblghhaaGreatDoor.T3
namespace Go.Proofs.YtpikfdkgblghhaaGreatDoor.T3
open Go.RowKit

set_option maxHeartbeats 1000000 in
theorem words_no (s : ByteArray) (h : (Tp.chk s.data.toList).1 ≠ 0) (w : World) :
    Calls Tryz.prog 116 #[.string s] w fun e w' => e = .returned (.tuple #[.string ⟨#[]⟩, .int .i64 (Tp.chk s.data.toList).1]) ∧ w' = w := by
  have h' : (((Tp.chk s.data.toList).1 : Int) != 0) = true := by simpa using h
  go_enter Tryz.func116, Tryz.ntmps116
  go_wp2_with (go_at_call 152; refine (check_any _ _).mono ?_; rintro e w' ⟨rfl, rfl⟩)
  go_ret2
  exact ⟨rfl, rfl⟩

theorem pen_new (w : World) : Pen (w.alloc (.cells #[.pointer none, .slice none 0 0] 204)) w.heap.size [] :=
  .inl ⟨Nat.le_refl _, _, heap_alloc_new _ _, World.ownsRowF_nil _ _ _ _, by simp [Value.ownBlock]⟩
theorem wd_ne (t : Tp.Ty) : Tp.wd t ≠ [] := by
  cases t <;> simp [Tp.wd]

set_option maxHeartbeats 1000000 in
theorem words_yes (t : Tp.Ty) (h : (Tp.enc t).length ≤ 64) (w : World) :
    Calls Tryz.prog 116 #[.string (S (Tp.enc t))] w fun e w' => e = .returned (.tuple #[.string (S (Tp.wd t)), .int .i64 0]) ∧ Below w.heap.size w w' := by
  have hc : (((Tp.chk (S (Tp.enc t)).data.toList).1 : Int) != 0) = false := by rw [S_list, Tp.chk_enc t h]; rfl
  go_enter Tryz.func116, Tryz.ntmps116
  go_wp2_with (go_at_call 152; refine (check_any _ _).mono ?_; rintro e w' ⟨rfl, hw'⟩; replace hw' := hw'.symm; subst hw')
  refine (wholeOk 64 t h h w.heap.size [] _ (pen_new w) (by simp; omega)).mono ?_
  rintro e w1 ⟨rfl, p1, k1⟩
  rw [List.nil_append] at p1
  go_wp2_with (go_at_call 55; refine (string_any _ _ _ p1 (wd_ne t)).mono ?_; rintro e w2 ⟨rfl, hB2, _⟩)
  go_ret2
  exact ⟨rfl, ((Below.refl _ _).alloc (Nat.le_refl _) _).trans ((k1.1.mono (Nat.le_refl _)).trans hB2)⟩
end Go.Proofs.YtpikfdkgblghhaaGreatDoor.T3
