/- Where a source ends, as the program tells it. The program's reader over tokens; a fault is caught. What the program reads as an import. -/
import Derived.Test.YtohjfikjbeafiaaGreatDoorGad
import Derived.Test.YtohjfikjbeafiaaGreatDoorGag
import Derived.Shelf.Bytes.SlCountOne
import Derived.Test.YtohjfikjbeafiaaGreatDoorGas
import Derived.Test.YtohjfikjbeafiaaGreatDoorGar
import Derived.Test.YtohjfikjbeafiaaGreatDoorGaj
namespace Go.Proofs.YtohjfikjbeafiaaGreatDoor
open Go.RowKit Ps
set_option maxRecDepth 100000
set_option linter.unusedSimpArgs false

namespace T1.Tx
theorem ln_count (bs : List UInt8) : ∀ k, k ≤ bs.length → lnTo bs k = (bs.take k).count 10
  | 0, _ => by simp [lnTo]
  | k + 1, h => by
    have ih := ln_count bs k (by omega)
    have hk : bs[k]? = some bs[k] := List.getElem?_eq_getElem (by omega)
    rw [lnTo, List.take_add_one, hk, List.count_append, ← ih]
    have hB : (B bs k == 10) = (bs[k] == 10) := by
      unfold B
      rw [hk, Option.getD_some, Bool.eq_iff_iff]
      simp only [beq_iff_eq]
      constructor
      · intro h; exact UInt8.toNat_inj.1 (by have : (bs[k].toNat : Int) = 10 := h; show bs[k].toNat = 10; omega)
      · intro h; rw [h]; rfl
    rw [hB]
    cases hc : (bs[k] == 10) <;> simp [hc, List.count_cons]
end T1.Tx

set_option maxHeartbeats 2000000 in
set_option maxRecDepth 1000000 in
theorem count_any (b o n c b2 d : Nat) (xs : List Int) (w : World) (hx : xs.length = n) (hc : ∀ i, i < n → w.cell? ⟨b, o + i, none⟩ = some (.int .u8 (xs.getD i 0))) (hc2 : w.cell? ⟨b2, 0, none⟩ = some (.int .u8 10)) :
    Calls Tryz.prog 126 #[.slice (some ⟨b, o, none⟩) n c, .slice (some ⟨b2, 0, none⟩) 1 d] w fun e w' => e = .returned (.int .i64 (Lib.countByte (Lib.bytesOf xs) 10)) ∧ w' = w := by
  go_enter Tryz.func126, Tryz.ntmps126
  go_wp2
  rw [run_callFunc_extern Tryz.func171 (by kernel_rfl) (by kernel_rfl) (by kernel_rfl) (e := Extern.BytealgCount.count) (by kernel_rfl), Lib.run_countSlice w b o n c xs hx hc 10]
  simp only [Result.andThen]
  rw [Oper.upon_value]
  go_wp2
  go_ret
  exact ⟨rfl, rfl⟩
set_option maxHeartbeats 2000000 in
set_option maxRecDepth 1000000 in
theorem count_none (a : Option Addr) (c b2 d : Nat) (w : World) (hc2 : w.cell? ⟨b2, 0, none⟩ = some (.int .u8 10)) :
    Calls Tryz.prog 126 #[.slice a 0 c, .slice (some ⟨b2, 0, none⟩) 1 d] w fun e w' => e = .returned (.int .i64 0) ∧ w' = w := by
  cases a with
  | none =>
    go_enter Tryz.func126, Tryz.ntmps126
    go_wp2
    rw [run_callFunc_extern Tryz.func171 (by kernel_rfl) (by kernel_rfl) (by kernel_rfl) (e := Extern.BytealgCount.count) (by kernel_rfl), Lib.run_countNil w 0 c 10]
    simp only [Result.andThen]
    rw [Oper.upon_value]
    go_wp2
    go_ret
    exact ⟨rfl, rfl⟩
  | some ad =>
    go_enter Tryz.func126, Tryz.ntmps126
    go_wp2
    rw [run_callFunc_extern Tryz.func171 (by kernel_rfl) (by kernel_rfl) (by kernel_rfl) (e := Extern.BytealgCount.count) (by kernel_rfl), Lib.run_countAt w ad 0 c [] rfl (fun i hi => absurd hi (by omega)) 10]
    simp only [Result.andThen]
    rw [Oper.upon_value]
    go_wp2
    go_ret
    exact ⟨rfl, rfl⟩

set_option maxHeartbeats 2000000 in
theorem lastAlg_any (w : World) (v : Value) (bs : List UInt8) (hs : T1.IsSrc w v bs) (hl : bs.length ≤ 1000000) :
    Calls Tryz.prog 173 #[v, .int .u8 10] w fun e w' => e = .returned (.int .i64 ((T1.Tx.stTo bs bs.length : Int) - 1)) ∧ w' = w := by
  obtain ⟨a, cap, rfl, hcl⟩ : ∃ a cap, v = .slice a bs.length cap ∧ ∀ j, j < bs.length → ∃ b o, a = some ⟨b, o, none⟩ ∧ bs.length ≤ cap ∧ w.cell? ⟨b, o + j, none⟩ = some (.int .u8 (T1.Tx.B bs j)) := by
    rcases hs with ⟨rfl, a, cap, rfl⟩ | ⟨b, o, cap, rfl, h1, h2, h3⟩
    · exact ⟨a, cap, rfl, fun j hj => absurd hj (by simp)⟩
    · exact ⟨_, cap, rfl, fun j hj => ⟨b, o, rfl, h1, h3 j hj⟩⟩
  clear hs
  go_enter Tryz.func173, Tryz.ntmps173
  go_wp2_with fail
  go_loopg [5] bs.length (fun g s wr => wr = w ∧ g ≤ bs.length ∧ s = .int .i64 ((g : Int) - 1) ∧ T1.Tx.stTo bs bs.length = T1.Tx.stTo bs g)
  case atStart => exact ⟨rfl, Nat.le_refl _, rfl, rfl⟩
  case round =>
    obtain ⟨rfl, hg, rfl, hst⟩ := hrel
    have HST : Aside (T1.Tx.stTo bs bs.length = T1.Tx.stTo bs gk) := hst
    clear hst
    cases gk with
    | zero =>
      have h0 : ¬ (0 : Int) ≤ ((0 : Nat) : Int) - 1 := by omega
      go_wp2_with fail
      go_ret
      rw [HST.out]
      exact ⟨rfl, rfl⟩
    | succ m =>
      obtain ⟨b, o, rfl, hcap, hcell⟩ := hcl m (by omega)
      have hm : ((m + 1 : Nat) : Int) - 1 = (m : Int) := by omega
      rw [hm]
      have h0 : (0 : Int) ≤ (m : Int) := by omega
      have h1 : (m : Int) < (bs.length : Int) := by omega
      by_cases h10 : (T1.Tx.B bs m == 10) = true
      · have HX : Aside (T1.Tx.stTo bs (m + 1) = m + 1) := by show _ = _; rw [T1.Tx.stTo, h10]; rfl
        go_wp2_with fail
        go_ret
        rw [HST.out, HX.out, hm]
        exact ⟨rfl, rfl⟩
      · have h10' : (T1.Tx.B bs m == 10) = false := by simpa using h10
        have HX : Aside (T1.Tx.stTo bs (m + 1) = T1.Tx.stTo bs m) := by show _ = _; rw [T1.Tx.stTo, h10']; rfl
        clear h10
        go_wp2_with fail
        go_roundg m
        case measure => omega
        case rel => exact ⟨rfl, by omega, rfl, HST.out.trans HX.out⟩

set_option maxHeartbeats 2000000 in
theorem last_any (w : World) (v : Value) (bs : List UInt8) (hs : T1.IsSrc w v bs) (hl : bs.length ≤ 1000000) :
    Calls Tryz.prog 127 #[v, .int .u8 10] w fun e w' => e = .returned (.int .i64 ((T1.Tx.stTo bs bs.length : Int) - 1)) ∧ w' = w := by
  have h := lastAlg_any w v bs hs hl
  go_enter Tryz.func127, Tryz.ntmps127
  go_wp2_with fail
  refine h.mono ?_
  rintro e w' ⟨rfl, rfl⟩
  go_wp2_with fail
  go_ret
  exact ⟨rfl, rfl⟩

set_option maxHeartbeats 2000000 in
theorem endOf_any (w : World) (v : Value) (bs : List UInt8) (hs : T1.IsSrc w v bs) (hl : bs.length ≤ 1000000) :
    Calls Tryz.prog 76 #[v] w fun e w' => e = .returned (.agg #[.int .i64 ((T1.Tx.lnTo bs bs.length : Int) + 1), .int .i64 ((bs.length : Int) - (T1.Tx.stTo bs bs.length : Int) + 1)]) ∧ Below w.heap.size w w' := by
  have hBa : ∀ o1 o2, Below w.heap.size w ((w.alloc o1).alloc o2) := fun o1 o2 => ((Below.refl _ _).alloc (Nat.le_refl _) o1).alloc (by simp) o2
  have hlast := fun o1 o2 => last_any _ v bs (hs.kept (hBa o1 o2)) hl
  have hcnt : ∀ o1, Calls Tryz.prog 126 #[v, .slice (some ⟨w.heap.size + 1, 0, none⟩) 1 1] ((w.alloc o1).alloc (.cells #[.int .u8 10] 5)) fun e w' => e = .returned (.int .i64 (T1.Tx.lnTo bs bs.length)) ∧ w' = ((w.alloc o1).alloc (.cells #[.int .u8 10] 5)) := by
    intro o1
    have hs2 := hs.kept (hBa o1 (.cells #[.int .u8 10] 5))
    have hb2 : ((w.alloc o1).alloc (.cells #[.int .u8 10] 5)).cell? ⟨w.heap.size + 1, 0, none⟩ = some (.int .u8 10) := by
      have h1 := heap_alloc_new (w.alloc o1) (.cells #[.int .u8 10] 5)
      rw [show (w.alloc o1).heap.size = w.heap.size + 1 by simp] at h1
      exact (block_cells h1).1 0
    rcases hs2 with ⟨rfl, a, cap, rfl⟩ | ⟨b, o, cap, rfl, h1, h2, h3⟩
    · exact count_none a cap _ 1 _ hb2
    · refine (count_any b o bs.length cap _ 1 (bs.map fun c => (c.toNat : Int)) _ (by simp) (fun i hi => ?_) hb2).mono ?_
      · rw [h3 i hi]
        congr 2
        unfold T1.Tx.B
        rw [List.getD_eq_getElem?_getD, List.getElem?_map, List.getElem?_eq_getElem hi]
        rfl
      · rintro e w' ⟨rfl, rfl⟩
        refine ⟨?_, rfl⟩
        rw [T1.Tx.ln_count bs _ (Nat.le_refl _), List.take_length]
        congr 3
        unfold Lib.countByte Lib.bytesOf
        rw [List.map_map]
        congr 1
        rw [List.map_congr_left (g := id)]
        · simp
        · intro c _; simp
  have hst := T1.Tx.stTo_le bs bs.length
  have hln := T1.Tx.lnTo_le bs bs.length
  have HB : Aside (∀ o1 o2, Below w.heap.size w ((w.alloc o1).alloc o2)) := hBa
  obtain ⟨a, cap, rfl⟩ := hs.shape
  clear hs
  go_enter Tryz.func76, Tryz.ntmps76
  go_wp2_with fail
  refine (hcnt _).mono ?_
  rintro e1 w1 ⟨rfl, rfl⟩
  go_wp2_with fail
  refine (hlast _ _).mono ?_
  rintro e2 w2 ⟨rfl, rfl⟩
  have e1 : ((T1.Tx.stTo bs bs.length : Int) - 1) + 1 = (T1.Tx.stTo bs bs.length : Int) := by omega
  clear hcnt hlast
  go_wp2_with fail
  try simp only [Exit.inBlock, Exit.then]
  refine bodyPost_ret (v := .agg #[.int .i64 ((T1.Tx.lnTo bs bs.length : Int) + 1), .int .i64 ((bs.length : Int) - (T1.Tx.stTo bs bs.length : Int) + 1)]) (by simp [results, Tryz.results76, go_sem]) rfl ?_
  exact ⟨rfl, HB.out _ _⟩
end Go.Proofs.YtohjfikjbeafiaaGreatDoor
namespace Go.Proofs.YtohjfikjbeafiaaGreatDoor
open Go.RowKit Ps
set_option maxRecDepth 100000
set_option linter.unusedSimpArgs false

set_option maxHeartbeats 2000000 in
theorem readerOf_any (w : World) (base n : Nat) (v : Value) (xs : List Value) (ln co : Int) (hown : w.ownsRow base 194 5 v n xs) (hn : n ≤ 100000) (hb : base ≤ w.heap.size) :
    Calls Tryz.prog 75 #[v, .agg #[.int .i64 ln, .int .i64 co]] w fun e w' => ∃ v', e = .returned (.agg #[v', .int .i64 0]) ∧ w'.ownsRow base 194 5 v' (n + 1) (xs ++ [.int .i8 0, .int .i64 0, .string ⟨#[]⟩, .int .i64 ln, .int .i64 co]) ∧ Below base w w' := by
  obtain ⟨i0, hi, hz0, hz1, hz2⟩ := info_parts T1.info40
  obtain ⟨va, vc, rfl⟩ := own_len hown
  have hB2 : ∀ o1 o2, Below w.heap.size w ((w.alloc o1).alloc o2) := fun o1 o2 => ((Below.refl _ _).alloc (Nat.le_refl _) o1).alloc (by simp) o2
  have hB3 : ∀ o1 o2 o3, Below w.heap.size w (((w.alloc o1).alloc o2).alloc o3) := fun o1 o2 o3 => (hB2 o1 o2).alloc (by simp; omega) o3
  have hz : ∀ o1 o2, ((w.alloc o1).alloc o2).heap.size = w.heap.size + 2 := fun o1 o2 => by simp
  have HC : Aside (∀ o1 o2, ∀ j u, [Value.int .i8 0, .int .i64 0, .string ⟨#[]⟩, .int .i64 ln, .int .i64 co][j]? = some u → (((w.alloc o1).alloc o2).alloc (.cells #[.int .i8 0, .int .i64 0, .string ⟨#[]⟩, .int .i64 ln, .int .i64 co] 194)).cell? ((⟨w.heap.size + 2, 0, none⟩ : Addr).add j) = some u) := fun o1 o2 => by
    have := cells_list_new ((w.alloc o1).alloc o2) [.int .i8 0, .int .i64 0, .string ⟨#[]⟩, .int .i64 ln, .int .i64 co] 194
    rw [hz] at this
    exact this
  have HQ : Aside (∀ o1 o2 o3 w7, (((w.alloc o1).alloc o2).alloc o3).grownBy w7 (Value.slice va n vc).ownBlock → Below base w w7 ∧ w7.heap[w.heap.size + 1]? = some o2) := fun o1 o2 o3 w7 hg => by
    have h1 : ∀ g, (Value.slice va n vc).ownBlock = some g → base ≤ g ∧ g < w.heap.size := fun g hg => hown.lt g hg
    refine ⟨((hB3 o1 o2 o3).mono hb).grown hg (by simp; omega) (fun g e => (h1 g e).1), ?_⟩
    refine (hg.block _ (by simp) (fun e => by have := (h1 _ e.symm).2; omega)).trans ?_
    have h2 := heap_alloc_new (w.alloc o1) o2
    rw [show (w.alloc o1).heap.size = w.heap.size + 1 by simp] at h2
    exact (Below.heap_alloc _ _ _ (by simp)).trans h2
  clear hB2 hB3
  go_enter Tryz.func75, Tryz.ntmps75
  go_wp2_with (at_builtin; go_must (refine wpList_append_own _ rfl _ _ 116 rfl base 194 i0 _ 5 48 T1.ty26 hi hz0 hz1 hz2 rfl (by decide) (.slice va n vc) _ _ rfl (((hown.alloc _).alloc _).alloc _) ⟨w.heap.size + 2, 0, none⟩ 1 1 [.int .i8 0, .int .i64 0, .string ⟨#[]⟩, .int .i64 ln, .int .i64 co] rfl rfl (HC.out _ _) (by intro u hu; simp at hu; rcases hu with rfl | rfl | rfl | rfl | rfl <;> rfl) (by unfold maxLen; omega) (by omega) (by simp; omega) ?_); intro v7 w7 hown7 hg7 _; obtain ⟨hB7, k7⟩ := HQ.out _ _ _ _ hg7; have f7 := (block_cells k7).2; have r0 : w7.cell? ⟨w.heap.size + 1, 0, none⟩ = some (.slice none 0 0) := (block_cells k7).1 0; have r1 : w7.cell? ⟨w.heap.size + 1, 1, none⟩ = some (.int .i64 0) := (block_cells k7).1 1; obtain ⟨va7, vc7, rfl⟩ := own_len hown7; clear HC HQ hg7)
  try simp only [Exit.inBlock, Exit.then]
  refine bodyPost_ret (v := .agg #[.slice va7 (n + 1) vc7, .int .i64 0]) (by simp [results, Tryz.results75, go_sem, r0, r1]) rfl ?_
  refine ⟨_, rfl, hown7.kept (grownBy_set (grownBy_set (grownBy_refl w7 (some (w.heap.size + 1))) _) _) (.inr fun e => ?_), (hB7.setCell (by simp; omega) _).setCell (by simp; omega) _⟩
  rcases hown7.2 with ⟨h1, _⟩ | ⟨g, cap, cur, h1, _, hg, _⟩
  · cases h1
  · rw [h1] at e
    simp [Value.ownBlock] at e
    subst e
    rw [k7] at hg
    simp at hg

namespace Ps
theorem flat_at {α : Type} (f : α → List Value) (n : Nat) (hf : ∀ x, (f x).length = n) : ∀ (l : List α) (j : Nat) (x : α), l[j]? = some x → ∀ i u, (f x)[i]? = some u → (l.map f).flatten[j * n + i]? = some u
  | [], j, x, h, _, _, _ => by simp at h
  | y :: l, 0, x, h, i, u, hu => by
    simp at h; subst h
    have hi : i < (f y).length := (List.getElem?_eq_some_iff.1 hu).1
    rw [List.map_cons, List.flatten_cons, Nat.zero_mul, Nat.zero_add, List.getElem?_append_left hi]; exact hu
  | y :: l, j + 1, x, h, i, u, hu => by
    have e : (j + 1) * n = n + j * n := by rw [Nat.add_mul, Nat.one_mul, Nat.add_comm]
    rw [List.map_cons, List.flatten_cons, List.getElem?_append_right (by rw [hf]; omega), hf, show (j + 1) * n + i - n = j * n + i by omega]
    exact flat_at f n hf l j x (by simpa using h) i u hu
/-- The tokens lie as the parser reads them. -/
theorem toks_own {w : World} {base : Nat} {v : Value} {L : List PT} {e : PT} (h : w.ownsRow base 194 5 v (L.length + 1) ((L.map tcs).flatten ++ tcs e)) : ∃ tb c, v = .slice (some ⟨tb, 0, none⟩) (L.length + 1) c ∧ Toks w tb 0 L e ∧ L.length + 1 ≤ c ∧ base ≤ tb ∧ tb < w.heap.size := by
  obtain ⟨g, cap, rfl, hc, hg, hcell⟩ := own_cells h (by omega)
  have hlt := (h.lt g rfl).2
  refine ⟨g, cap, rfl, ⟨hlt, fun k hk i u hu => ?_⟩, hc, hg, hlt⟩
  have hi : i < 5 := by have := (List.getElem?_eq_some_iff.1 hu).1; simpa [tcs] using this
  have hx : (L ++ [e])[k]? = some (tok L e k) := by
    unfold tok
    by_cases hkl : k < L.length
    · rw [List.getElem?_append_left hkl, List.getElem?_eq_getElem hkl]; rfl
    · obtain rfl : k = L.length := by omega
      rw [List.getElem?_append_right (Nat.le_refl _)]; simp
  have h1 := flat_at tcs 5 (fun x => rfl) (L ++ [e]) k _ hx i u hu
  rw [Nat.zero_add, hcell (k * 5 + i) (by omega)]
  rw [← h1]
  congr 1
  simp
end Ps
end Go.Proofs.YtohjfikjbeafiaaGreatDoor
namespace Go.Proofs.YtohjfikjbeafiaaGreatDoor
open Go.RowKit Ps
set_option maxRecDepth 100000
set_option linter.unusedSimpArgs false

def imv (i : Im) : Value := .agg #[.string (S i.src), .string (S i.name), .string (S i.t), .int .i64 i.ln, .int .i64 i.co]
/-- How a reading of an import ends. -/
def ImEnd (w : World) (pb : Nat) (L : List PT) (e : PT) (lm : Lim) (fm am : Value) (nd : Nat) : Re Im → Ending → World → Prop
  | .error j, e', w' => Threw w pb L e j e' w'
  | .ok (i, j, l), e', w' => e' = .returned (imv i) ∧ Prs w' pb L e j (eff L e lm l) fm am nd ∧ w.grownBy w' (some pb)

set_option maxHeartbeats 4000000 in
theorem importing_any {w : World} {pb : Nat} {L : List PT} {e : PT} {k : Nat} {lm : Lim} {fm am : Value} {nd : Nat} (he : e.kind = 0) (h : Prs w pb L e k lm fm am nd) :
    Calls Tryz.prog 142 #[.pointer (some ⟨pb, 0, none⟩)] w (ImEnd w pb L e lm fm am nd (imR L e k)) := by
  have hlt := h.lt
  have hkl := h.at'
  go_enter Tryz.func142, Tryz.ntmps142
  have hBa1 : Below w.heap.size w (w.alloc (.cells #[.string ⟨#[]⟩, .string ⟨#[]⟩, .string ⟨#[]⟩, .int .i64 0, .int .i64 0] 139)) := (Below.refl _ _).alloc (Nat.le_refl _) _
  have PP1 := h.kept hBa1
  have GG1 : w.grownBy (w.alloc (.cells #[.string ⟨#[]⟩, .string ⟨#[]⟩, .string ⟨#[]⟩, .int .i64 0, .int .i64 0] 139)) (some pb) := grownBy_below (grownBy_refl w (some pb)) hBa1
  have hlB1 := h.lt
  have kp1 : (w.alloc (.cells #[.string ⟨#[]⟩, .string ⟨#[]⟩, .string ⟨#[]⟩, .int .i64 0, .int .i64 0] 139)).heap[w.heap.size]? = some (.cells #[.string ⟨#[]⟩, .string ⟨#[]⟩, .string ⟨#[]⟩, .int .i64 0, .int .i64 0] 139) := heap_alloc_new _ _
  have hz1 : (w.alloc (.cells #[.string ⟨#[]⟩, .string ⟨#[]⟩, .string ⟨#[]⟩, .int .i64 0, .int .i64 0] 139)).heap.size = w.heap.size + 1 := by simp
  clear hBa1
  by_cases hs2 : sg L k ≠ [105, 109, 112, 111, 114, 116]
  · have hq2 : expc L e [105, 109, 112, 111, 114, 116] k = .error k := by unfold expc; rw [if_neg hs2]
    have hc3 := pexpect_no PP1 he [105, 109, 112, 111, 114, 116] hs2
    have HX3 : Aside (imR L e k = .error k) := by
      show _ = _
      simp only [imR, wImport, hq2, bnd]
    clear hq2 hs2
    go_wp2_with fail
    refine hc3.mono ?_
    rintro ee3 ww3 ⟨rfl, gg3⟩
    have GG3 := grownBy_trans GG1 gg3
    clear hc3 gg3
    go_wp2_with fail
    exact ⟨rfl, by rw [HX3.out]; exact ⟨rfl, GG3⟩⟩
  replace hs2 := Classical.not_not.1 hs2
  have Q2 : Aside (expc L e [105, 109, 112, 111, 114, 116] k = .ok (tok L e k, k + 1, [])) := by show _ = _; unfold expc; rw [if_pos hs2]
  have hk2 := sg_lt hs2
  have HS2 : Aside (sg L k = [105, 109, 112, 111, 114, 116]) := hs2
  clear hs2
  have hc4 := pexpect_yes PP1 he 105 [109, 112, 111, 114, 116] HS2.out
  go_wp2_with fail
  refine hc4.mono ?_
  rintro ee4 ww4 ⟨rfl, PP4, gg4⟩
  have kb4_0 := (gg4.block w.heap.size (Array.getElem?_eq_some_iff.1 kp1).1 (by simp; omega)).trans kp1
  have GG4 := grownBy_trans GG1 gg4
  have hl4 := PP4.lt
  have hw4 : w.heap.size ≤ ww4.heap.size := GG4.size
  clear hc4 gg4
  by_cases hs5 : kd L (k + 1) ≠ 2
  · have hq5 : nam L e (k + 1) = .error (k + 1) := by unfold nam; rw [if_neg hs5]
    have hc6 := pname_no PP4 he hs5
    have HX6 : Aside (imR L e k = .error (k + 1)) := by
      show _ = _
      simp only [imR, wImport, Q2.out, hq5, bnd]
    clear hq5 hs5
    go_wp2_with fail
    refine hc6.mono ?_
    rintro ee6 ww6 ⟨rfl, gg6⟩
    have GG6 := grownBy_trans GG4 gg6
    clear hc6 gg6
    go_wp2_with fail
    exact ⟨rfl, by rw [HX6.out]; exact ⟨rfl, GG6⟩⟩
  replace hs5 := Classical.not_not.1 hs5
  have Q5 : Aside (nam L e (k + 1) = .ok (tok L e (k + 1), (k + 1) + 1, [])) := by show _ = _; unfold nam; rw [if_pos hs5]
  have hk5 := (nam_lt Q5.out).2
  have HS5 : Aside (kd L (k + 1) = 2) := hs5
  clear hs5
  have hc7 := pname_yes PP4 he HS5.out
  go_wp2_with fail
  refine hc7.mono ?_
  rintro ee7 ww7 ⟨rfl, PP7, gg7⟩
  have kb7_0 := (gg7.block w.heap.size (Array.getElem?_eq_some_iff.1 kb4_0).1 (by simp; omega)).trans kb4_0
  have GG7 := grownBy_trans GG4 gg7
  have hl7 := PP7.lt
  have hw7 : w.heap.size ≤ ww7.heap.size := GG7.size
  clear hc7 gg7
  unfold tagg
  have hBa8 : Below ww7.heap.size ww7 (ww7.alloc (.cells #[.int .i8 (tok L e (k + 1)).kind, .int .i64 (tok L e (k + 1)).n, .string (S (tok L e (k + 1)).s), .int .i64 (tok L e (k + 1)).ln, .int .i64 (tok L e (k + 1)).co] 194)) := (Below.refl _ _).alloc (Nat.le_refl _) _
  have PP8 := PP7.kept hBa8
  have GG8 : w.grownBy (ww7.alloc (.cells #[.int .i8 (tok L e (k + 1)).kind, .int .i64 (tok L e (k + 1)).n, .string (S (tok L e (k + 1)).s), .int .i64 (tok L e (k + 1)).ln, .int .i64 (tok L e (k + 1)).co] 194)) (some pb) := grownBy_below GG7 hBa8
  have kb8_0 := (hBa8.block w.heap.size (Array.getElem?_eq_some_iff.1 kb7_0).1).trans kb7_0
  have hlB8 := PP7.lt
  have kp8 : (ww7.alloc (.cells #[.int .i8 (tok L e (k + 1)).kind, .int .i64 (tok L e (k + 1)).n, .string (S (tok L e (k + 1)).s), .int .i64 (tok L e (k + 1)).ln, .int .i64 (tok L e (k + 1)).co] 194)).heap[ww7.heap.size]? = some (.cells #[.int .i8 (tok L e (k + 1)).kind, .int .i64 (tok L e (k + 1)).n, .string (S (tok L e (k + 1)).s), .int .i64 (tok L e (k + 1)).ln, .int .i64 (tok L e (k + 1)).co] 194) := heap_alloc_new _ _
  have hz8 : (ww7.alloc (.cells #[.int .i8 (tok L e (k + 1)).kind, .int .i64 (tok L e (k + 1)).n, .string (S (tok L e (k + 1)).s), .int .i64 (tok L e (k + 1)).ln, .int .i64 (tok L e (k + 1)).co] 194)).heap.size = ww7.heap.size + 1 := by simp
  clear hBa8
  by_cases hs9 : sg L ((k + 1) + 1) ≠ [46]
  · have hq9 : expc L e [46] ((k + 1) + 1) = .error ((k + 1) + 1) := by unfold expc; rw [if_neg hs9]
    have hc10 := pexpect_no PP8 he [46] hs9
    have HX10 : Aside (imR L e k = .error ((k + 1) + 1)) := by
      show _ = _
      simp only [imR, wImport, Q2.out, Q5.out, hq9, bnd]
    clear hq9 hs9
    go_wp2_with fail
    refine hc10.mono ?_
    rintro ee10 ww10 ⟨rfl, gg10⟩
    have GG10 := grownBy_trans GG8 gg10
    clear hc10 gg10
    go_wp2_with fail
    exact ⟨rfl, by rw [HX10.out]; exact ⟨rfl, GG10⟩⟩
  replace hs9 := Classical.not_not.1 hs9
  have Q9 : Aside (expc L e [46] ((k + 1) + 1) = .ok (tok L e ((k + 1) + 1), ((k + 1) + 1) + 1, [])) := by show _ = _; unfold expc; rw [if_pos hs9]
  have hk9 := sg_lt hs9
  have HS9 : Aside (sg L ((k + 1) + 1) = [46]) := hs9
  clear hs9
  have hc11 := pexpect_yes PP8 he 46 [] HS9.out
  go_wp2_with fail
  refine hc11.mono ?_
  rintro ee11 ww11 ⟨rfl, PP11, gg11⟩
  have kb11_0 := (gg11.block w.heap.size (Array.getElem?_eq_some_iff.1 kb8_0).1 (by simp; omega)).trans kb8_0
  have kb11_1 := (gg11.block ww7.heap.size (Array.getElem?_eq_some_iff.1 kp8).1 (by simp; omega)).trans kp8
  have GG11 := grownBy_trans GG8 gg11
  have hl11 := PP11.lt
  have hw11 : w.heap.size ≤ ww11.heap.size := GG11.size
  clear hc11 gg11
  by_cases hs12 : kd L (((k + 1) + 1) + 1) ≠ 2
  · have hq12 : nam L e (((k + 1) + 1) + 1) = .error (((k + 1) + 1) + 1) := by unfold nam; rw [if_neg hs12]
    have hc13 := pname_no PP11 he hs12
    have HX13 : Aside (imR L e k = .error (((k + 1) + 1) + 1)) := by
      show _ = _
      simp only [imR, wImport, Q2.out, Q5.out, Q9.out, hq12, bnd]
    clear hq12 hs12
    go_wp2_with fail
    refine hc13.mono ?_
    rintro ee13 ww13 ⟨rfl, gg13⟩
    have GG13 := grownBy_trans GG11 gg13
    clear hc13 gg13
    go_wp2_with fail
    exact ⟨rfl, by rw [HX13.out]; exact ⟨rfl, GG13⟩⟩
  replace hs12 := Classical.not_not.1 hs12
  have Q12 : Aside (nam L e (((k + 1) + 1) + 1) = .ok (tok L e (((k + 1) + 1) + 1), (((k + 1) + 1) + 1) + 1, [])) := by show _ = _; unfold nam; rw [if_pos hs12]
  have hk12 := (nam_lt Q12.out).2
  have HS12 : Aside (kd L (((k + 1) + 1) + 1) = 2) := hs12
  clear hs12
  have hc14 := pname_yes PP11 he HS12.out
  go_wp2_with fail
  refine hc14.mono ?_
  rintro ee14 ww14 ⟨rfl, PP14, gg14⟩
  have kb14_0 := (gg14.block w.heap.size (Array.getElem?_eq_some_iff.1 kb11_0).1 (by simp; omega)).trans kb11_0
  have kb14_1 := (gg14.block ww7.heap.size (Array.getElem?_eq_some_iff.1 kb11_1).1 (by simp; omega)).trans kb11_1
  have GG14 := grownBy_trans GG11 gg14
  have hl14 := PP14.lt
  have hw14 : w.heap.size ≤ ww14.heap.size := GG14.size
  clear hc14 gg14
  unfold tagg
  have hBa15 : Below ww14.heap.size ww14 (ww14.alloc (.cells #[.int .i8 (tok L e (((k + 1) + 1) + 1)).kind, .int .i64 (tok L e (((k + 1) + 1) + 1)).n, .string (S (tok L e (((k + 1) + 1) + 1)).s), .int .i64 (tok L e (((k + 1) + 1) + 1)).ln, .int .i64 (tok L e (((k + 1) + 1) + 1)).co] 194)) := (Below.refl _ _).alloc (Nat.le_refl _) _
  have PP15 := PP14.kept hBa15
  have GG15 : w.grownBy (ww14.alloc (.cells #[.int .i8 (tok L e (((k + 1) + 1) + 1)).kind, .int .i64 (tok L e (((k + 1) + 1) + 1)).n, .string (S (tok L e (((k + 1) + 1) + 1)).s), .int .i64 (tok L e (((k + 1) + 1) + 1)).ln, .int .i64 (tok L e (((k + 1) + 1) + 1)).co] 194)) (some pb) := grownBy_below GG14 hBa15
  have kb15_0 := (hBa15.block w.heap.size (Array.getElem?_eq_some_iff.1 kb14_0).1).trans kb14_0
  have kb15_1 := (hBa15.block ww7.heap.size (Array.getElem?_eq_some_iff.1 kb14_1).1).trans kb14_1
  have hlB15 := PP14.lt
  have kp15 : (ww14.alloc (.cells #[.int .i8 (tok L e (((k + 1) + 1) + 1)).kind, .int .i64 (tok L e (((k + 1) + 1) + 1)).n, .string (S (tok L e (((k + 1) + 1) + 1)).s), .int .i64 (tok L e (((k + 1) + 1) + 1)).ln, .int .i64 (tok L e (((k + 1) + 1) + 1)).co] 194)).heap[ww14.heap.size]? = some (.cells #[.int .i8 (tok L e (((k + 1) + 1) + 1)).kind, .int .i64 (tok L e (((k + 1) + 1) + 1)).n, .string (S (tok L e (((k + 1) + 1) + 1)).s), .int .i64 (tok L e (((k + 1) + 1) + 1)).ln, .int .i64 (tok L e (((k + 1) + 1) + 1)).co] 194) := heap_alloc_new _ _
  have hz15 : (ww14.alloc (.cells #[.int .i8 (tok L e (((k + 1) + 1) + 1)).kind, .int .i64 (tok L e (((k + 1) + 1) + 1)).n, .string (S (tok L e (((k + 1) + 1) + 1)).s), .int .i64 (tok L e (((k + 1) + 1) + 1)).ln, .int .i64 (tok L e (((k + 1) + 1) + 1)).co] 194)).heap.size = ww14.heap.size + 1 := by simp
  clear hBa15
  rcases hr16 : ann L ((((k + 1) + 1) + 1) + 1) with jt | ⟨t, jt, lt⟩
  · have hq16 := hr16
    have hc17 := annE lm PP15 he hr16
    have HX17 : Aside (imR L e k = .error jt) := by
      show _ = _
      simp only [imR, wImport, Q2.out, Q5.out, Q9.out, Q12.out, hq16, bnd]
    clear hq16 hr16
    go_wp2_with fail
    refine hc17.mono ?_
    rintro ee17 ww17 ⟨rfl, gg17⟩
    have GG17 := grownBy_trans GG15 gg17
    clear hc17 gg17
    go_wp2_with fail
    exact ⟨rfl, by rw [HX17.out]; exact ⟨rfl, GG17⟩⟩
  have Q16 : Aside (ann L ((((k + 1) + 1) + 1) + 1) = .ok (t, jt, lt)) := hr16
  have hxt := ann_ok (by omega) hr16
  have hc18 := annO lm PP15 he hr16
  go_wp2_with fail
  refine hc18.mono ?_
  rintro ee18 ww18 ⟨rfl, PP18, gg18⟩
  have kb18_0 := (gg18.block w.heap.size (Array.getElem?_eq_some_iff.1 kb15_0).1 (by simp; omega)).trans kb15_0
  have kb18_1 := (gg18.block ww7.heap.size (Array.getElem?_eq_some_iff.1 kb15_1).1 (by simp; omega)).trans kb15_1
  have kb18_2 := (gg18.block ww14.heap.size (Array.getElem?_eq_some_iff.1 kp15).1 (by simp; omega)).trans kp15
  have GG18 := grownBy_trans GG15 gg18
  have hl18 := PP18.lt
  have hw18 : w.heap.size ≤ ww18.heap.size := GG18.size
  clear hc18 gg18
  clear hr16
  by_cases hs19 : sg L jt ≠ [59]
  · have hq19 : expc L e [59] jt = .error jt := by unfold expc; rw [if_neg hs19]
    have hc20 := pexpect_no PP18 he [59] hs19
    have HX20 : Aside (imR L e k = .error jt) := by
      show _ = _
      simp only [imR, wImport, Q2.out, Q5.out, Q9.out, Q12.out, Q16.out, hq19, bnd]
    clear hq19 hs19
    go_wp2_with fail
    refine hc20.mono ?_
    rintro ee20 ww20 ⟨rfl, gg20⟩
    have GG20 := grownBy_trans GG18 gg20
    clear hc20 gg20
    go_wp2_with fail
    exact ⟨rfl, by rw [HX20.out]; exact ⟨rfl, GG20⟩⟩
  replace hs19 := Classical.not_not.1 hs19
  have Q19 : Aside (expc L e [59] jt = .ok (tok L e jt, jt + 1, [])) := by show _ = _; unfold expc; rw [if_pos hs19]
  have hk19 := sg_lt hs19
  have HS19 : Aside (sg L jt = [59]) := hs19
  clear hs19
  have hc21 := pexpect_yes PP18 he 59 [] HS19.out
  go_wp2_with fail
  refine hc21.mono ?_
  rintro ee21 ww21 ⟨rfl, PP21, gg21⟩
  have kb21_0 := (gg21.block w.heap.size (Array.getElem?_eq_some_iff.1 kb18_0).1 (by simp; omega)).trans kb18_0
  have kb21_1 := (gg21.block ww7.heap.size (Array.getElem?_eq_some_iff.1 kb18_1).1 (by simp; omega)).trans kb18_1
  have kb21_2 := (gg21.block ww14.heap.size (Array.getElem?_eq_some_iff.1 kb18_2).1 (by simp; omega)).trans kb18_2
  have GG21 := grownBy_trans GG18 gg21
  have hl21 := PP21.lt
  have hw21 : w.heap.size ≤ ww21.heap.size := GG21.size
  clear hc21 gg21
  have HX : Aside (imR L e k = .ok (⟨(tok L e (k + 1)).s, (tok L e (((k + 1) + 1) + 1)).s, valA t, (tok L e (((k + 1) + 1) + 1)).ln, (tok L e (((k + 1) + 1) + 1)).co⟩, (jt + 1), lt)) := by
    show _ = _
    simp only [imR, wImport, Q2.out, Q5.out, Q9.out, Q12.out, Q16.out, Q19.out, bnd, List.nil_append, List.append_nil]
  clear Q2 Q5 Q9 Q12 Q16 Q19
  have r0 : ww21.cell? ⟨w.heap.size, 0, none⟩ = some (.string ⟨#[]⟩) := (block_cells (w := ww21) kb21_0).1 0
  have r1 : ww21.cell? ⟨w.heap.size, 1, none⟩ = some (.string ⟨#[]⟩) := (block_cells (w := ww21) kb21_0).1 1
  have r2 : ww21.cell? ⟨w.heap.size, 2, none⟩ = some (.string ⟨#[]⟩) := (block_cells (w := ww21) kb21_0).1 2
  have r3 : ww21.cell? ⟨w.heap.size, 3, none⟩ = some (.int .i64 0) := (block_cells (w := ww21) kb21_0).1 3
  have r4 : ww21.cell? ⟨w.heap.size, 4, none⟩ = some (.int .i64 0) := (block_cells (w := ww21) kb21_0).1 4
  have f2 : ww21.cell? ⟨ww7.heap.size, 2, none⟩ = some (.string (S (tok L e (k + 1)).s)) := (block_cells (w := ww21) kb21_1).1 2
  have x2 : ww21.cell? ⟨ww14.heap.size, 2, none⟩ = some (.string (S (tok L e (((k + 1) + 1) + 1)).s)) := (block_cells (w := ww21) kb21_2).1 2
  have x3 : ww21.cell? ⟨ww14.heap.size, 3, none⟩ = some (.int .i64 (tok L e (((k + 1) + 1) + 1)).ln) := (block_cells (w := ww21) kb21_2).1 3
  have x4 : ww21.cell? ⟨ww14.heap.size, 4, none⟩ = some (.int .i64 (tok L e (((k + 1) + 1) + 1)).co) := (block_cells (w := ww21) kb21_2).1 4
  have rf := (block_cells (w := ww21) kb21_0).2
  go_wp2_with fail
  try simp only [Exit.inBlock, Exit.then]
  refine bodyPost_ret (v := .agg #[.string (S (tok L e (k + 1)).s), .string (S (tok L e (((k + 1) + 1) + 1)).s), .string (S (valA t)), .int .i64 (tok L e (((k + 1) + 1) + 1)).ln, .int .i64 (tok L e (((k + 1) + 1) + 1)).co]) (by simp [results, Tryz.results142, go_sem, r0, r1, r2, r3, r4]) rfl ?_
  rw [HX.out]
  exact ⟨rfl, (((((PP21.set (show pb < w.heap.size by omega)).set (show pb < w.heap.size by omega)).set (show pb < w.heap.size by omega)).set (show pb < w.heap.size by omega)).set (show pb < w.heap.size by omega)), grownBy_high GG21 (grownBy_set (grownBy_set (grownBy_set (grownBy_set (grownBy_set (grownBy_refl ww21 (some w.heap.size)) _) _) _) _) _) (fun x e => by cases e; exact Nat.le_refl _)⟩
end Go.Proofs.YtohjfikjbeafiaaGreatDoor
