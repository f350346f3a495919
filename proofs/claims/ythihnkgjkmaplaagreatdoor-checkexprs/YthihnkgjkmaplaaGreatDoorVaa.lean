/- The marks of the document's own packages, and lists of texts: text, num, EqTexts. Lists of texts with marks behind them: WideTexts, SpareTexts. An append of one, and what it leaves: every old cell but those of the row at or past its length. One more list of texts in the bag. An empty list of lists is apart. An empty list of lists is apart. An empty list of lists is apart. The bag: all but the lists of texts are empty. -/
import Derived.Test.YthihnkgjkmaplaaGreatDoorUbd
import Derived.Test.YthihnkgjkmaplaaGreatDoorUab
import Derived.Lib.AppendIntMem
import Derived.Lib.ItoaLen
import Derived.Test.YthihnkgjkmaplaaGreatDoorUbm
import Derived.Deep.DeepAppendRoom
import Derived.ArgAppend
namespace Go.Proofs.YthihnkgjkmaplaaGreatDoor.Tb
open Go.RowKit

/-- The table of powers lies as the program's text lays it. -/
def Tab (w : World) : Prop := Lib.TabIs Tryz.prog w "internal/strconv.uint64pow10" .u64 Lib.pow10Tab
theorem Tab.on {w w' : World} (h : Tab w) (hB : Below w.heap.size w w') : Tab w' := Lib.tabBelow_of_tabIs h w' hB

/-- The mark of a place of a list. -/
def mk (n i : Nat) : ByteArray := S (33 :: Lib.itoa ((1048576 * n + i + 1 : Nat) : Int))

set_option maxRecDepth 100000 in
set_option maxHeartbeats 1000000 in
theorem num_any (n i : Nat) (hn : n ≤ 4294967296) (hi : i ≤ 4294967296) (w : World) :
    Calls Tryz.prog 21 #[.int .i64 n, .int .i64 i] w fun e w' => e = .returned (.int .i64 ((1048576 * n + i + 1 : Nat) : Int)) ∧ w' = w := by
  go_enter Tryz.func21, Tryz.ntmps21
  go_wp2_with fail
  go_ret
  exact ⟨ret_int (by omega), rfl⟩

set_option maxRecDepth 100000 in
set_option maxHeartbeats 1000000 in
theorem text_any (n i : Nat) (hn : n ≤ 4294967296) (hi : i ≤ 4294967296) (w : World) (ht : Tab w) :
    Calls Tryz.prog 22 #[.int .i64 n, .int .i64 i] w fun e w' => e = .returned (.string (mk n i)) ∧ Below w.heap.size w w' := by
  have hI := Tryz.strconv_Itoa ((1048576 * n + i + 1 : Nat) : Int) (by omega) (by omega) w ht
  have hl := Lib.itoa_length_le ((1048576 * n + i + 1 : Nat) : Int) (by omega) (by omega)
  have hcc : (⟨#[33]⟩ : ByteArray) ++ (⟨(Lib.itoa ((1048576 * n + i + 1 : Nat) : Int)).toArray⟩ : ByteArray) = mk n i := by apply ByteArray.ext; simp [mk, S]
  have hsz : (⟨(Lib.itoa ((1048576 * n + i + 1 : Nat) : Int)).toArray⟩ : ByteArray).size ≤ 21 := by simpa [ByteArray.size] using hl
  generalize (⟨(Lib.itoa ((1048576 * n + i + 1 : Nat) : Int)).toArray⟩ : ByteArray) = st at *
  obtain ⟨x, hx⟩ : ∃ x : Int, x = ((1048576 * n + i + 1 : Nat) : Int) := ⟨_, rfl⟩
  have hN := num_any n i hn hi w
  rw [← hx] at hI hN
  clear hx hl ht
  go_enter Tryz.func22, Tryz.ntmps22
  go_wp2_with (first | (go_at_call 21; refine hN.mono ?_; rintro e w' ⟨rfl, hw'⟩; replace hw' := hw'.symm; subst hw') | (go_at_call 47; refine hI.mono ?_; rintro e w1 ⟨rfl, k, os, rfl⟩))
  go_ret
  exact ⟨rfl, Lib.below_grow _ _ (Nat.le_refl _) _ _⟩
theorem cell_of {w : World} {g : Nat} {C : Array Value} {T : TypeId} {k : Nat} {v : Value} (h : w.heap[g]? = some (.cells C T (0, 0))) (hk : C[k]? = some v) : w.cell? ⟨g, k, none⟩ = some v := ((block_cells h).1 k).trans hk
theorem ty40 : Tryz.prog.underlying 38 = some (.slice 23) := by kernel_rfl
theorem info26 : (Tryz.prog.info? 23).map (fun i => (i.zero, i.size, i.bytes)) = some (some (.slice none 0 0), 1, 24) := by kernel_rfl
end Go.Proofs.YthihnkgjkmaplaaGreatDoor.Tb
namespace Go.Proofs.YthihnkgjkmaplaaGreatDoor.Tb
open Go.RowKit
set_option maxRecDepth 100000
set_option linter.unusedSimpArgs false

/-- What stands at a place: the list's own text, or the mark. -/
def wdT (ps : List (List UInt8)) (i : Nat) : ByteArray := match ps[i]? with
  | some p => S p
  | none => mk 9 i
theorem wdT_in {ps : List (List UInt8)} {i : Nat} {p : List UInt8} (h : ps[i]? = some p) : wdT ps i = S p := by unfold wdT; rw [h]
theorem wdT_out {ps : List (List UInt8)} {i : Nat} (h : ps.length ≤ i) : wdT ps i = mk 9 i := by unfold wdT; rw [List.getElem?_eq_none h]
/-- Such a list in its block. -/
def WideT (w : World) (g : Nat) (ps : List (List UInt8)) : Prop :=
  ∃ cur : Array Value, w.heap[g]? = some (.cells cur 9 (0, 0)) ∧ cur.size = ps.length + 64 ∧ ∀ j, j < ps.length + 64 → cur[j]? = some (.string (wdT ps j))
theorem WideT.lt {w : World} {g : Nat} {ps : List (List UInt8)} (h : WideT w g ps) : g < w.heap.size := by
  obtain ⟨cur, h1, _⟩ := h; exact (Array.getElem?_eq_some_iff.1 h1).1
theorem WideT.below {w w' : World} {g : Nat} {ps : List (List UInt8)} (h : WideT w g ps) (hB : Below w.heap.size w w') : WideT w' g ps := by
  have hl := h.lt
  obtain ⟨cur, h1, h2⟩ := h
  exact ⟨cur, (hB.block g hl).trans h1, h2⟩
theorem WideT.cell {w : World} {g : Nat} {ps : List (List UInt8)} (h : WideT w g ps) {j : Nat} (hj : j < ps.length + 64) : w.cell? ⟨g, j, none⟩ = some (.string (wdT ps j)) := by
  obtain ⟨cur, h1, h2, h3⟩ := h
  rw [(block_cells h1).1 j]; exact h3 j hj
theorem WideT.texts {w : World} {g : Nat} {ps : List (List UInt8)} (h : WideT w g ps) : IsTexts w (.slice (some ⟨g, 0, none⟩) ps.length (ps.length + 64)) ps :=
  .inr ⟨g, 0, _, rfl, by omega, h.lt, fun j p hp => by
    rw [Nat.zero_add, h.cell (by have := (List.getElem?_eq_some_iff.1 hp).1; omega), wdT_in hp]⟩
theorem tySt : Tryz.prog.underlying 23 = some (.slice 9) := by kernel_rfl
theorem infSt : (Tryz.prog.info? 9).map (fun i => (i.zero, i.size, i.bytes)) = some (some (.string ⟨#[]⟩), 1, 16) := by kernel_rfl
theorem ne_mark (k : Nat) : ((mk 9 k).toList == (mk 9 k).toList) = true := by simp

set_option maxHeartbeats 4000000 in
theorem wideTexts_any (ps : List (List UInt8)) (hl4 : ps.length ≤ 1000) (v : Value) (w : World) (hl : IsTexts w v ps) (hT : Tab w) :
    Calls Tryz.prog 8 #[v] w fun e w' => e = .returned (.slice (some ⟨w.heap.size, 0, none⟩) ps.length (ps.length + 64)) ∧ WideT w' w.heap.size ps ∧ Below w.heap.size w w' := by
  obtain ⟨i0, hi, hz0, hz1, hz2⟩ := info_parts infSt
  obtain ⟨a, c, rfl⟩ := hl.form
  go_enter Tryz.func8, Tryz.ntmps8
  go_wp2_with (at_make; refine wpList_make_full _ rfl _ _ 23 rfl w.heap.size 9 i0 _ 1 tySt hi hz0 hz1 _ _ _ _ (ps.length + 64) rfl rfl (by go_num) (by go_num) (by rw [hz2]; omega) (by unfold maxLen; omega) (Nat.le_refl _) ?_; intro w1 hown1 hg1)
  obtain ⟨cur0, hc0, hs0⟩ : ∃ cur, w1.heap[w.heap.size]? = some (.cells cur 9 (0, 0)) ∧ cur.size = ps.length + 64 := by
    obtain ⟨_, ⟨h, _⟩ | ⟨g, cap, cur, h, _, hh, _, _, hs, _⟩⟩ := hown1
    · cases h
    · cases h; exact ⟨cur, hh, by omega⟩
  have hB1 : Below w.heap.size w w1 := ⟨hg1.os, hg1.tape, hg1.output, hg1.size, fun k hk => hg1.block k hk (by simp)⟩
  clear hown1 hg1
  go_loopg [4] (ps.length + 64) (fun m cv wr => ∃ (k : Nat) (cur : Array Value), k + m = ps.length + 64 ∧ cv = .int .i64 (k : Int) ∧ wr.heap[w.heap.size]? = some (.cells cur 9 (0, 0)) ∧ cur.size = ps.length + 64 ∧ Aside (∀ j, j < k → cur[j]? = some (.string (wdT ps j))) ∧ Below w.heap.size w wr)
  case atStart => exact ⟨0, cur0, by omega, rfl, hc0, hs0, fun j hj => absurd hj (by omega), hB1⟩
  case round =>
    clear hc0 hs0 hB1
    obtain ⟨k, cur, hkg, rfl, hcur, hcs, HJ, hB⟩ := hrel
    have hgl : w.heap.size < wr.heap.size := (Array.getElem?_eq_some_iff.1 hcur).1
    have hk0 : (0 : Int) ≤ (k : Int) := by omega
    by_cases hk : k < ps.length + 64
    · have hk2 : (k : Int) < (ps.length : Int) + 64 := by omega
      by_cases hkl : k < ps.length
      · have hkl' : (k : Int) < (ps.length : Int) := by omega
        have hfz : wr.frozen? ⟨w.heap.size, k, none⟩ = false := (block_cells hcur).2 k
        obtain ⟨u0, x0⟩ : ∃ u, cur[k]? = some u := ⟨_, Array.getElem?_eq_getElem (by omega)⟩
        have y0 := ((block_cells hcur).1 k).trans x0
        obtain ⟨p, hp⟩ := getT hkl
        obtain ⟨b1, o1, rfl, hlc, hb1, p0⟩ := (show IsTexts wr _ _ from txs_below hl hB).at hp
        obtain ⟨cur', e1, e2, e3, e4⟩ := set_facts hcur (k := k) (by omega) (.string (S p))
        have HS : Aside (∃ cur', (wr.setCell ⟨w.heap.size, k, none⟩ (.string (S p))).heap[w.heap.size]? = some (.cells cur' 9 (0, 0)) ∧ cur'.size = ps.length + 64 ∧ ∀ j, j < k + 1 → cur'[j]? = some (.string (wdT ps j))) := by
          refine ⟨cur', e1, by omega, fun j hj => ?_⟩
          by_cases h : j = k
          · subst h; rw [wdT_in hp]; exact e3
          · rw [e4 _ h]; exact HJ.out j (by omega)
        have HB : Aside (Below w.heap.size w (wr.setCell ⟨w.heap.size, k, none⟩ (.string (S p)))) := hB.setCell (Nat.le_refl _) _
        clear e1 e2 e3 e4 x0 HJ hl hp
        go_wp2_with fail
        go_roundg (gk - 1)
        case measure => omega
        case rel =>
          obtain ⟨c', q1, q2, q3⟩ := HS.out
          exact ⟨k + 1, c', by omega, by go_num, q1, q2, q3, HB.out⟩
      · have hkl' : decide ((k : Int) < (ps.length : Int)) = false := by simp; omega
        have htx : ∀ W, Below w.heap.size w W → _ := fun W h => text_any 9 k (by omega) (by omega) W (hT.on h)
        have HX : Aside (∀ W, Below wr.heap.size wr W → W.frozen? ⟨w.heap.size, k, none⟩ = false ∧ (∃ u, W.cell? ⟨w.heap.size, k, none⟩ = some u) ∧ (∃ cur', (W.setCell ⟨w.heap.size, k, none⟩ (.string (mk 9 k))).heap[w.heap.size]? = some (.cells cur' 9 (0, 0)) ∧ cur'.size = ps.length + 64 ∧ ∀ j, j < k + 1 → cur'[j]? = some (.string (wdT ps j))) ∧ Below w.heap.size w (W.setCell ⟨w.heap.size, k, none⟩ (.string (mk 9 k)))) := fun W hW => by
          have hc2 := (hW.block _ hgl).trans hcur
          obtain ⟨cur', e1, e2, e3, e4⟩ := set_facts hc2 (k := k) (by omega) (.string (mk 9 k))
          refine ⟨(block_cells hc2).2 k, ⟨_, ((block_cells hc2).1 k).trans (Array.getElem?_eq_getElem (by omega))⟩, ⟨cur', e1, by omega, fun j hj => ?_⟩, (bt hB hW).setCell (Nat.le_refl _) _⟩
          by_cases h : j = k
          · subst h; rw [wdT_out (by omega)]; exact e3
          · rw [e4 _ h]; exact HJ.out j (by omega)
        clear HJ hl hcur hcs hT
        go_wp2_with fail
        go_at_call 22
        refine (htx wr hB).mono ?_
        rintro e w2 ⟨rfl, hB2⟩
        obtain ⟨hfz, ⟨u0, y0⟩, hs, hb⟩ := HX.out w2 hB2
        have HS : Aside (∃ cur', (w2.setCell ⟨w.heap.size, k, none⟩ (.string (mk 9 k))).heap[w.heap.size]? = some (.cells cur' 9 (0, 0)) ∧ cur'.size = ps.length + 64 ∧ ∀ j, j < k + 1 → cur'[j]? = some (.string (wdT ps j))) := hs
        have HB : Aside (Below w.heap.size w (w2.setCell ⟨w.heap.size, k, none⟩ (.string (mk 9 k)))) := hb
        clear hs hb HX htx
        go_wp2_with fail
        go_roundg (gk - 1)
        case measure => omega
        case rel =>
          obtain ⟨c', q1, q2, q3⟩ := HS.out
          exact ⟨k + 1, c', by omega, by go_num, q1, q2, q3, HB.out⟩
    · have hk2 : decide ((k : Int) < (ps.length : Int) + 64) = false := by simp; omega
      have hn2 : (ps.length : Int) ≤ (ps.length : Int) + 64 := by omega
      clear hl
      go_wp2_with fail
      go_ret
      exact ⟨rfl, ⟨cur, hcur, hcs, fun j hj => HJ.out j (by omega)⟩, hB⟩

set_option maxHeartbeats 4000000 in
theorem spareTexts_any (ps : List (List UInt8)) (hlen : ps.length ≤ 1000) (g : Nat) (w : World) (hW : WideT w g ps) (hT : Tab w) :
    Calls Tryz.prog 16 #[.slice (some ⟨g, 0, none⟩) ps.length (ps.length + 64)] w fun e w' => e = .returned (.bool true) ∧ Below w.heap.size w w' := by
  have hn64 : (ps.length : Int) + 64 ≤ ((ps.length + 64 : Nat) : Int) := by omega
  have hn0 : (0 : Int) ≤ (ps.length : Int) + 64 := by omega
  have hcast : ((ps.length : Int) + 64).toNat = ps.length + 64 := by omega
  go_enter Tryz.func16, Tryz.ntmps16
  go_wp2_with fail
  go_loopg [4] 64 (fun gg t wr => ∃ k : Nat, k + gg = ps.length + 64 ∧ ps.length ≤ k ∧ t = .int .i64 (k : Int) ∧ Below w.heap.size w wr)
  case atStart => exact ⟨ps.length, by omega, by omega, rfl, Below.refl _ _⟩
  case round =>
    obtain ⟨k, hkg, hlk, rfl, hB⟩ := hrel
    by_cases hk : k < ps.length + 64
    · have hk' : (k : Int) < ((ps.length : Int) + 64) := by omega
      have hk0 : (0 : Int) ≤ (k : Int) := by omega
      have p0 := (hW.below hB).cell hk
      rw [wdT_out hlk] at p0
      have htx := text_any 9 k (by omega) (by omega) wr (hT.on hB)
      have hmk := ne_mark k
      have hws := hB.size
      clear hW hT
      generalize mk 9 k = s at *
      go_wp2_with fail
      go_at_call 22
      refine htx.mono ?_
      rintro e w2 ⟨rfl, hB2⟩
      go_wp2_with fail
      go_roundg (ps.length + 64 - (k + 1))
      case measure => omega
      case rel => exact ⟨k + 1, by omega, by omega, by go_num, bt hB hB2⟩
    · have hk' : ¬ (k : Int) < ((ps.length : Int) + 64) := by omega
      go_wp2_with fail
      go_ret
      exact ⟨rfl, hB⟩
end Go.Proofs.YthihnkgjkmaplaaGreatDoor.Tb
namespace Go.Proofs.YthihnkgjkmaplaaGreatDoor.Tb
open Go.RowKit

/-- Every old cell stands, but those of one block from a place on. -/
structure Stays (w w' : World) (row : Option Nat) (n : Nat) : Prop where
  os : w'.os = w.os
  tape : w'.tape = w.tape
  output : w'.output = w.output
  size : w.heap.size ≤ w'.heap.size
  block : ∀ k, k < w.heap.size → some k ≠ row → w'.heap[k]? = w.heap[k]?
  cell : ∀ k j, some k = row → j < n → w'.cell? ⟨k, j, none⟩ = w.cell? ⟨k, j, none⟩

theorem own_pre {w : World} {base e n : Nat} {v : Value} {xs : List Value} (h : w.ownsRow base e 1 v n xs) {g : Nat} (hg : v.ownBlock = some g) {j : Nat} (hj : j < n) : w.cell? ⟨g, j, none⟩ = xs[j]? := by
  obtain ⟨g', cap, rfl, _, _, hc⟩ := own_cells h (by omega)
  simp [Value.ownBlock] at hg
  subst hg
  exact hc j (by omega)

theorem wpList_append_stays {P : Program} (w : World) {ops : Array Oper} {rest : List Oper} {o : Oper} {a : Act} {Q : Exit → Act → World → Prop} (hgd : o.guard = none) (s x : Operand) (t : TypeId)
    (ho : o.op = .call { callee := .builtin .append, args := #[s, x], argTypes := #[t, t] })
    (base : Nat) (e : TypeId) (i : TypeInfo) (z : Value) (bytes : Nat) (ht : P.underlying t = some (.slice e)) (hi : P.info? e = some i) (hz : i.zero = some z)
    (hsize : i.size = 1) (hby : i.bytes = bytes) (hzs : z.cells.size = 1)
    (v : Value) (n : Nat) (xs : List Value) (hs : a.eval s = v) (hown : w.ownsRow base e 1 v n xs)
    (ad : Addr) (c : Nat) (new : Value) (hx : a.eval x = .slice (some ad) 1 c) (hnews : ∀ j u, [new][j]? = some u → w.cell? (ad.add j) = some u) (h1 : new.oneCell' = true)
    (h63 : n + 1 ≤ maxLen) (hbytes : (n + 1) * bytes ≤ 140737488355328) (hbase : base ≤ w.heap.size)
    (h : ∀ g cap w', w'.ownsRow base e 1 (.slice (some ⟨g, 0, none⟩) (n + 1) cap) (n + 1) (xs ++ [new]) → Stays w w' v.ownBlock n → (v.ownBlock = some g ∨ (w.heap.size ≤ g ∧ g < w'.heap.size)) → wpList P ops Q rest (a.put o.dst (.slice (some ⟨g, 0, none⟩) (n + 1) cap)) w') : wpList P ops Q (o :: rest) a w := by
  have h1' : ∀ u ∈ [new], u.oneCell' = true := fun u hu => by simp at hu; subst hu; exact h1
  have full : ∀ (ao : Option Addr) (cap : Nat), v = .slice ao n cap → (ao = none → n = 0 ∧ cap = 0) → (∀ b, ao = some b → ∀ j u, xs[j]? = some u → w.cell? (b.add j) = some u) → cap < n + 1 → wpList P ops Q (o :: rest) a w := by
    intro ao cap hv hnone holds hfull
    refine wpList_append_grows w hgd s x t ho e i z 1 bytes ht hi hz hsize hby hzs (by decide) ao n cap xs (hs.trans hv) hnone (by rw [hown.1]) holds ad 1 c [new] hx rfl hnews h1' hfull h63 hbytes ?_
    intro v' w' ho' hg'
    obtain ⟨hl, ⟨_, h0⟩ | ⟨g, cap', cur, rfl, hg1, hg2, hg3⟩⟩ := ho'
    · omega
    · refine h g cap' w' ⟨hl, .inr ⟨g, cap', cur, rfl, Nat.le_trans hbase hg1, hg2, hg3⟩⟩ ⟨hg'.os, hg'.tape, hg'.output, hg'.size, fun k hk _ => hg'.block k hk (by simp), ?_⟩ (.inr ⟨hg1, ?_⟩)
      · intro k j hk hj
        have hkl : k < w.heap.size := by
          have := own_pre hown hk.symm hj
          have hxs : j < xs.length := by rw [hown.1]; omega
          rw [List.getElem?_eq_getElem hxs] at this
          exact World.block_lt_of_cell? w _ this
        exact World.cell?_of_block (hg'.block k hkl (by simp))
      · exact (Array.getElem?_eq_some_iff.1 hg2).1
  rcases hown.2 with ⟨hv, hn⟩ | ⟨g, cap, cur, hv, hbg, hg, hnc, hcm, hcs, htake⟩
  · exact full none 0 (by rw [hv, hn]) (fun _ => ⟨hn, rfl⟩) (fun b hb => by cases hb) (by omega)
  · by_cases hr : n + 1 ≤ cap
    · subst hv
      refine wpList_append_own_spare w hgd s x t ho base e i 1 ht hi hsize g n cap xs hs hown ad 1 c [new] hx rfl hnews h1' hr ?_
      intro w' ho' hg'
      refine h g cap w' ho' ⟨hg'.os, hg'.tape, hg'.output, hg'.size, fun k hk hne => hg'.block k hk hne, ?_⟩ (.inl rfl)
      intro k j hk hj
      simp [Value.ownBlock] at hk
      subst hk
      rw [own_pre ho' rfl (by omega), own_pre hown rfl hj, List.getElem?_append_left (by rw [hown.1]; omega)]
    · refine full _ cap hv (fun hb => by cases hb) ?_ (by omega)
      intro b hb j u hj
      cases hb
      exact hown.cells (g := g) (by rw [hv]; rfl) j u hj

end Go.Proofs.YthihnkgjkmaplaaGreatDoor.Tb
namespace Go.Proofs.YthihnkgjkmaplaaGreatDoor.Tb
open Go.RowKit


/-- What a step leaves: all old blocks but two. -/
structure Two (w w' : World) (B : Nat) (row : Option Nat) : Prop where
  os : w'.os = w.os
  tape : w'.tape = w.tape
  output : w'.output = w.output
  size : w.heap.size ≤ w'.heap.size
  block : ∀ k, k < w.heap.size → k ≠ B → some k ≠ row → w'.heap[k]? = w.heap[k]?

theorem set_at {w : World} {g : Nat} {cur : Array Value} {T : TypeId} (h : w.heap[g]? = some (.cells cur T (0, 0))) (k : Nat) (x : Value) : (w.setCell ⟨g, k, none⟩ x).heap[g]? = some (.cells (cur.setIfInBounds k x) T (0, 0)) := by
  simp [World.setCell, Array.getElem?_modify, h]
theorem own_set {w : World} {base e n B k : Nat} {v : Value} {xs : List Value} (h : w.ownsRow base e 1 v n xs) (hb : v.ownBlock ≠ some B) (x : Value) : (w.setCell ⟨B, k, none⟩ x).ownsRow base e 1 v n xs := by
  obtain ⟨h1, h2 | ⟨g, cap, cur, rfl, hg, hh, hr⟩⟩ := h
  · exact ⟨h1, .inl h2⟩
  · refine ⟨h1, .inr ⟨g, cap, cur, rfl, hg, ?_, hr⟩⟩
    rw [Below.heap_setCell _ _ _ _ (by intro e; exact hb (by simp [Value.ownBlock, e]))]
    exact hh

set_option maxRecDepth 100000 in
set_option maxHeartbeats 2000000 in
theorem addTexts_any (B base n : Nat) (w : World) (v : Value) (la : Option Addr) (ln lc : Nat) (xs : List Value) (C : Array Value) (hB : w.heap[B]? = some (.cells C 53 (0, 0))) (h4 : C[4]? = some v)
    (hown : w.ownsRow base 23 1 v n xs) (hn : n < 300) (hbase : base ≤ w.heap.size) (hne : v.ownBlock ≠ some B) (hbB : B < base) :
    Calls Tryz.prog 11 #[.pointer (some ⟨B, 0, none⟩), .slice la ln lc] w fun e w' => e = .returned (.tuple #[]) ∧ ∃ g cap, w'.heap[B]? = some (.cells (C.setIfInBounds 4 (.slice (some ⟨g, 0, none⟩) (n + 1) cap)) 53 (0, 0)) ∧ w'.ownsRow base 23 1 (.slice (some ⟨g, 0, none⟩) (n + 1) cap) (n + 1) (xs ++ [.slice la ln lc]) ∧ (v.ownBlock = some g ∨ w.heap.size ≤ g) ∧ Two w w' B v.ownBlock := by
  obtain ⟨va, vc, rfl⟩ := own_len hown
  have hBl : B < w.heap.size := (Array.getElem?_eq_some_iff.1 hB).1
  have hc4 := cell_of hB h4
  obtain ⟨i0, hi, hz0, hz1, hz2⟩ := info_parts info26
  have hn' : (n : Int) < 300 := by omega
  go_enter Tryz.func11, Tryz.ntmps11
  go_wp2_with (at_builtin; go_must (refine wpList_append_stays _ rfl _ _ 38 rfl base 23 i0 (.slice none 0 0) 24 ty40 hi hz0 hz1 hz2 rfl (.slice va n vc) _ _ rfl (hown.alloc _) ⟨w.heap.size, 0, none⟩ 1 (.slice la ln lc) rfl (cells_list_new _ [.slice la ln lc] 23) rfl (by unfold maxLen; omega) (by omega) (by simp; omega) ?_); intro g cap w2 hown2 hst hloc; have hB2 := (hst.block B (by simp; omega) (fun e => hne e.symm)).trans ((Below.heap_alloc _ _ _ hBl).trans hB); have hc42 := cell_of hB2 h4; have hf2 := (block_cells hB2).2 4)
  go_end0
  refine ⟨rfl, g, cap, set_at hB2 4 _, ?_, ?_, ?_⟩
  · refine own_set hown2 ?_ _
    intro e
    have : g = B := by simpa [Value.ownBlock] using e
    obtain ⟨_, ⟨h0, _⟩ | ⟨g', _, _, h0, hg', _⟩⟩ := hown2
    · cases h0
    · have : g = g' := by simpa [Value.ownBlock] using congrArg Value.ownBlock h0
      omega
  · rcases hloc with h | ⟨h, _⟩
    · exact .inl h
    · simp at h
      exact .inr (by omega)
  · have hs := hst.size
    simp at hs
    refine ⟨hst.os, hst.tape, hst.output, by simp [World.setCell]; omega, fun k hk h1 h2 => ?_⟩
    rw [Below.heap_setCell _ _ _ _ (by intro e; exact h1 e), hst.block k (by simp; omega) h2]
    exact Below.heap_alloc _ _ _ hk
end Go.Proofs.YthihnkgjkmaplaaGreatDoor.Tb
namespace Go.Proofs.YthihnkgjkmaplaaGreatDoor.Tb
open Go.RowKit

set_option maxRecDepth 100000 in
set_option maxHeartbeats 2000000 in
theorem apartBytes_none (B : Nat) (w : World) (h : w.cell? ⟨B, 0, none⟩ = some (.slice none 0 0)) :
    Calls Tryz.prog 27 #[.pointer (some ⟨B, 0, none⟩)] w fun e w' => e = .returned (.bool true) ∧ w' = w := by
  go_enter Tryz.func27, Tryz.ntmps27
  go_wp2_with fail
  go_loopg [3] 0 (fun g nv x => x = w ∧ nv = .int .i64 0)
  case atStart => exact ⟨rfl, rfl⟩
  case round =>
    obtain ⟨rfl, rfl⟩ := hrel
    go_wp2_with fail
    go_loopg [6, 7] 0 (fun g mv nv x => x = wr ∧ mv = .slice none 0 0 ∧ nv = .int .i64 0)
    case atStart => exact ⟨rfl, rfl, rfl⟩
    case round =>
      obtain ⟨rfl, rfl, rfl⟩ := hrel
      go_wp2_with fail
      go_loopg [10] 0 (fun g nv x => x = wr ∧ nv = .int .i64 0)
      case atStart => exact ⟨rfl, rfl⟩
      case round =>
        obtain ⟨rfl, rfl⟩ := hrel
        go_wp2_with fail
        go_ret
        exact ⟨rfl, rfl⟩

set_option maxRecDepth 100000 in
set_option maxHeartbeats 2000000 in
theorem apartInts_none (B : Nat) (w : World) (h : w.cell? ⟨B, 1, none⟩ = some (.slice none 0 0)) :
    Calls Tryz.prog 28 #[.pointer (some ⟨B, 0, none⟩)] w fun e w' => e = .returned (.bool true) ∧ w' = w := by
  go_enter Tryz.func28, Tryz.ntmps28
  go_wp2_with fail
  go_loopg [3] 0 (fun g nv x => x = w ∧ nv = .int .i64 0)
  case atStart => exact ⟨rfl, rfl⟩
  case round =>
    obtain ⟨rfl, rfl⟩ := hrel
    go_wp2_with fail
    go_loopg [6, 7] 0 (fun g mv nv x => x = wr ∧ mv = .slice none 0 0 ∧ nv = .int .i64 0)
    case atStart => exact ⟨rfl, rfl, rfl⟩
    case round =>
      obtain ⟨rfl, rfl, rfl⟩ := hrel
      go_wp2_with fail
      go_loopg [10] 0 (fun g nv x => x = wr ∧ nv = .int .i64 0)
      case atStart => exact ⟨rfl, rfl⟩
      case round =>
        obtain ⟨rfl, rfl⟩ := hrel
        go_wp2_with fail
        go_ret
        exact ⟨rfl, rfl⟩

set_option maxRecDepth 100000 in
set_option maxHeartbeats 2000000 in
theorem apartLongs_none (B : Nat) (w : World) (h : w.cell? ⟨B, 2, none⟩ = some (.slice none 0 0)) :
    Calls Tryz.prog 29 #[.pointer (some ⟨B, 0, none⟩)] w fun e w' => e = .returned (.bool true) ∧ w' = w := by
  go_enter Tryz.func29, Tryz.ntmps29
  go_wp2_with fail
  go_loopg [3] 0 (fun g nv x => x = w ∧ nv = .int .i64 0)
  case atStart => exact ⟨rfl, rfl⟩
  case round =>
    obtain ⟨rfl, rfl⟩ := hrel
    go_wp2_with fail
    go_loopg [6, 7] 0 (fun g mv nv x => x = wr ∧ mv = .slice none 0 0 ∧ nv = .int .i64 0)
    case atStart => exact ⟨rfl, rfl, rfl⟩
    case round =>
      obtain ⟨rfl, rfl, rfl⟩ := hrel
      go_wp2_with fail
      go_loopg [10] 0 (fun g nv x => x = wr ∧ nv = .int .i64 0)
      case atStart => exact ⟨rfl, rfl⟩
      case round =>
        obtain ⟨rfl, rfl⟩ := hrel
        go_wp2_with fail
        go_ret
        exact ⟨rfl, rfl⟩

set_option maxRecDepth 100000 in
set_option maxHeartbeats 2000000 in
theorem apartBools_none (B : Nat) (w : World) (h : w.cell? ⟨B, 3, none⟩ = some (.slice none 0 0)) :
    Calls Tryz.prog 30 #[.pointer (some ⟨B, 0, none⟩)] w fun e w' => e = .returned (.bool true) ∧ w' = w := by
  go_enter Tryz.func30, Tryz.ntmps30
  go_wp2_with fail
  go_loopg [3] 0 (fun g nv x => x = w ∧ nv = .int .i64 0)
  case atStart => exact ⟨rfl, rfl⟩
  case round =>
    obtain ⟨rfl, rfl⟩ := hrel
    go_wp2_with fail
    go_loopg [6, 7] 0 (fun g mv nv x => x = wr ∧ mv = .slice none 0 0 ∧ nv = .int .i64 0)
    case atStart => exact ⟨rfl, rfl, rfl⟩
    case round =>
      obtain ⟨rfl, rfl, rfl⟩ := hrel
      go_wp2_with fail
      go_loopg [10] 0 (fun g nv x => x = wr ∧ nv = .int .i64 0)
      case atStart => exact ⟨rfl, rfl⟩
      case round =>
        obtain ⟨rfl, rfl⟩ := hrel
        go_wp2_with fail
        go_ret
        exact ⟨rfl, rfl⟩

set_option maxRecDepth 100000 in
set_option maxHeartbeats 2000000 in
theorem apartTexts_none (B : Nat) (w : World) (h : w.cell? ⟨B, 4, none⟩ = some (.slice none 0 0)) :
    Calls Tryz.prog 31 #[.pointer (some ⟨B, 0, none⟩)] w fun e w' => e = .returned (.bool true) ∧ w' = w := by
  go_enter Tryz.func31, Tryz.ntmps31
  go_wp2_with fail
  go_loopg [3] 0 (fun g nv x => x = w ∧ nv = .int .i64 0)
  case atStart => exact ⟨rfl, rfl⟩
  case round =>
    obtain ⟨rfl, rfl⟩ := hrel
    go_wp2_with fail
    go_loopg [6, 7] 0 (fun g mv nv x => x = wr ∧ mv = .slice none 0 0 ∧ nv = .int .i64 0)
    case atStart => exact ⟨rfl, rfl, rfl⟩
    case round =>
      obtain ⟨rfl, rfl, rfl⟩ := hrel
      go_wp2_with fail
      go_loopg [10] 0 (fun g nv x => x = wr ∧ nv = .int .i64 0)
      case atStart => exact ⟨rfl, rfl⟩
      case round =>
        obtain ⟨rfl, rfl⟩ := hrel
        go_wp2_with fail
        go_ret
        exact ⟨rfl, rfl⟩

set_option maxRecDepth 100000 in
set_option maxHeartbeats 2000000 in
theorem apartNodes_none (B : Nat) (w : World) (h : w.cell? ⟨B, 5, none⟩ = some (.slice none 0 0)) :
    Calls Tryz.prog 32 #[.pointer (some ⟨B, 0, none⟩)] w fun e w' => e = .returned (.bool true) ∧ w' = w := by
  go_enter Tryz.func32, Tryz.ntmps32
  go_wp2_with fail
  go_loopg [3] 0 (fun g nv x => x = w ∧ nv = .int .i64 0)
  case atStart => exact ⟨rfl, rfl⟩
  case round =>
    obtain ⟨rfl, rfl⟩ := hrel
    go_wp2_with fail
    go_loopg [6, 7] 0 (fun g mv nv x => x = wr ∧ mv = .slice none 0 0 ∧ nv = .int .i64 0)
    case atStart => exact ⟨rfl, rfl, rfl⟩
    case round =>
      obtain ⟨rfl, rfl, rfl⟩ := hrel
      go_wp2_with fail
      go_loopg [10] 0 (fun g nv x => x = wr ∧ nv = .int .i64 0)
      case atStart => exact ⟨rfl, rfl⟩
      case round =>
        obtain ⟨rfl, rfl⟩ := hrel
        go_wp2_with fail
        go_ret
        exact ⟨rfl, rfl⟩

end Go.Proofs.YthihnkgjkmaplaaGreatDoor.Tb
namespace Go.Proofs.YthihnkgjkmaplaaGreatDoor.Tb
open Go.RowKit

set_option maxRecDepth 100000 in
set_option maxHeartbeats 2000000 in
theorem apartCos_none (B : Nat) (w : World) (h : w.cell? ⟨B, 6, none⟩ = some (.slice none 0 0)) :
    Calls Tryz.prog 33 #[.pointer (some ⟨B, 0, none⟩)] w fun e w' => e = .returned (.bool true) ∧ w' = w := by
  go_enter Tryz.func33, Tryz.ntmps33
  go_wp2_with fail
  go_loopg [3] 0 (fun g nv x => x = w ∧ nv = .int .i64 0)
  case atStart => exact ⟨rfl, rfl⟩
  case round =>
    obtain ⟨rfl, rfl⟩ := hrel
    go_wp2_with fail
    go_loopg [6, 7] 0 (fun g mv nv x => x = wr ∧ mv = .slice none 0 0 ∧ nv = .int .i64 0)
    case atStart => exact ⟨rfl, rfl, rfl⟩
    case round =>
      obtain ⟨rfl, rfl, rfl⟩ := hrel
      go_wp2_with fail
      go_loopg [10] 0 (fun g nv x => x = wr ∧ nv = .int .i64 0)
      case atStart => exact ⟨rfl, rfl⟩
      case round =>
        obtain ⟨rfl, rfl⟩ := hrel
        go_wp2_with fail
        go_ret
        exact ⟨rfl, rfl⟩

set_option maxRecDepth 100000 in
set_option maxHeartbeats 2000000 in
theorem apartSeen_none (B : Nat) (w : World) (h : w.cell? ⟨B, 7, none⟩ = some (.slice none 0 0)) :
    Calls Tryz.prog 34 #[.pointer (some ⟨B, 0, none⟩)] w fun e w' => e = .returned (.bool true) ∧ w' = w := by
  go_enter Tryz.func34, Tryz.ntmps34
  go_wp2_with fail
  go_loopg [3] 0 (fun g nv x => x = w ∧ nv = .int .i64 0)
  case atStart => exact ⟨rfl, rfl⟩
  case round =>
    obtain ⟨rfl, rfl⟩ := hrel
    go_wp2_with fail
    go_loopg [6, 7] 0 (fun g mv nv x => x = wr ∧ mv = .slice none 0 0 ∧ nv = .int .i64 0)
    case atStart => exact ⟨rfl, rfl, rfl⟩
    case round =>
      obtain ⟨rfl, rfl, rfl⟩ := hrel
      go_wp2_with fail
      go_loopg [10] 0 (fun g nv x => x = wr ∧ nv = .int .i64 0)
      case atStart => exact ⟨rfl, rfl⟩
      case round =>
        obtain ⟨rfl, rfl⟩ := hrel
        go_wp2_with fail
        go_ret
        exact ⟨rfl, rfl⟩

set_option maxRecDepth 100000 in
set_option maxHeartbeats 2000000 in
theorem apartSites_none (B : Nat) (w : World) (h : w.cell? ⟨B, 8, none⟩ = some (.slice none 0 0)) :
    Calls Tryz.prog 35 #[.pointer (some ⟨B, 0, none⟩)] w fun e w' => e = .returned (.bool true) ∧ w' = w := by
  go_enter Tryz.func35, Tryz.ntmps35
  go_wp2_with fail
  go_loopg [3] 0 (fun g nv x => x = w ∧ nv = .int .i64 0)
  case atStart => exact ⟨rfl, rfl⟩
  case round =>
    obtain ⟨rfl, rfl⟩ := hrel
    go_wp2_with fail
    go_loopg [6, 7] 0 (fun g mv nv x => x = wr ∧ mv = .slice none 0 0 ∧ nv = .int .i64 0)
    case atStart => exact ⟨rfl, rfl, rfl⟩
    case round =>
      obtain ⟨rfl, rfl, rfl⟩ := hrel
      go_wp2_with fail
      go_loopg [10] 0 (fun g nv x => x = wr ∧ nv = .int .i64 0)
      case atStart => exact ⟨rfl, rfl⟩
      case round =>
        obtain ⟨rfl, rfl⟩ := hrel
        go_wp2_with fail
        go_ret
        exact ⟨rfl, rfl⟩

set_option maxRecDepth 100000 in
set_option maxHeartbeats 2000000 in
theorem apartIns_none (B : Nat) (w : World) (h : w.cell? ⟨B, 9, none⟩ = some (.slice none 0 0)) :
    Calls Tryz.prog 36 #[.pointer (some ⟨B, 0, none⟩)] w fun e w' => e = .returned (.bool true) ∧ w' = w := by
  go_enter Tryz.func36, Tryz.ntmps36
  go_wp2_with fail
  go_loopg [3] 0 (fun g nv x => x = w ∧ nv = .int .i64 0)
  case atStart => exact ⟨rfl, rfl⟩
  case round =>
    obtain ⟨rfl, rfl⟩ := hrel
    go_wp2_with fail
    go_loopg [6, 7] 0 (fun g mv nv x => x = wr ∧ mv = .slice none 0 0 ∧ nv = .int .i64 0)
    case atStart => exact ⟨rfl, rfl, rfl⟩
    case round =>
      obtain ⟨rfl, rfl, rfl⟩ := hrel
      go_wp2_with fail
      go_loopg [10] 0 (fun g nv x => x = wr ∧ nv = .int .i64 0)
      case atStart => exact ⟨rfl, rfl⟩
      case round =>
        obtain ⟨rfl, rfl⟩ := hrel
        go_wp2_with fail
        go_ret
        exact ⟨rfl, rfl⟩

set_option maxRecDepth 100000 in
set_option maxHeartbeats 2000000 in
theorem apartImports_none (B : Nat) (w : World) (h : w.cell? ⟨B, 10, none⟩ = some (.slice none 0 0)) :
    Calls Tryz.prog 37 #[.pointer (some ⟨B, 0, none⟩)] w fun e w' => e = .returned (.bool true) ∧ w' = w := by
  go_enter Tryz.func37, Tryz.ntmps37
  go_wp2_with fail
  go_loopg [3] 0 (fun g nv x => x = w ∧ nv = .int .i64 0)
  case atStart => exact ⟨rfl, rfl⟩
  case round =>
    obtain ⟨rfl, rfl⟩ := hrel
    go_wp2_with fail
    go_loopg [6, 7] 0 (fun g mv nv x => x = wr ∧ mv = .slice none 0 0 ∧ nv = .int .i64 0)
    case atStart => exact ⟨rfl, rfl, rfl⟩
    case round =>
      obtain ⟨rfl, rfl, rfl⟩ := hrel
      go_wp2_with fail
      go_loopg [10] 0 (fun g nv x => x = wr ∧ nv = .int .i64 0)
      case atStart => exact ⟨rfl, rfl⟩
      case round =>
        obtain ⟨rfl, rfl⟩ := hrel
        go_wp2_with fail
        go_ret
        exact ⟨rfl, rfl⟩

set_option maxRecDepth 100000 in
set_option maxHeartbeats 2000000 in
theorem apartTraps_none (B : Nat) (w : World) (h : w.cell? ⟨B, 11, none⟩ = some (.slice none 0 0)) :
    Calls Tryz.prog 38 #[.pointer (some ⟨B, 0, none⟩)] w fun e w' => e = .returned (.bool true) ∧ w' = w := by
  go_enter Tryz.func38, Tryz.ntmps38
  go_wp2_with fail
  go_loopg [3] 0 (fun g nv x => x = w ∧ nv = .int .i64 0)
  case atStart => exact ⟨rfl, rfl⟩
  case round =>
    obtain ⟨rfl, rfl⟩ := hrel
    go_wp2_with fail
    go_loopg [6, 7] 0 (fun g mv nv x => x = wr ∧ mv = .slice none 0 0 ∧ nv = .int .i64 0)
    case atStart => exact ⟨rfl, rfl, rfl⟩
    case round =>
      obtain ⟨rfl, rfl, rfl⟩ := hrel
      go_wp2_with fail
      go_loopg [10] 0 (fun g nv x => x = wr ∧ nv = .int .i64 0)
      case atStart => exact ⟨rfl, rfl⟩
      case round =>
        obtain ⟨rfl, rfl⟩ := hrel
        go_wp2_with fail
        go_ret
        exact ⟨rfl, rfl⟩

end Go.Proofs.YthihnkgjkmaplaaGreatDoor.Tb
namespace Go.Proofs.YthihnkgjkmaplaaGreatDoor.Tb
open Go.RowKit

set_option maxRecDepth 100000 in
set_option maxHeartbeats 2000000 in
theorem apartRows_none (B : Nat) (w : World) (h : w.cell? ⟨B, 12, none⟩ = some (.slice none 0 0)) :
    Calls Tryz.prog 39 #[.pointer (some ⟨B, 0, none⟩)] w fun e w' => e = .returned (.bool true) ∧ w' = w := by
  go_enter Tryz.func39, Tryz.ntmps39
  go_wp2_with fail
  go_loopg [3] 0 (fun g nv x => x = w ∧ nv = .int .i64 0)
  case atStart => exact ⟨rfl, rfl⟩
  case round =>
    obtain ⟨rfl, rfl⟩ := hrel
    go_wp2_with fail
    go_loopg [6, 7] 0 (fun g mv nv x => x = wr ∧ mv = .slice none 0 0 ∧ nv = .int .i64 0)
    case atStart => exact ⟨rfl, rfl, rfl⟩
    case round =>
      obtain ⟨rfl, rfl, rfl⟩ := hrel
      go_wp2_with fail
      go_loopg [10] 0 (fun g nv x => x = wr ∧ nv = .int .i64 0)
      case atStart => exact ⟨rfl, rfl⟩
      case round =>
        obtain ⟨rfl, rfl⟩ := hrel
        go_wp2_with fail
        go_ret
        exact ⟨rfl, rfl⟩

set_option maxRecDepth 100000 in
set_option maxHeartbeats 2000000 in
theorem apartDefs_none (B : Nat) (w : World) (h : w.cell? ⟨B, 13, none⟩ = some (.slice none 0 0)) :
    Calls Tryz.prog 40 #[.pointer (some ⟨B, 0, none⟩)] w fun e w' => e = .returned (.bool true) ∧ w' = w := by
  go_enter Tryz.func40, Tryz.ntmps40
  go_wp2_with fail
  go_loopg [3] 0 (fun g nv x => x = w ∧ nv = .int .i64 0)
  case atStart => exact ⟨rfl, rfl⟩
  case round =>
    obtain ⟨rfl, rfl⟩ := hrel
    go_wp2_with fail
    go_loopg [6, 7] 0 (fun g mv nv x => x = wr ∧ mv = .slice none 0 0 ∧ nv = .int .i64 0)
    case atStart => exact ⟨rfl, rfl, rfl⟩
    case round =>
      obtain ⟨rfl, rfl, rfl⟩ := hrel
      go_wp2_with fail
      go_loopg [10] 0 (fun g nv x => x = wr ∧ nv = .int .i64 0)
      case atStart => exact ⟨rfl, rfl⟩
      case round =>
        obtain ⟨rfl, rfl⟩ := hrel
        go_wp2_with fail
        go_ret
        exact ⟨rfl, rfl⟩

set_option maxRecDepth 100000 in
set_option maxHeartbeats 2000000 in
theorem apartModules_none (B : Nat) (w : World) (h : w.cell? ⟨B, 14, none⟩ = some (.slice none 0 0)) :
    Calls Tryz.prog 41 #[.pointer (some ⟨B, 0, none⟩)] w fun e w' => e = .returned (.bool true) ∧ w' = w := by
  go_enter Tryz.func41, Tryz.ntmps41
  go_wp2_with fail
  go_loopg [3] 0 (fun g nv x => x = w ∧ nv = .int .i64 0)
  case atStart => exact ⟨rfl, rfl⟩
  case round =>
    obtain ⟨rfl, rfl⟩ := hrel
    go_wp2_with fail
    go_loopg [6, 7] 0 (fun g mv nv x => x = wr ∧ mv = .slice none 0 0 ∧ nv = .int .i64 0)
    case atStart => exact ⟨rfl, rfl, rfl⟩
    case round =>
      obtain ⟨rfl, rfl, rfl⟩ := hrel
      go_wp2_with fail
      go_loopg [10] 0 (fun g nv x => x = wr ∧ nv = .int .i64 0)
      case atStart => exact ⟨rfl, rfl⟩
      case round =>
        obtain ⟨rfl, rfl⟩ := hrel
        go_wp2_with fail
        go_ret
        exact ⟨rfl, rfl⟩

set_option maxRecDepth 100000 in
set_option maxHeartbeats 2000000 in
theorem apartFunctions_none (B : Nat) (w : World) (h : w.cell? ⟨B, 15, none⟩ = some (.slice none 0 0)) :
    Calls Tryz.prog 42 #[.pointer (some ⟨B, 0, none⟩)] w fun e w' => e = .returned (.bool true) ∧ w' = w := by
  go_enter Tryz.func42, Tryz.ntmps42
  go_wp2_with fail
  go_loopg [3] 0 (fun g nv x => x = w ∧ nv = .int .i64 0)
  case atStart => exact ⟨rfl, rfl⟩
  case round =>
    obtain ⟨rfl, rfl⟩ := hrel
    go_wp2_with fail
    go_loopg [6, 7] 0 (fun g mv nv x => x = wr ∧ mv = .slice none 0 0 ∧ nv = .int .i64 0)
    case atStart => exact ⟨rfl, rfl, rfl⟩
    case round =>
      obtain ⟨rfl, rfl, rfl⟩ := hrel
      go_wp2_with fail
      go_loopg [10] 0 (fun g nv x => x = wr ∧ nv = .int .i64 0)
      case atStart => exact ⟨rfl, rfl⟩
      case round =>
        obtain ⟨rfl, rfl⟩ := hrel
        go_wp2_with fail
        go_ret
        exact ⟨rfl, rfl⟩

set_option maxRecDepth 100000 in
set_option maxHeartbeats 2000000 in
theorem apartWaits_none (B : Nat) (w : World) (h : w.cell? ⟨B, 16, none⟩ = some (.slice none 0 0)) :
    Calls Tryz.prog 43 #[.pointer (some ⟨B, 0, none⟩)] w fun e w' => e = .returned (.bool true) ∧ w' = w := by
  go_enter Tryz.func43, Tryz.ntmps43
  go_wp2_with fail
  go_loopg [3] 0 (fun g nv x => x = w ∧ nv = .int .i64 0)
  case atStart => exact ⟨rfl, rfl⟩
  case round =>
    obtain ⟨rfl, rfl⟩ := hrel
    go_wp2_with fail
    go_loopg [6, 7] 0 (fun g mv nv x => x = wr ∧ mv = .slice none 0 0 ∧ nv = .int .i64 0)
    case atStart => exact ⟨rfl, rfl, rfl⟩
    case round =>
      obtain ⟨rfl, rfl, rfl⟩ := hrel
      go_wp2_with fail
      go_loopg [10] 0 (fun g nv x => x = wr ∧ nv = .int .i64 0)
      case atStart => exact ⟨rfl, rfl⟩
      case round =>
        obtain ⟨rfl, rfl⟩ := hrel
        go_wp2_with fail
        go_ret
        exact ⟨rfl, rfl⟩

set_option maxRecDepth 100000 in
set_option maxHeartbeats 2000000 in
theorem apartTrees_none (B : Nat) (w : World) (h : w.cell? ⟨B, 17, none⟩ = some (.slice none 0 0)) :
    Calls Tryz.prog 44 #[.pointer (some ⟨B, 0, none⟩)] w fun e w' => e = .returned (.bool true) ∧ w' = w := by
  go_enter Tryz.func44, Tryz.ntmps44
  go_wp2_with fail
  go_loopg [3] 0 (fun g nv x => x = w ∧ nv = .int .i64 0)
  case atStart => exact ⟨rfl, rfl⟩
  case round =>
    obtain ⟨rfl, rfl⟩ := hrel
    go_wp2_with fail
    go_loopg [6, 7] 0 (fun g mv nv x => x = wr ∧ mv = .slice none 0 0 ∧ nv = .int .i64 0)
    case atStart => exact ⟨rfl, rfl, rfl⟩
    case round =>
      obtain ⟨rfl, rfl, rfl⟩ := hrel
      go_wp2_with fail
      go_loopg [10] 0 (fun g nv x => x = wr ∧ nv = .int .i64 0)
      case atStart => exact ⟨rfl, rfl⟩
      case round =>
        obtain ⟨rfl, rfl⟩ := hrel
        go_wp2_with fail
        go_ret
        exact ⟨rfl, rfl⟩

end Go.Proofs.YthihnkgjkmaplaaGreatDoor.Tb
namespace Go.Proofs.YthihnkgjkmaplaaGreatDoor.Tb
open Go.RowKit

/-- All lists of the bag but those of texts are empty. -/
def Bare (w : World) (B : Nat) : Prop := ∀ k, k < 18 → k ≠ 4 → w.cell? ⟨B, k, none⟩ = some (.slice none 0 0)

set_option maxRecDepth 100000 in
set_option maxHeartbeats 4000000 in
theorem apart_of (B : Nat) (Q : World → Prop) (w : World) (hz : Bare w B) (hT : Calls Tryz.prog 31 #[.pointer (some ⟨B, 0, none⟩)] w fun e w' => e = .returned (.bool true) ∧ Bare w' B ∧ Q w') :
    Calls Tryz.prog 13 #[.pointer (some ⟨B, 0, none⟩)] w fun e w' => e = .returned (.bool true) ∧ Q w' := by
  have HZ : Aside (Bare w B) := hz
  clear hz
  go_enter Tryz.func13, Tryz.ntmps13
  go_wp2_with (first
    | (go_at_call 27; refine (apartBytes_none B _ (HZ.out 0 (by decide) (by decide))).mono ?_; rintro e w' ⟨rfl, hw'⟩; subst hw')
    | (go_at_call 28; refine (apartInts_none B _ (HZ.out 1 (by decide) (by decide))).mono ?_; rintro e w' ⟨rfl, hw'⟩; subst hw')
    | (go_at_call 29; refine (apartLongs_none B _ (HZ.out 2 (by decide) (by decide))).mono ?_; rintro e w' ⟨rfl, hw'⟩; subst hw')
    | (go_at_call 30; refine (apartBools_none B _ (HZ.out 3 (by decide) (by decide))).mono ?_; rintro e w' ⟨rfl, hw'⟩; subst hw')
    | (go_at_call 31; refine hT.mono ?_; rintro e w2 ⟨rfl, hz2, hQ⟩; clear hT HZ; have HZ2 : Aside (Bare w2 B) := hz2; clear hz2)
    | (go_at_call 32; refine (apartNodes_none B _ (HZ2.out 5 (by decide) (by decide))).mono ?_; rintro e w' ⟨rfl, hw'⟩; subst hw')
    | (go_at_call 33; refine (apartCos_none B _ (HZ2.out 6 (by decide) (by decide))).mono ?_; rintro e w' ⟨rfl, hw'⟩; subst hw')
    | (go_at_call 34; refine (apartSeen_none B _ (HZ2.out 7 (by decide) (by decide))).mono ?_; rintro e w' ⟨rfl, hw'⟩; subst hw')
    | (go_at_call 35; refine (apartSites_none B _ (HZ2.out 8 (by decide) (by decide))).mono ?_; rintro e w' ⟨rfl, hw'⟩; subst hw')
    | (go_at_call 36; refine (apartIns_none B _ (HZ2.out 9 (by decide) (by decide))).mono ?_; rintro e w' ⟨rfl, hw'⟩; subst hw')
    | (go_at_call 37; refine (apartImports_none B _ (HZ2.out 10 (by decide) (by decide))).mono ?_; rintro e w' ⟨rfl, hw'⟩; subst hw')
    | (go_at_call 38; refine (apartTraps_none B _ (HZ2.out 11 (by decide) (by decide))).mono ?_; rintro e w' ⟨rfl, hw'⟩; subst hw')
    | (go_at_call 39; refine (apartRows_none B _ (HZ2.out 12 (by decide) (by decide))).mono ?_; rintro e w' ⟨rfl, hw'⟩; subst hw')
    | (go_at_call 40; refine (apartDefs_none B _ (HZ2.out 13 (by decide) (by decide))).mono ?_; rintro e w' ⟨rfl, hw'⟩; subst hw')
    | (go_at_call 41; refine (apartModules_none B _ (HZ2.out 14 (by decide) (by decide))).mono ?_; rintro e w' ⟨rfl, hw'⟩; subst hw')
    | (go_at_call 42; refine (apartFunctions_none B _ (HZ2.out 15 (by decide) (by decide))).mono ?_; rintro e w' ⟨rfl, hw'⟩; subst hw')
    | (go_at_call 43; refine (apartWaits_none B _ (HZ2.out 16 (by decide) (by decide))).mono ?_; rintro e w' ⟨rfl, hw'⟩; subst hw')
    | (go_at_call 44; refine (apartTrees_none B _ (HZ2.out 17 (by decide) (by decide))).mono ?_; rintro e w' ⟨rfl, hw'⟩; subst hw'))
  go_ret
  exact ⟨rfl, hQ⟩

end Go.Proofs.YthihnkgjkmaplaaGreatDoor.Tb
