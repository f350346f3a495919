/- The call of TextBounds: it returns true. -/
import Derived.Test.YtjddbiabkobfoaaDoorBSpec
import Derived.Test.YtjddbiabkobfoaaDoorRefQuote
import Derived.Deep.Cut
namespace Go.Proofs.YtjddbiabkobfoaaDoor
open Go.RowKit

/-- The nine cases. -/
def nine (A C L : List UInt8) : List Case :=
  [⟨⟨A.toArray⟩, 1, 0, 0, 0⟩, ⟨⟨A.toArray⟩ ++ ⟨#[97]⟩, 0, 12, 1, 1⟩, ⟨⟨#[57, 50, 50, 51, 51, 55, 50, 48, 51, 54, 56, 53, 52, 55, 55, 53, 56, 48, 55]⟩, 1, 0, 0, 0⟩, ⟨⟨#[57, 50, 50, 51, 51, 55, 50, 48, 51, 54, 56, 53, 52, 55, 55, 53, 56, 48, 56]⟩, 0, 13, 1, 1⟩,
   ⟨⟨#[57, 50, 50, 51, 51, 55, 50, 48, 51, 54, 56, 53, 52, 55, 55, 53, 56, 48, 55, 48]⟩, 0, 13, 1, 1⟩, ⟨⟨#[34]⟩ ++ ⟨C.toArray⟩ ++ ⟨C.toArray⟩ ++ ⟨#[34]⟩, 1, 0, 0, 0⟩, ⟨⟨#[34]⟩ ++ ⟨C.toArray⟩ ++ ⟨C.toArray⟩ ++ ⟨#[120, 34]⟩, 0, 14, 1, 1⟩, ⟨⟨L.toArray⟩, 0, 0, 0, 0⟩, ⟨⟨L.toArray⟩ ++ ⟨#[32]⟩, 0, 10, 0, 0⟩]
/-- Each of them is as Tokens answers. -/
theorem nine_ok (A C L : List UInt8) (hA : A = repA 32) (hC : C = repB 32) (hL : L = repL 65536) : ∀ k ∈ nine A C L, ans k.x.data.toList = (k.n, k.er, k.l, k.c) ∧ k.x.size ≤ maxLen := by
  have sz : ∀ l : List UInt8, l.length ≤ 70000 → (⟨l.toArray⟩ : ByteArray).size ≤ maxLen := fun l h => by show l.length ≤ maxLen; unfold maxLen; omega
  have lA : A.length = 32 := by rw [hA]; rfl
  have lC : C.length = 64 := by rw [hC]; rfl
  have lL : L.length = 65536 := by rw [hL]; exact repL_len _
  intro k hk
  unfold nine at hk
  simp only [List.mem_cons, List.not_mem_nil, or_false] at hk
  rcases hk with rfl | rfl | rfl | rfl | rfl | rfl | rfl | rfl | rfl
  · exact ⟨by rw [hA]; exact ans0, sz A (by omega)⟩
  · have e : ((⟨A.toArray⟩ : ByteArray) ++ ⟨#[97]⟩) = ⟨(A ++ [97]).toArray⟩ := str_app A [97]
    exact ⟨by show ans ((⟨A.toArray⟩ : ByteArray) ++ ⟨#[97]⟩).data.toList = _; rw [e, hA]; exact ans1, by show ((⟨A.toArray⟩ : ByteArray) ++ ⟨#[97]⟩).size ≤ _; rw [e]; exact sz _ (by simp; omega)⟩
  · exact ⟨ans2, by decide⟩
  · exact ⟨ans3, by decide⟩
  · exact ⟨ans4, by decide⟩
  · have e : ((⟨#[34]⟩ : ByteArray) ++ ⟨C.toArray⟩ ++ ⟨C.toArray⟩ ++ ⟨#[34]⟩) = ⟨([34] ++ C ++ C ++ [34]).toArray⟩ := by
      rw [show ((⟨#[34]⟩ : ByteArray) ++ ⟨C.toArray⟩) = ⟨([34] ++ C).toArray⟩ from str_app [34] C, str_app ([34] ++ C) C]; exact str_app ([34] ++ C ++ C) [34]
    exact ⟨by show ans ((⟨#[34]⟩ : ByteArray) ++ ⟨C.toArray⟩ ++ ⟨C.toArray⟩ ++ ⟨#[34]⟩).data.toList = _; rw [e, hC]; exact ans5, by show ((⟨#[34]⟩ : ByteArray) ++ ⟨C.toArray⟩ ++ ⟨C.toArray⟩ ++ ⟨#[34]⟩).size ≤ _; rw [e]; exact sz _ (by simp; omega)⟩
  · have e : ((⟨#[34]⟩ : ByteArray) ++ ⟨C.toArray⟩ ++ ⟨C.toArray⟩ ++ ⟨#[120, 34]⟩) = ⟨([34] ++ C ++ C ++ [120, 34]).toArray⟩ := by
      rw [show ((⟨#[34]⟩ : ByteArray) ++ ⟨C.toArray⟩) = ⟨([34] ++ C).toArray⟩ from str_app [34] C, str_app ([34] ++ C) C]; exact str_app ([34] ++ C ++ C) [120, 34]
    exact ⟨by show ans ((⟨#[34]⟩ : ByteArray) ++ ⟨C.toArray⟩ ++ ⟨C.toArray⟩ ++ ⟨#[120, 34]⟩).data.toList = _; rw [e, hC]; exact ans6, by show ((⟨#[34]⟩ : ByteArray) ++ ⟨C.toArray⟩ ++ ⟨C.toArray⟩ ++ ⟨#[120, 34]⟩).size ≤ _; rw [e]; exact sz _ (by simp; omega)⟩
  · exact ⟨by show ans L = _; rw [hL]; exact ans7, sz L (by omega)⟩
  · have e : ((⟨L.toArray⟩ : ByteArray) ++ ⟨#[32]⟩) = ⟨(L ++ [32]).toArray⟩ := str_app L [32]
    exact ⟨by show ans ((⟨L.toArray⟩ : ByteArray) ++ ⟨#[32]⟩).data.toList = _; rw [e]; show ans (L ++ [32]) = _; rw [hL]; exact ans8, by show ((⟨L.toArray⟩ : ByteArray) ++ ⟨#[32]⟩).size ≤ _; rw [e]; exact sz _ (by simp; omega)⟩

set_option maxRecDepth 100000 in
set_option maxHeartbeats 2000000 in
theorem textBounds_any (w : World) (hv : Vars w) (h2 : 2 ≤ w.heap.size) :
    Calls Tryd.prog 8 #[] w fun e w' => e = .returned (.bool true) ∧ Below w.heap.size w w' := by
  obtain ⟨i0, hi, hz0, hz1, hz2⟩ := info_parts info5
  go_enter Tryd.func8, Tryd.ntmps8
  go_wp2_with fail
  go_loopg [1, 2, 3] 32 (fun g s1 s2 t wr => w = wr ∧ ∃ (k : Nat) (A C : List UInt8), k + g = 32 ∧ t = .int .i64 k ∧ s1 = .string ⟨A.toArray⟩ ∧ s2 = .string ⟨C.toArray⟩ ∧ A.length ≤ k ∧ C.length ≤ 2 * k ∧ Aside (A = repA k ∧ C = repB k))
  case atStart => exact ⟨rfl, 0, [], [], by omega, rfl, rfl, rfl, by simp, by simp, ⟨rfl, rfl⟩⟩
  case round =>
    obtain ⟨rfl, k, A, C, hkg, rfl, rfl, rfl, hAl, hCl, HK⟩ := hrel
    by_cases hk : k < 32
    · have hk' : (k : Int) < 32 := by omega
      go_wp2_with fail
      go_roundg (gk - 1)
      case measure => omega
      case rel => exact ⟨rfl, k + 1, A ++ [97], C ++ [92, 110], by omega, by go_num, val_str (str_app A [97]), val_str (str_app C [92, 110]), by simp; omega, by simp; omega, ⟨by rw [HK.out.1, repA_succ], by rw [HK.out.2]; rfl⟩⟩
    · obtain rfl : k = 32 := by omega
      obtain ⟨hA, hC⟩ := HK.out
      have HA : Aside (A = repA 32) := hA
      have HC : Aside (C = repB 32) := hC
      clear hA hC HK hk
      go_wp2_with fail
      go_loopg [4, 5] 65536 (fun g v t wx => ∃ (k : Nat) (L : List UInt8), k + g = 65536 ∧ L.length = k ∧ t = .int .i64 k ∧ wx.ownsRow w.heap.size 5 1 v L.length (bcells L) ∧ Below w.heap.size w wx ∧ Aside (L = repL k))
      case atStart => exact ⟨0, [], by omega, rfl, rfl, World.ownsRow_nil _ _ _ _, Below.refl _ _, rfl⟩
      case round =>
        obtain ⟨k, L, hkg2, hLk, rfl, hown, hB, HL⟩ := hrel
        obtain ⟨va, vc, rfl⟩ := own_len hown
        have hBs := hB.size
        by_cases hk : k < 65536
        · have hk' : (k : Int) < 65536 := by omega
          have HLk : Aside (L.length = k) := hLk
          have hLb : L.length ≤ 65536 := by omega
          clear hLk
          go_wp2_with (at_builtin; go_must (refine wpList_append_own _ rfl _ _ 22 rfl w.heap.size 5 i0 (.int .u8 0) 1 1 ty22 hi hz0 hz1 hz2 rfl (by decide) (.slice va L.length vc) _ _ rfl (hown.alloc _) ⟨wr.heap.size, 0, none⟩ 1 1 (bcells [32]) rfl rfl (cells_list_new _ (bcells [32]) 5) (bytes_one _) (by unfold maxLen; omega) (by omega) (by simp; omega) ?_); intro v2 w2 hown2 hg2 _)
          go_roundg (gk - 1)
          case measure => omega
          case rel => exact ⟨k + 1, L ++ [32], by omega, by rw [List.length_append, HLk.out]; rfl, by go_num, by rw [bcells_append, List.length_append]; exact hown2, hB.grown (grownBy_alloc_pre hg2) hBs (fun x e => (hown.lt x e).1), by rw [HL.out]; exact (repL_succ k).symm⟩
        · obtain rfl : k = 65536 := by omega
          have HLL : Aside (L = repL 65536) := HL.out
          have hLb : L.length ≤ 65536 := by omega
          have HLk : Aside (L.length = 65536) := hLk
          clear hLk hk HL
          go_upto_region 14 with fail
          have hB2 : Below w.heap.size w ((wr.alloc (.cells #[.int .i64 0, .int .i64 0] 29)).alloc (.cells #[.int .i64 1, .int .i64 1] 29)) := (hB.alloc hBs _).alloc (by simp; omega) _
          have hown2 := (hown.alloc (.cells #[.int .i64 0, .int .i64 0] 29)).alloc (.cells #[.int .i64 1, .int .i64 1] 29)
          have hn0 : ∀ j, ((wr.alloc (.cells #[.int .i64 0, .int .i64 0] 29)).alloc (.cells #[.int .i64 1, .int .i64 1] 29)).cell? ⟨wr.heap.size, j, none⟩ = (#[.int .i64 0, .int .i64 0] : Array Value)[j]? := fun j => by
            have e := (Below.heap_alloc (wr.alloc (.cells #[.int .i64 0, .int .i64 0] 29)) (.cells #[.int .i64 1, .int .i64 1] 29) wr.heap.size (by simp)).trans (heap_alloc_new wr _)
            exact (block_cells e).1 j
          have hn1 : ∀ j, ((wr.alloc (.cells #[.int .i64 0, .int .i64 0] 29)).alloc (.cells #[.int .i64 1, .int .i64 1] 29)).cell? ⟨wr.heap.size + 1, j, none⟩ = (#[.int .i64 1, .int .i64 1] : Array Value)[j]? := fun j => by
            have e : (wr.alloc (.cells #[.int .i64 0, .int .i64 0] 29)).heap.size = wr.heap.size + 1 := by simp
            rw [← e]
            exact (block_cells (heap_alloc_new _ _)).1 j
          generalize ((wr.alloc (.cells #[.int .i64 0, .int .i64 0] 29)).alloc (.cells #[.int .i64 1, .int .i64 1] 29)) = w2 at *
          have a0 := hn0 0
          have a1 := hn0 1
          have b0 := hn1 0
          have b1 := hn1 1
          simp at a0 a1 b0 b1
          have hcv := conv_own w2 _ _ L hown2
          clear hn0 hn1 hown hB hown2
          go_upto_region 16 with fail
          have hok := nine_ok A C L HA.out HC.out HLL.out
          have hcell : ∀ (cs : List Case), cs = nine A C L → ∀ k (h : k < cs.length) j, j < 5 → (w2.alloc (.cells (ccells cs).toArray 53)).cell? ⟨w2.heap.size, k * 5 + j, none⟩ = ([.string (cs[k]'h).x, .int .i64 (cs[k]'h).n, .int .i64 (cs[k]'h).er, .int .i64 (cs[k]'h).l, .int .i64 (cs[k]'h).c] : List Value)[j]? := fun cs _ k h j hj => by
            rw [(block_cells (heap_alloc_new w2 (.cells (ccells cs).toArray 53))).1, List.getElem?_toArray]
            exact ccells_at cs k h j hj
          have hcell := hcell (nine A C L) rfl
          have hB3 : Below w.heap.size w (w2.alloc (.cells (ccells (nine A C L)).toArray 53)) := hB2.alloc hB2.size _
          have hlt3 : w2.heap.size < (w2.alloc (.cells (ccells (nine A C L)).toArray 53)).heap.size := by simp
          have hlen9 : (nine A C L).length = 9 := rfl
          show Code.wp Tryd.prog _ _ _ (w2.alloc (.cells (ccells (nine A C L)).toArray 53))
          generalize (w2.alloc (.cells (ccells (nine A C L)).toArray 53)) = w3 at *
          generalize nine A C L = cs at *
          clear hcv a0 a1 b0 b1 hB2 HLL
          generalize w2.heap.size = G at *
          go_loopg [9] 9 (fun g t wx => ∃ k : Nat, k + g = 9 ∧ t = .int .i64 k ∧ Below w3.heap.size w3 wx)
          case atStart => exact ⟨0, by omega, rfl, Below.refl _ _⟩
          case round =>
            obtain ⟨k, hkg9, rfl, hBx⟩ := hrel
            have hBxs := hBx.size
            by_cases hk9 : k < 9
            · have hk' : (k : Int) < 9 := by omega
              have hk0 : (0 : Int) ≤ (k : Int) := by omega
              have hkl : k < cs.length := by omega
              obtain ⟨hans, hxs⟩ := hok (cs[k]'hkl) (List.getElem_mem hkl)
              have e0 := (hBx.cell (p := ⟨G, k * 5 + 0, none⟩) hlt3).trans (hcell k hkl 0 (by omega))
              have e1 := (hBx.cell (p := ⟨G, k * 5 + 1, none⟩) hlt3).trans (hcell k hkl 1 (by omega))
              have e2 := (hBx.cell (p := ⟨G, k * 5 + 2, none⟩) hlt3).trans (hcell k hkl 2 (by omega))
              have e3 := (hBx.cell (p := ⟨G, k * 5 + 3, none⟩) hlt3).trans (hcell k hkl 3 (by omega))
              have e4 := (hBx.cell (p := ⟨G, k * 5 + 4, none⟩) hlt3).trans (hcell k hkl 4 (by omega))
              simp at e0 e1 e2 e3 e4
              generalize cs[k]'hkl = cc at *
              obtain ⟨x, n, er, l, c⟩ := cc
              simp only at e0 e1 e2 e3 e4 hans hxs
              obtain ⟨v, w7, hcv, hsrc, hB7, hlt7⟩ := conv_str wr x
              clear hcell hok
              go_wp2_with fail
              have hB30 := hB3.trans ((hBx.trans (hB7.mono hBxs)).mono hB3.size)
              refine (tokens_ans w7 v _ hsrc (hv.below hB30) (Nat.le_trans h2 hB30.size) n er l c hans).mono ?_
              rintro e w8 ⟨ta, tcap, rfl, hB8⟩
              have hBy := (hBx.trans (hB7.mono hBxs)).trans (hB8.mono (Nat.le_trans hBxs hB7.size))
              have up : ∀ o {a : Addr} {u : Value}, a.block < wr.heap.size → wr.cell? a = some u → (w8.alloc o).cell? a = some u := fun o a u hb h => (World.grownBy_alloc w8 o none).cell ((hB8.cell (Nat.lt_of_lt_of_le hb hB7.size)).trans ((hB7.cell hb).trans h)) (by simp)
              have hGw : G < wr.heap.size := Nat.lt_of_lt_of_le hlt3 hBxs
              have f1 := fun o => up o (by exact hGw) e1
              have f2 := fun o => up o (by exact hGw) e2
              have f3 := fun o => up o (by exact hGw) e3
              have f4 := fun o => up o (by exact hGw) e4
              clear hcv hsrc hB7 hB8 e0 e1 e2 e3 e4 up hB30 hans
              go_wp2_with fail
              have g1 := f1 (.cells #[.int .i64 l, .int .i64 c] 29)
              have g2 := f2 (.cells #[.int .i64 l, .int .i64 c] 29)
              have g3 := f3 (.cells #[.int .i64 l, .int .i64 c] 29)
              have g4 := f4 (.cells #[.int .i64 l, .int .i64 c] 29)
              have hz := hBy.alloc hBy.size (.cells #[.int .i64 l, .int .i64 c] 29)
              have hq := (block_cells (heap_alloc_new w8 (.cells #[.int .i64 l, .int .i64 c] 29))).1
              have q0 : (w8.alloc (.cells #[.int .i64 l, .int .i64 c] 29)).cell? ⟨w8.heap.size, 0, none⟩ = some (.int .i64 l) := hq 0
              have q1 : (w8.alloc (.cells #[.int .i64 l, .int .i64 c] 29)).cell? ⟨w8.heap.size, 1, none⟩ = some (.int .i64 c) := hq 1
              generalize w8.alloc (.cells #[.int .i64 l, .int .i64 c] 29) = w9 at *
              clear f1 f2 f3 f4 hq
              go_quiet (fail)
              go_wp2_with fail
              go_roundg (gk - 1)
              case measure => omega
              case rel => exact ⟨k + 1, by omega, by go_num, hz.os, hz.tape, hz.output, hz.size, hz.block⟩
            · obtain rfl : k = 9 := by omega
              have hBy := hB3.trans (hBx.mono hB3.size)
              obtain ⟨Y, eA, hYl⟩ : ∃ Y : ByteArray, ((⟨A.toArray⟩ : ByteArray) ++ ⟨#[97]⟩) = Y ∧ Y.data.toList = A ++ [97] := ⟨_, rfl, by rw [str_app A [97]]⟩
              have sY : Y.size ≤ maxLen := by rw [← str_len, hYl]; unfold maxLen; simp; omega
              have nA : nameB (⟨A.toArray⟩ : ByteArray).data.toList = true := by rw [HA.out]; decide
              have nA1 : nameB Y.data.toList = false := by rw [hYl, HA.out]; decide
              clear hYl
              go_wp2_with fail
              refine (works_any _ (hv.below hBy) (Nat.le_trans h2 hBy.size)).mono ?_
              rintro e w8 ⟨rfl, hB8⟩
              go_wp2_with fail
              refine (isName_any ⟨A.toArray⟩ (by show A.length ≤ maxLen; unfold maxLen; omega) _).mono ?_
              rintro e w9 ⟨rfl, hB9⟩
              rw [nA]
              go_wp2_with fail
              refine (isName_any Y sY _).mono ?_
              rintro e w10 ⟨rfl, hB10⟩
              rw [nA1]
              go_wp2_with fail
              go_ret
              have r1 := hBy.trans (hB8.mono hBy.size)
              have r2 := r1.trans (hB9.mono r1.size)
              exact ⟨rfl, r2.trans (hB10.mono r2.size)⟩
end Go.Proofs.YtjddbiabkobfoaaDoor
