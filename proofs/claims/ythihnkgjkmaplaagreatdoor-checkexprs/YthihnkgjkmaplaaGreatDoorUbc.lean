/- What the document's IsType, isNote and twoNames answer. The document's IsName, twoNames: stage 5's text serves. The document's inner: Rec. The document's inner: Let. The document's inner, of any node that may be. -/
import Derived.Test.YthihnkgjkmaplaaGreatDoorUbb
import Derived.Deep.RegionWith
import Derived.Test.YthihnkgjkmaplaaGreatDoorUaz
import Derived.Test.YthihnkgjkmaplaaGreatDoorUay
import Derived.Test.YthihnkgjkmaplaaGreatDoorUaj
import Derived.Deep.AppendLies
import Derived.Deep.RegionLaw
import Derived.BigRegion
import Derived.Deep.RegionHeld3
import Derived.Test.YthihnkgjkmaplaaGreatDoorUba
namespace Go.Proofs.YthihnkgjkmaplaaGreatDoor
open Go.RowKit
set_option maxRecDepth 100000
set_option linter.unusedSimpArgs false

theorem typB_end {l : List UInt8} (h1 : 1 ≤ l.length) (h2 : l.length ≤ 64) : typB l = (tend l == l.length) := by
  unfold typB tend
  have h3 : ¬ 64 < l.length := by omega
  by_cases hb : Tp.beh l 1 = (l.length, true)
  · rw [Tp.chk_good h3 hb, hb]; simp
  · cases hc : Tp.beh l 1 with
    | mk e b =>
      rw [hc] at hb
      cases b
      · rw [Tp.chk_bad h3 (.inl (by rw [hc]))]
        simp
        omega
      · have he : e ≠ l.length := fun h => hb (by rw [h])
        rw [Tp.chk_bad h3 (.inr (by rw [hc]; exact he))]
        simp [he]
theorem typB_len {l : List UInt8} (h : l.length < 1 ∨ 64 < l.length) : typB l = false := by
  unfold typB
  rcases h with h | h
  · have : l = [] := List.length_eq_zero_iff.1 (by omega)
    subst this; rfl
  · rw [Tp.chk_long h]; rfl

set_option maxHeartbeats 400000 in
theorem refIsType_any (s : ByteArray) (w : World) :
    Calls Tryz.prog 58 #[.string s] w fun e w' => e = .returned (.bool (typB s.data.toList)) ∧ w' = w := by
  have hsl := str_len s
  by_cases h1 : s.size < 1
  · have HN : Aside (typB s.data.toList = false) := typB_len (by omega)
    have h1' : (s.size : Int) < 1 := by omega
    clear hsl
    go_enter Tryz.func58, Tryz.ntmps58
    go_wp2_with fail
    go_ret
    rw [HN.out]; exact ⟨rfl, rfl⟩
  · have h1' : decide ((s.size : Int) < 1) = false := by simp; omega
    by_cases h2 : 64 < s.size
    · have HN : Aside (typB s.data.toList = false) := typB_len (by omega)
      have h2' : (64 : Int) < (s.size : Int) := by omega
      clear hsl h1
      go_enter Tryz.func58, Tryz.ntmps58
      go_wp2_with fail
      go_ret
      rw [HN.out]; exact ⟨rfl, rfl⟩
    · have h2' : decide ((64 : Int) < (s.size : Int)) = false := by simp; omega
      have HN : Aside (typB s.data.toList = ((tend s.data.toList : Int) == (s.size : Int))) := by
        show _ = _
        rw [typB_end (by omega) (by omega), hsl, Bool.eq_iff_iff]; simp; omega
      have ht := typeEnd_any s (by omega)
      clear hsl h1 h2
      generalize tend s.data.toList = z at *
      go_enter Tryz.func58, Tryz.ntmps58
      go_wp2_with (go_at_call 85; refine (ht _).mono ?_; rintro e w' ⟨rfl, hw'⟩; replace hw' := hw'.symm; subst hw')
      go_ret
      rw [HN.out]
      exact ⟨rfl, rfl⟩

set_option maxHeartbeats 400000 in
theorem isNote_any (s : ByteArray) (w : World) :
    Calls Tryz.prog 111 #[.string s] w fun e w' => e = .returned (.bool (noteB s.data.toList)) ∧ w' = w := by
  have HE : Aside (s.toList.isEmpty = s.data.toList.isEmpty) := str_empty s
  cases he : s.toList.isEmpty
  all_goals
    go_enter Tryz.func111, Tryz.ntmps111
    go_wp2_with (go_at_call 58; refine (refIsType_any _ _).mono ?_; rintro e w' ⟨rfl, rfl⟩)
    go_ret
    refine ⟨ret_bool ?_, rfl⟩
    unfold noteB
    rw [← HE.out, he]
    simp

namespace Tr
theorem cut32_at : ∀ (l : List UInt8) (k : Nat), (∀ j, j < k → l[j]? ≠ some 32) → l[k]? = some 32 → cut32 l = (l.take k, l.drop (k + 1), true)
  | [], k, _, h => by simp at h
  | c :: r, 0, _, h => by simp at h; subst h; simp [cut32]
  | c :: r, k + 1, h1, h => by
    have h0 : c ≠ 32 := fun e => h1 0 (by omega) (by simp [e])
    have := cut32_at r k (fun j hj => by have := h1 (j + 1) (by omega); simpa using this) (by simpa using h)
    rw [cut32, if_neg h0, this]
    simp
theorem cut32_no : ∀ (l : List UInt8), (∀ j, j < l.length → l[j]? ≠ some 32) → cut32 l = (l, [], false)
  | [], _ => rfl
  | c :: r, h => by
    have h0 : c ≠ 32 := fun e => h 0 (by simp) (by simp [e])
    rw [cut32, if_neg h0, cut32_no r (fun j hj => by have := h (j + 1) (by simp; omega); simpa using this)]
end Tr
/-- What twoNames answers: the names, and whether they are two. -/
def two (l : List UInt8) : List UInt8 × List UInt8 × Bool := if (Tr.cut32 l).2.2 then ((Tr.cut32 l).1, (Tr.cut32 l).2.1, nameB (Tr.cut32 l).1 && nameB (Tr.cut32 l).2.1) else ([], [], false)
theorem two_is (l : List UInt8) : (two l).2.2 = (nameB (Tr.cut32 l).1 && nameB (Tr.cut32 l).2.1) := by
  unfold two
  by_cases h : Lib.indexByte l 32 = -1
  · rw [Tr.cut32_none h]; simp [Tr.nameB_nil]
  · obtain ⟨o, ho⟩ : ∃ o : Nat, Lib.indexByte l 32 = o := ⟨(Lib.indexByte l 32).toNat, by have := Lib.indexByte_ge l 32; omega⟩
    rw [(Tr.cut32_some ho).2]; simp

theorem below_undrew {b : Nat} {w w' : World} (h : Below b w.drew w') : Below b w w' := ⟨h.os, h.tape, h.output, h.size, h.block⟩

set_option maxHeartbeats 4000000 in
theorem twoNames_any (s : ByteArray) (hs : s.size ≤ maxLen) (w : World) :
    Calls Tryz.prog 112 #[.string s] w fun e w' => e = .returned (.tuple #[.string (S (two s.data.toList).1), .string (S (two s.data.toList).2.1), .bool (two s.data.toList).2.2]) ∧ Below w.heap.size w w' := by
  have HL : Aside (s.data.toList.length = s.size) := str_len s
  have hml : s.size ≤ 9223372036854775807 := by unfold maxLen at hs; omega
  go_enter Tryz.func112, Tryz.ntmps112
  go_wp2_with fail
  go_loopg [5] s.size (fun g t wr => w = wr ∧ ∃ k : Nat, k + g = s.size ∧ t = .int .i64 (k : Int) ∧ Aside (∀ j, j < k → s.data.toList[j]? ≠ some 32))
  case atStart => exact ⟨rfl, 0, by omega, rfl, fun j hj => absurd hj (by omega)⟩
  case round =>
    obtain ⟨rfl, k, hkg, rfl, HK⟩ := hrel
    by_cases hk : k < s.size
    · have hk' : (k : Int) < (s.size : Int) := by omega
      have hk0 : (0 : Int) ≤ (k : Int) := by omega
      have hBk := str_B s k hk
      have hkl : k < s.data.toList.length := by rw [HL.out]; exact hk
      by_cases h32 : s.data.toList[k]? = some 32
      · have hb : (Tx.B s.data.toList k == 32) = true := by unfold Tx.B; rw [h32]; rfl
        have hc := Tr.cut32_at _ k HK.out h32
        have HT : Aside (S (two s.data.toList).1 = S (s.data.toList.take k) ∧ S (two s.data.toList).2.1 = S (s.data.toList.drop (k + 1)) ∧ (two s.data.toList).2.2 = (nameB (s.data.toList.take k) && nameB (s.data.toList.drop (k + 1)))) := by
          show _ ∧ _ ∧ _
          unfold two; rw [hc]; exact ⟨rfl, rfl, rfl⟩
        have hx1 : s.extract 0 k = S (s.data.toList.take k) := by have := S_cut s.data.toList 0 k; simpa [S] using this
        have hx2 : s.extract (k + 1) s.size = S (s.data.toList.drop (k + 1)) := by
          have := S_cut s.data.toList (k + 1) s.size
          rw [List.take_of_length_le (by simp)] at this
          simpa [S] using this
        have hll := HL.out
        have hn1 := refIsName_any (S (s.data.toList.take k)) (by rw [S_size]; simp; omega)
        have hn2 := refIsName_any (S (s.data.toList.drop (k + 1))) (by rw [S_size, List.length_drop]; omega)
        rw [S_list] at hn1 hn2
        have hk1 : (k : Int) ≤ (s.size : Int) := by omega
        have hk2 : (k : Int) + 1 ≤ (s.size : Int) := by omega
        have hk3 : (0 : Int) ≤ (k : Int) + 1 := by omega
        have hk5 : IntKind.i64.wrap ((k : Int) + 1) = (k : Int) + 1 := IntWalk.i64_in _ (by omega)
        have hk6 : ¬ (s.size : Int) < (k : Int) + 1 := by omega
        have hk7 : ¬ ((k : Int) + 1) < 0 := by omega
        have hk8 : ((k : Int) + 1).toNat = k + 1 := by omega
        clear HK h32 hc hkl hll
        generalize nameB (s.data.toList.take k) = f1 at *
        generalize nameB (s.data.toList.drop (k + 1)) = f2 at *
        generalize S (s.data.toList.take k) = sa at *
        generalize S (s.data.toList.drop (k + 1)) = sb at *
        cases f1
        · go_upto_region 5 with fail
          first | go_region_with ((go_at_call_of 57 sa; refine (hn1 _).mono ?_; rintro e w1 ⟨rfl, hB1⟩)) | fail
          all_goals
            go_wp2_with fail
            go_ret3
            rw [HT.out.1, HT.out.2.1, HT.out.2.2]
            refine ⟨rfl, ?_⟩
            first | exact below_undrew hB1 | exact below_undrew (hB1.trans (hB2.mono hB1.size))
        · go_upto_region 5 with fail
          first | go_region_with (first | (go_at_call_of 57 sa; refine (hn1 _).mono ?_; rintro e w1 ⟨rfl, hB1⟩) | (go_at_call_of 57 sb; refine (hn2 _).mono ?_; rintro e w1 ⟨rfl, hB2⟩)) | fail
          all_goals
            go_wp2_with fail
            go_ret3
            rw [HT.out.1, HT.out.2.1, HT.out.2.2]
            refine ⟨rfl, ?_⟩
            first | exact below_undrew hB1 | exact below_undrew (hB1.trans (hB2.mono hB1.size))
      · have hb : (Tx.B s.data.toList k == 32) = false := by
          unfold Tx.B
          rw [List.getElem?_eq_getElem hkl] at h32 ⊢
          simp at h32 ⊢
          intro h
          apply h32
          apply UInt8.toNat_inj.1
          have : ((s.data.toList[k]).toNat : Int) = 32 := by simpa using h
          have h2 : (s.data.toList[k]).toNat = 32 := by omega
          simpa using h2
        have HK2 : Aside (∀ j, j < k + 1 → s.data.toList[j]? ≠ some 32) := fun j hj => by
          by_cases e : j = k
          · subst e; exact h32
          · exact HK.out j (by omega)
        clear h32 hkl
        go_wp2_with fail
        go_roundg (gk - 1)
        case measure => omega
        case rel => exact ⟨rfl, k + 1, by omega, by go_num, HK2⟩
    · have hk' : ¬ (k : Int) < (s.size : Int) := by omega
      have HT : Aside (two s.data.toList = ([], [], false)) := by
        show _ = _
        unfold two
        rw [Tr.cut32_no _ (fun j hj => HK.out j (by rw [HL.out] at hj; omega))]; rfl
      go_wp2_with fail
      go_ret3
      rw [HT.out]
      exact ⟨rfl, Below.refl _ _⟩
end Go.Proofs.YthihnkgjkmaplaaGreatDoor

namespace Go.Proofs.YthihnkgjkmaplaaGreatDoor
open Go.RowKit Ck
open T3.Tp (Ty enc cns met)
open Tr (T Nd nm)
set_option maxRecDepth 100000
set_option linter.unusedSimpArgs false
set_option linter.unusedVariables false

theorem own_below8 {w w' : World} {base e n : Nat} {v : Value} {xs : List Value} (h : w.ownsRow base e 2 v n xs) (k : Below w.heap.size w w') : w'.ownsRow base e 2 v n xs :=
  h.kept (row := none) ⟨k.os, k.tape, k.output, k.size, fun j hj _ => k.block j hj⟩ (by cases v.ownBlock <;> simp)
set_option maxHeartbeats 1000000 in
theorem knames_any {x : Tr.Nd} (hs : x.s.size ≤ maxLen) (hc : (Tr.cut32 (nm x)).2.2 = true) (w : World) : Calls Tryz.prog 113 #[.string x.s] w fun e w' => e = .returned (.tuple #[.string (S (Tr.cut32 (nm x)).1), .string (S (Tr.cut32 (nm x)).2.1)]) ∧ Below w.heap.size w w' := by
  have h := twoNames_any x.s hs w
  have e1 : (two x.s.data.toList).1 = (Tr.cut32 (nm x)).1 := by unfold two; rw [if_pos (show (Tr.cut32 x.s.data.toList).2.2 = true from hc)]; rfl
  have e2 : (two x.s.data.toList).2.1 = (Tr.cut32 (nm x)).2.1 := by unfold two; rw [if_pos (show (Tr.cut32 x.s.data.toList).2.2 = true from hc)]; rfl
  rw [e1, e2] at h
  clear e1 e2
  generalize S (Tr.cut32 (nm x)).1 = s1 at *
  generalize S (Tr.cut32 (nm x)).2.1 = s2 at *
  generalize (two x.s.data.toList).2.2 = b at *
  go_enter Tryz.func113, Tryz.ntmps113
  go_wp2_with fail
  refine h.mono ?_
  rintro e w1 ⟨rfl, hB⟩
  clear h
  go_wp2_with fail
  go_ret2
  exact ⟨rfl, hB⟩
set_option maxHeartbeats 4000000 in
theorem inner_rec (w : World) (cb : Nat) (x : Tr.Nd) (k : Int) (v : Value) (env : Env) (hl : env.length ≤ 5000) (hv : IsEnv w v env) (hκ : x.kind = 6) (hxu : x.u = ⟨#[]⟩ ∨ x.u = S (enc (wr x.u))) (hzt : (enc (wr x.t)).length ≤ 64) (hzu : (enc (wr x.u)).length ≤ 64) (hss : x.s.size ≤ maxLen) (hc : (Tr.cut32 (nm x)).2.2 = true) (hxt : x.t = ⟨#[]⟩ ∨ x.t = S (enc (wr x.t))) :
    Calls Tryz.prog 92 #[.pointer (some ⟨cb, 0, none⟩), .agg #[.int .i8 x.kind, .int .i64 x.kids, .int .i64 x.n, .string x.s, .string x.t, .string x.u, .int .i64 x.ln, .int .i64 x.co], .int .i64 k, v] w fun e w' => ∃ g c, e = .returned (.slice (some ⟨g, 0, none⟩) (env.length + 1 + 1) c) ∧ env.length + 1 + 1 ≤ c ∧ w.heap.size ≤ g ∧ IsEnv w' (.slice (some ⟨g, 0, none⟩) (env.length + 1 + 1) c) (((Tr.cut32 (nm x)).2.1, wr x.t) :: ((Tr.cut32 (nm x)).1, .tf (wr x.t) (wr x.u)) :: env) ∧ Below w.heap.size w w' := by
  obtain ⟨i0, hi, hz0, hz1, hz2⟩ := info_parts infoB
  obtain ⟨a, c, rfl, hv⟩ := hv
  have hmk := make_env env.length hl
  obtain ⟨n, hn⟩ : ∃ n, n = env.length := ⟨_, rfl⟩
  obtain ⟨cs, hcs⟩ : ∃ cs, cs = ecells env := ⟨_, rfl⟩
  have hcl : cs.length = n * 2 := by rw [hcs, hn]; exact ecells_len env
  have hc1 : ∀ v ∈ cs, v.oneCell' = true := by rw [hcs]; exact ecells_one env
  have HE : Aside (n = env.length ∧ cs = ecells env) := ⟨hn, hcs⟩
  have hsrc : 0 < n → ∃ b o, a = some ⟨b, o, none⟩ ∧ b < w.heap.size ∧ ∀ j u, cs[j]? = some u → w.cell? ⟨b, o + j, none⟩ = some u := by
    intro h0
    rw [hcs]
    exact hv (fun e => by rw [e] at hn; simp at hn; omega)
  rw [← hn] at hmk
  show Calls _ _ #[_, _, _, .slice a env.length c] _ _
  rw [← hn]
  have hnl : n ≤ 5000 := by rw [hn]; exact hl
  clear hv hn hcs hl
  obtain ⟨W1, hW1⟩ : ∃ W1, W1 = w.alloc (.cells #[.int .i8 x.kind, .int .i64 x.kids, .int .i64 x.n, .string x.s, .string x.t, .string x.u, .int .i64 x.ln, .int .i64 x.co] 64) := ⟨_, rfl⟩
  obtain ⟨W2, hW2⟩ : ∃ W2, W2 = W1.alloc (.cells (madeCells #[.string ⟨#[]⟩, .string ⟨#[]⟩] (n * 2)) 98) := ⟨_, rfl⟩
  have z1 : W1.heap.size = w.heap.size + 1 := by rw [hW1]; simp
  have hB2 : Below w.heap.size w W2 := by rw [hW2, hW1]; exact ((Below.refl _ _).alloc (Nat.le_refl _) _).alloc (by simp) _
  have hx2 : W2.heap[w.heap.size]? = some (.cells #[.int .i8 x.kind, .int .i64 x.kids, .int .i64 x.n, .string x.s, .string x.t, .string x.u, .int .i64 x.ln, .int .i64 x.co] 64) := by rw [hW2, hW1]; exact (Below.heap_alloc _ _ _ (by simp)).trans (heap_alloc_new _ _)
  have hm2 : W2.heap[w.heap.size + 1]? = some (.cells (madeCells #[.string ⟨#[]⟩, .string ⟨#[]⟩] (n * 2)).toList.toArray 98 (0, 0)) := by rw [hW2, ← z1]; simpa using heap_alloc_new W1 _
  have HK : Aside (x.kind = 6) := hκ
  have hnt := fun w => knote_any hxt w
  have hnu := fun w => knote_any hxu w
  have hnm := knames_any hss hc
  have HZ1 : Aside (W1.heap.size = w.heap.size + 1) := z1
  clear hκ hxt z1
  go_enter Tryz.func92, Tryz.ntmps92
  go_upto_region 2 with fail
  rw [← hW1]
  rw [← hW2]
  clear hmk hW1 hW2
  obtain ⟨w3, hrun, hg3, hB3⟩ := copy_env W2 (w.heap.size + 1) n c a _ cs hm2 hcl (by simp [size_madeCells]) hc1 (fun h0 => by
    obtain ⟨b, o, rfl, hb, hc⟩ := hsrc h0
    exact ⟨b, o, rfl, fun j u hu => (hB2.cell (p := ⟨b, o + j, none⟩) hb).trans (hc j u hu)⟩)
  have hx3 := (hB3.block _ (by omega)).trans hx2
  have p0 : w3.cell? ⟨w.heap.size, 0, none⟩ = some (.int .i8 x.kind) := (block_cells hx3).1 0
  rw [HK.out] at p0
  have p3 : w3.cell? ⟨w.heap.size, 3, none⟩ = some (.string x.s) := (block_cells hx3).1 3
  have p4 : w3.cell? ⟨w.heap.size, 4, none⟩ = some (.string x.t) := (block_cells hx3).1 4
  have p5 : w3.cell? ⟨w.heap.size, 5, none⟩ = some (.string x.u) := (block_cells hx3).1 5
  have hown : w3.ownsRow w.heap.size 98 2 (.slice (some ⟨w.heap.size + 1, 0, none⟩) n n) n cs :=
    ⟨hcl, .inr ⟨w.heap.size + 1, n, cs.toArray, rfl, by omega, hg3, Nat.le_refl _, by unfold maxLen; omega, by rw [List.size_toArray]; exact hcl, by rw [← hcl]; simp⟩⟩
  have hBw : Below w.heap.size w w3 := hB2.trans (hB3.mono (by omega))
  have hz3 : w.heap.size + 1 < w3.heap.size := (Array.getElem?_eq_some_iff.1 hg3).1
  clear hsrc hg3 hm2 hx2 hx3 hB3 hB2 hc1 hcl
  obtain ⟨f, hf⟩ : ∃ f, f = (Tr.cut32 (nm x)).1 := ⟨_, rfl⟩
  obtain ⟨y, hy⟩ : ∃ y, y = (Tr.cut32 (nm x)).2.1 := ⟨_, rfl⟩
  rw [← hf, ← hy] at hnm
  have HFY : Aside (f = (Tr.cut32 (nm x)).1 ∧ y = (Tr.cut32 (nm x)).2.1) := ⟨hf, hy⟩
  clear hf hy hc hss hxu
  have ha1 : (⟨#[62]⟩ : ByteArray) ++ S (enc (wr x.t)) = S (62 :: enc (wr x.t)) := S_add8 [62] (enc (wr x.t))
  have ha2 : S (62 :: enc (wr x.t)) ++ S (enc (wr x.u)) = S (enc (.tf (wr x.t) (wr x.u))) := S_add8 (62 :: enc (wr x.t)) (enc (wr x.u))
  have hS0 : (S (enc (wr x.t))).size ≤ 64 := by rw [S_size]; exact hzt
  have hS1 : (S (enc (wr x.u))).size ≤ 64 := by rw [S_size]; exact hzu
  have hS2 : (S (62 :: enc (wr x.t))).size ≤ 65 := by rw [S_size]; simp; omega
  have HFin : Aside (∀ w5 g cap, w5.ownsRow w.heap.size 98 2 (.slice (some ⟨g, 0, none⟩) (n + 1 + 1) cap) (n + 1 + 1) ((cs ++ [.string (S f), .string (S (enc (.tf (wr x.t) (wr x.u))))]) ++ [.string (S y), .string (S (enc (wr x.t)))]) → n + 1 + 1 ≤ cap ∧ w.heap.size ≤ g ∧ IsEnv w5 (.slice (some ⟨g, 0, none⟩) (n + 1 + 1) cap) ((y, wr x.t) :: (f, .tf (wr x.t) (wr x.u)) :: env)) := fun w5 g cap ho => by
    obtain ⟨o0, ⟨o1, _⟩ | ⟨g', cap', cur, o1, o2, o3, o4, o5, o6, o7⟩⟩ := ho
    · cases o1
    · cases o1
      refine ⟨o4, o2, ⟨_, cap, by rw [List.length_cons, List.length_cons, ← HE.out.1], fun _ => ⟨g, 0, rfl, (Array.getElem?_eq_some_iff.1 o3).1, fun j u hu => ?_⟩⟩⟩
      rw [ecells_cons, ecells_cons, ← HE.out.2, ← o7] at hu
      rw [Nat.zero_add, (block_cells o3).1 j]
      rw [List.getElem?_take] at hu
      split at hu
      · simpa using hu
      · cases hu
  clear HK HE
  generalize hs3 : S (enc (.tf (wr x.t) (wr x.u))) = s3 at *
  generalize S (62 :: enc (wr x.t)) = s2 at *
  generalize hsn : S (enc (wr x.t)) = sn at *
  generalize S (enc (wr x.u)) = su at *
  generalize S f = sf at *
  generalize S y = sy at *
  clear hs3 hsn hzt hzu
  have k1 : ¬ 9223372036854775807 < 1 + sn.size := by omega
  have k2 : ¬ 9223372036854775807 < s2.size + su.size := by omega
  go_upto_region 8 with (go_at_call 113; refine (hnm _).mono ?_; rintro e w4 ⟨rfl, hB4⟩)
  have hown4 := own_below8 hown hB4
  have r4 : w4.cell? ⟨w.heap.size, 4, none⟩ = some (.string x.t) := (hB4.cell (p := ⟨w.heap.size, 4, none⟩) (by show w.heap.size < _; omega)).trans p4
  have r5 : w4.cell? ⟨w.heap.size, 5, none⟩ = some (.string x.u) := (hB4.cell (p := ⟨w.heap.size, 5, none⟩) (by show w.heap.size < _; omega)).trans p5
  have hB5 : Below w.heap.size w w4 := hBw.trans (hB4.mono hBw.size)
  have hz4 := hB4.size
  clear hown hB4 p3 p4 p5 p0 hBw hnm
  have HS : ∀ W, w4.drew.grownBy W (some (w.heap.size + 1)) → W.cell? ⟨w.heap.size, 4, none⟩ = some (.string x.t) ∧ W.cell? ⟨w.heap.size, 5, none⟩ = some (.string x.u) := fun W hg => ⟨hg.cell r4 (by simp), hg.cell r5 (by simp)⟩
  go_region_held3 (fun W => W.cell? ⟨w.heap.size, 4, none⟩ = some (.string x.t) ∧ W.cell? ⟨w.heap.size, 5, none⟩ = some (.string x.u)) (first | go_keep | exact HS _ (grownBy_alloc_pre hg2)) (first | (refine step_append_lies _ (by rfl) _ _ _ (by rfl) w.heap.size 98 i0 (.agg #[.string ⟨#[]⟩, .string ⟨#[]⟩]) 2 32 tyBinds hi hz0 hz1 hz2 rfl (by decide) (.slice (some ⟨w.heap.size + 1, 0, none⟩) n n) _ _ (by rfl) (World.ownsRow.alloc (w := w4.drew) hown4 _) ⟨w4.heap.size, 0, none⟩ 1 1 [.string sf, .string s3] (by rfl) rfl (cells_list_new w4.drew [.string sf, .string s3] 98) (fun u hu => by simp at hu; rcases hu with rfl | rfl <;> rfl) (by omega) (by unfold maxLen; omega) (by omega) (by simp; omega) (w4.heap.size + 1) (by simp) ?_; intro g2 cap2 w2 hown2 hg2 hat hlt) | (go_at_call 89; refine (hnt _).mono ?_; rintro e w9 ⟨rfl, hw9⟩; replace hw9 := hw9.symm; subst hw9) | (go_at_call 89; refine (hnu _).mono ?_; rintro e w9 ⟨rfl, hw9⟩; replace hw9 := hw9.symm; subst hw9))
  all_goals
    have hg3 : w4.grownBy w2 (some (w.heap.size + 1)) := grownBy_alloc_pre (show (w4.alloc _).grownBy w2 (some (w.heap.size + 1)) from ⟨hg2.os, hg2.tape, hg2.output, hg2.size, hg2.block⟩)
    have hB6 : Below w.heap.size w w2 := hB5.grown hg3 (by omega) (fun q e => by cases e; omega)
    have u4 := (HS w2 ⟨hg3.os, hg3.tape, hg3.output, hg3.size, hg3.block⟩).1
    have hz6 := hg3.size
    have hownA : ∀ ob, (w2.alloc ob).ownsRow w.heap.size 98 2 (.slice (some ⟨g2, 0, none⟩) (n + 1) cap2) (n + 1) (cs ++ [.string sf, .string s3]) := fun ob => hown2.alloc _
    have hnews := cells_list_new w2 [.string sy, .string sn] 98
    have hge2 : w.heap.size ≤ g2 := (hown2.lt g2 rfl).1
    clear hown4 r4 r5 hB5 hg2 hat hown2 HS hg3
    go_upto_region 13 with (first | (go_at_call 89; refine (hnt _).mono ?_; rintro e w9 ⟨rfl, hw9⟩; replace hw9 := hw9.symm; subst hw9) | (at_builtin; go_must (refine wpList_append_own _ rfl _ _ 96 rfl w.heap.size 98 i0 _ 2 32 tyBinds hi hz0 hz1 hz2 rfl (by decide) (.slice (some ⟨g2, 0, none⟩) (n + 1) cap2) _ _ rfl (hownA _) ⟨w2.heap.size, 0, none⟩ 1 1 [.string sy, .string sn] rfl rfl hnews (by intro u hu; simp at hu; rcases hu with rfl | rfl <;> rfl) (by unfold maxLen; omega) (by omega) (by simp; omega) ?_); intro v5 w5 hown5 hg5 _))
    obtain ⟨g5, c5, rfl⟩ : ∃ g5 c5, v5 = .slice (some ⟨g5, 0, none⟩) (n + 1 + 1) c5 := by
      obtain ⟨_, ⟨_, h⟩ | ⟨g5, c5, _, h, _⟩⟩ := hown5
      · omega
      · exact ⟨g5, c5, h⟩
    obtain ⟨f1, f2, f3⟩ := HFin.out w5 g5 c5 hown5
    have hB7 : Below w.heap.size w w5 := (balloc hB6 _).grown hg5 (by simp; omega) (fun q e => by cases e; exact hge2)
    clear hown5 hg5 hnews hownA HFin hB6
    go_wp2_with fail
    go_ret
    exact ⟨g5, c5, rfl, f1, f2, by rw [← HFY.out.1, ← HFY.out.2]; exact f3, hB7⟩
end Go.Proofs.YthihnkgjkmaplaaGreatDoor
namespace Go.Proofs.YthihnkgjkmaplaaGreatDoor
open Go.RowKit Ck
open T3.Tp (Ty enc cns met)
open Tr (T Nd nm)
set_option maxRecDepth 100000
set_option linter.unusedSimpArgs false
set_option linter.unusedVariables false

set_option maxHeartbeats 4000000 in
theorem inner_let (w : World) (cb : Nat) (x : Tr.Nd) (k : Int) (v : Value) (env : Env) (hl : env.length ≤ 5000) (hv : IsEnv w v env) (hκ : x.kind = 8) (hk1 : k = 1) (hxt : x.t = ⟨#[]⟩ ∨ x.t = S (enc (wr x.t))) :
    Calls Tryz.prog 92 #[.pointer (some ⟨cb, 0, none⟩), .agg #[.int .i8 x.kind, .int .i64 x.kids, .int .i64 x.n, .string x.s, .string x.t, .string x.u, .int .i64 x.ln, .int .i64 x.co], .int .i64 k, v] w fun e w' => ∃ g c, e = .returned (.slice (some ⟨g, 0, none⟩) (env.length + 1) c) ∧ env.length + 1 ≤ c ∧ w.heap.size ≤ g ∧ IsEnv w' (.slice (some ⟨g, 0, none⟩) (env.length + 1) c) ((nm x, wr x.t) :: env) ∧ Below w.heap.size w w' := by
  obtain ⟨i0, hi, hz0, hz1, hz2⟩ := info_parts infoB
  obtain ⟨a, c, rfl, hv⟩ := hv
  have hmk := make_env env.length hl
  obtain ⟨n, hn⟩ : ∃ n, n = env.length := ⟨_, rfl⟩
  obtain ⟨cs, hcs⟩ : ∃ cs, cs = ecells env := ⟨_, rfl⟩
  have hcl : cs.length = n * 2 := by rw [hcs, hn]; exact ecells_len env
  have hc1 : ∀ v ∈ cs, v.oneCell' = true := by rw [hcs]; exact ecells_one env
  have HE : Aside (n = env.length ∧ cs = ecells env) := ⟨hn, hcs⟩
  have hsrc : 0 < n → ∃ b o, a = some ⟨b, o, none⟩ ∧ b < w.heap.size ∧ ∀ j u, cs[j]? = some u → w.cell? ⟨b, o + j, none⟩ = some u := by
    intro h0
    rw [hcs]
    exact hv (fun e => by rw [e] at hn; simp at hn; omega)
  rw [← hn] at hmk
  show Calls _ _ #[_, _, _, .slice a env.length c] _ _
  rw [← hn]
  have hnl : n ≤ 5000 := by rw [hn]; exact hl
  clear hv hn hcs hl
  obtain ⟨W1, hW1⟩ : ∃ W1, W1 = w.alloc (.cells #[.int .i8 x.kind, .int .i64 x.kids, .int .i64 x.n, .string x.s, .string x.t, .string x.u, .int .i64 x.ln, .int .i64 x.co] 64) := ⟨_, rfl⟩
  obtain ⟨W2, hW2⟩ : ∃ W2, W2 = W1.alloc (.cells (madeCells #[.string ⟨#[]⟩, .string ⟨#[]⟩] (n * 2)) 98) := ⟨_, rfl⟩
  have z1 : W1.heap.size = w.heap.size + 1 := by rw [hW1]; simp
  have hB2 : Below w.heap.size w W2 := by rw [hW2, hW1]; exact ((Below.refl _ _).alloc (Nat.le_refl _) _).alloc (by simp) _
  have hx2 : W2.heap[w.heap.size]? = some (.cells #[.int .i8 x.kind, .int .i64 x.kids, .int .i64 x.n, .string x.s, .string x.t, .string x.u, .int .i64 x.ln, .int .i64 x.co] 64) := by rw [hW2, hW1]; exact (Below.heap_alloc _ _ _ (by simp)).trans (heap_alloc_new _ _)
  have hm2 : W2.heap[w.heap.size + 1]? = some (.cells (madeCells #[.string ⟨#[]⟩, .string ⟨#[]⟩] (n * 2)).toList.toArray 98 (0, 0)) := by rw [hW2, ← z1]; simpa using heap_alloc_new W1 _
  have HK : Aside (x.kind = 8) := hκ
  subst hk1
  have hnt := fun w => knote_any hxt w
  have HZ1 : Aside (W1.heap.size = w.heap.size + 1) := z1
  clear hκ hxt z1
  go_enter Tryz.func92, Tryz.ntmps92
  go_upto_region 2 with fail
  rw [← hW1]
  rw [← hW2]
  clear hmk hW1 hW2
  obtain ⟨w3, hrun, hg3, hB3⟩ := copy_env W2 (w.heap.size + 1) n c a _ cs hm2 hcl (by simp [size_madeCells]) hc1 (fun h0 => by
    obtain ⟨b, o, rfl, hb, hc⟩ := hsrc h0
    exact ⟨b, o, rfl, fun j u hu => (hB2.cell (p := ⟨b, o + j, none⟩) hb).trans (hc j u hu)⟩)
  have hx3 := (hB3.block _ (by omega)).trans hx2
  have p0 : w3.cell? ⟨w.heap.size, 0, none⟩ = some (.int .i8 x.kind) := (block_cells hx3).1 0
  rw [HK.out] at p0
  have p3 : w3.cell? ⟨w.heap.size, 3, none⟩ = some (.string x.s) := (block_cells hx3).1 3
  have p4 : w3.cell? ⟨w.heap.size, 4, none⟩ = some (.string x.t) := (block_cells hx3).1 4
  have p5 : w3.cell? ⟨w.heap.size, 5, none⟩ = some (.string x.u) := (block_cells hx3).1 5
  have hown : w3.ownsRow w.heap.size 98 2 (.slice (some ⟨w.heap.size + 1, 0, none⟩) n n) n cs :=
    ⟨hcl, .inr ⟨w.heap.size + 1, n, cs.toArray, rfl, by omega, hg3, Nat.le_refl _, by unfold maxLen; omega, by rw [List.size_toArray]; exact hcl, by rw [← hcl]; simp⟩⟩
  have hBw : Below w.heap.size w w3 := hB2.trans (hB3.mono (by omega))
  have hz3 : w.heap.size + 1 < w3.heap.size := (Array.getElem?_eq_some_iff.1 hg3).1
  clear hsrc hg3 hm2 hx2 hx3 hB3 hB2 hc1 hcl
  have HFin : Aside (∀ w4 g cap (p : List UInt8 × Ty), w4.ownsRow w.heap.size 98 2 (.slice (some ⟨g, 0, none⟩) (n + 1) cap) (n + 1) (cs ++ [.string (S p.1), .string (S (enc p.2))]) → w3.grownBy w4 (some (w.heap.size + 1)) → n + 1 ≤ cap ∧ w.heap.size ≤ g ∧ IsEnv w4 (.slice (some ⟨g, 0, none⟩) (n + 1) cap) (p :: env) ∧ Below w.heap.size w w4) := fun w4 g cap p ho hg => by
    obtain ⟨o0, ⟨o1, _⟩ | ⟨g', cap', cur, o1, o2, o3, o4, o5, o6, o7⟩⟩ := ho
    · cases o1
    · cases o1
      refine ⟨o4, o2, ⟨_, cap, by rw [List.length_cons, ← HE.out.1], fun _ => ⟨g, 0, rfl, (Array.getElem?_eq_some_iff.1 o3).1, fun j u hu => ?_⟩⟩, ?_⟩
      · rw [ecells_cons, ← HE.out.2, ← o7] at hu
        rw [Nat.zero_add, (block_cells o3).1 j]
        rw [List.getElem?_take] at hu
        split at hu
        · simpa using hu
        · cases hu
      · exact hBw.grown hg (by omega) (fun q e => by cases e; omega)
  have HNM : Aside (S (nm x) = x.s) := by show _ = _; unfold nm; cases x.s; simp [S]
  have HS : ∀ W, w3.drew.grownBy W (some (w.heap.size + 1)) → W.cell? ⟨w.heap.size, 3, none⟩ = some (.string x.s) ∧ W.cell? ⟨w.heap.size, 4, none⟩ = some (.string x.t) := fun W hg => ⟨hg.cell p3 (by simp), hg.cell p4 (by simp)⟩
  clear HK HE
  generalize hsn : S (enc (wr x.t)) = sn at *
  go_upto_region 12 with fail
  go_region_held3 (fun W => W.cell? ⟨w.heap.size, 3, none⟩ = some (.string x.s) ∧ W.cell? ⟨w.heap.size, 4, none⟩ = some (.string x.t)) (first | go_keep | exact HS _ (grownBy_alloc_pre hg2)) (first | (refine step_append_lies _ (by rfl) _ _ _ (by rfl) w.heap.size 98 i0 (.agg #[.string ⟨#[]⟩, .string ⟨#[]⟩]) 2 32 tyBinds hi hz0 hz1 hz2 rfl (by decide) (.slice (some ⟨w.heap.size + 1, 0, none⟩) n n) _ _ (by rfl) (World.ownsRow.alloc (w := w3.drew) hown _) ⟨w3.heap.size, 0, none⟩ 1 1 [.string x.s, .string sn] (by rfl) rfl (cells_list_new w3.drew [.string x.s, .string sn] 98) (fun u hu => by simp at hu; rcases hu with rfl | rfl <;> rfl) (by omega) (by unfold maxLen; omega) (by omega) (by simp; omega) (w3.heap.size + 1) (by simp) ?_; intro g2 cap2 w2 hown2 hg2 hat hlt) | (go_at_call 89; refine (hnt _).mono ?_; rintro e w9 ⟨rfl, hw9⟩; replace hw9 := hw9.symm; subst hw9))
  all_goals
    rw [← HNM.out, ← hsn] at hown2
    obtain ⟨f1, f2, f3, f4⟩ := HFin.out w2 g2 cap2 (nm x, wr x.t) hown2 (grownBy_alloc_pre (show (w3.alloc _).grownBy w2 (some (w.heap.size + 1)) from ⟨hg2.os, hg2.tape, hg2.output, hg2.size, hg2.block⟩))
    clear hown2 hg2 hat hown HFin
    go_wp2_with fail
    go_ret
    exact ⟨g2, cap2, rfl, f1, f2, f3, f4⟩
end Go.Proofs.YthihnkgjkmaplaaGreatDoor
namespace Go.Proofs.YthihnkgjkmaplaaGreatDoor
open Go.RowKit Ck
open T3.Tp (Ty enc cns met)
open Tr (T Nd nm)
set_option maxRecDepth 100000
set_option linter.unusedSimpArgs false
set_option linter.unusedVariables false

/-- An environment that inner answers: it lies in new memory. -/
def InEnd (w : World) (env : Env) (e : Ending) (w' : World) : Prop := ∃ g c, e = .returned (.slice (some ⟨g, 0, none⟩) env.length c) ∧ env.length ≤ c ∧ w.heap.size ≤ g ∧ IsEnv w' (.slice (some ⟨g, 0, none⟩) env.length c) env ∧ Below w.heap.size w w'
theorem kinner_any (w : World) (cb : Nat) (x : Tr.Nd) (κ : Nat) (j : Nat) (v : Value) (env : Env) (hN : Nod x κ) (hss : x.s.size ≤ maxLen) (hc : x.kind = 6 → (Tr.cut32 (nm x)).2.2 = true) (hl : env.length ≤ 5000) (hv : IsEnv w v env) :
    Calls Tryz.prog 92 #[.pointer (some ⟨cb, 0, none⟩), .agg (ndA8 x), .int .i64 (j : Int), v] w (InEnd w (Ck.inner x j env)) := by
  have hk := hN.kind
  by_cases h5 : x.kind = 5
  · obtain ⟨t1, t2⟩ := note8 (hN.t (by omega))
    have := inner_fn w cb x (j : Int) v env hl hv h5 t1
    rw [show Ck.inner x j env = (nm x, wr x.t) :: env by unfold Ck.inner; rw [if_pos h5]]
    exact this
  by_cases h6 : x.kind = 6
  · obtain ⟨t1, t2⟩ := note8 (hN.t (by omega))
    obtain ⟨u1, u2⟩ := note8 (hN.u (by omega))
    have := inner_rec w cb x (j : Int) v env hl hv h6 u1 t2 u2 hss (hc h6) t1
    rw [show Ck.inner x j env = ((Tr.cut32 (nm x)).2.1, wr x.t) :: ((Tr.cut32 (nm x)).1, .tf (wr x.t) (wr x.u)) :: env by unfold Ck.inner; rw [if_neg h5, if_pos h6]]
    exact this
  by_cases h8 : x.kind = 8 ∧ j = 1
  · obtain ⟨t1, t2⟩ := note8 (hN.t (by omega))
    have := inner_let w cb x (j : Int) v env hl hv h8.1 (by rw [h8.2]; rfl) t1
    rw [show Ck.inner x j env = (nm x, wr x.t) :: env by unfold Ck.inner; rw [if_neg h5, if_neg h6, if_pos h8]]
    exact this
  · have := inner_plain w cb x (j : Int) v env hl hv h5 h6 (by
      by_cases h : x.kind = 8
      · right; intro e; exact h8 ⟨h, by omega⟩
      · exact .inl h)
    rw [show Ck.inner x j env = env by unfold Ck.inner; rw [if_neg h5, if_neg h6, if_neg h8]]
    exact this
end Go.Proofs.YthihnkgjkmaplaaGreatDoor
