/- The call of TextCut: it returns true, whatever the source and the cut. -/
import Derived.Test.YtjddbiabkobfoaaDoorWordsW
import Derived.Test.YtjddbiabkobfoaaDoorQuote
import Derived.Test.YtjddbiabkobfoaaDoorCutSpec
namespace Go.Proofs.YtjddbiabkobfoaaDoor
open Go.RowKit

theorem src_of_own {W : World} {base : Nat} {v : Value} {bs : List UInt8} (h : W.ownsRow base 5 1 v bs.length (bcells bs)) : IsSrc W v bs := by
  by_cases h0 : 0 < bs.length
  · obtain ⟨g, cap, rfl, hcap, _, hc⟩ := own_cells h h0
    have hlt : g < W.heap.size := (h.lt g rfl).2
    refine Or.inr ⟨g, 0, cap, rfl, hcap, hlt, fun j hj => ?_⟩
    rw [Nat.zero_add, hc j (by omega)]
    unfold bcells Tx.B
    simp [List.getElem?_eq_getElem hj]
  · obtain rfl : bs = [] := List.length_eq_zero_iff.1 (by omega)
    obtain ⟨a, c, rfl⟩ := own_len h
    exact Or.inl ⟨rfl, _, _, rfl⟩

set_option maxHeartbeats 1000000 in
theorem copy_some (w : World) (ad : Addr) (cap : Nat) (bs : List UInt8) (hl : bs.length ≤ 1000000) (hc : ∀ j u, (bcells bs)[j]? = some u → w.cell? (ad.add j) = some u) :
    Calls Tryd.prog 22 #[.slice (some ad) bs.length cap] w fun e w' => ∃ v, e = .returned v ∧ IsSrc w' v bs ∧ Below w.heap.size w w' := by
  obtain ⟨i0, hi, hz0, hz1, hz2⟩ := info_parts info5
  go_enter Tryd.func22, Tryd.ntmps22
  go_wp2_with (at_builtin; go_must (refine wpList_append_own _ rfl _ _ 22 rfl w.heap.size 5 i0 (.int .u8 0) 1 1 ty22 hi hz0 hz1 hz2 rfl (by decide) (.slice none 0 0) 0 [] rfl (World.ownsRow_nil _ _ _ _) ad bs.length cap (bcells bs) rfl (by rw [bcells_length]; omega) hc (bytes_one _) (by unfold maxLen; omega) (by omega) (Nat.le_refl _) ?_); intro v2 w2 hown2 hg2 _)
  go_ret
  refine ⟨v2, rfl, src_of_own (base := w.heap.size) (by simpa using hown2), (Below.refl _ _).grown hg2 (Nat.le_refl _) (fun x e => by cases e)⟩

set_option maxHeartbeats 1000000 in
theorem copy_nil (w : World) (cap : Nat) :
    Calls Tryd.prog 22 #[.slice none 0 cap] w fun e w' => ∃ v, e = .returned v ∧ IsSrc w' v [] ∧ Below w.heap.size w w' := by
  go_enter Tryd.func22, Tryd.ntmps22
  go_wp2_with fail
  go_ret
  exact ⟨_, rfl, Or.inl ⟨rfl, _, _, rfl⟩, Below.refl _ _⟩

theorem copy_take (w : World) (a : Option Addr) (cap : Nat) (bs : List UInt8) (m : Nat) (hs : IsSrc w (.slice a bs.length cap) bs) (hm : m ≤ bs.length) (hl : bs.length ≤ 1000000) :
    Calls Tryd.prog 22 #[.slice a m cap] w fun e w' => ∃ v, e = .returned v ∧ IsSrc w' v (bs.take m) ∧ Below w.heap.size w w' := by
  have hlen := Tx.len_take hm
  cases a with
  | none =>
    have h0 : bs = [] := by
      rcases hs with ⟨h, _⟩ | ⟨b, off, c, h, _⟩
      · exact h
      · cases h
    subst h0
    obtain rfl : m = 0 := by simpa using hm
    exact copy_nil w cap
  | some ad =>
    have := copy_some w ad cap (bs.take m) (by omega) (fun j u hj => by
      have hjl : j < m := by
        have := (List.getElem?_eq_some_iff.1 hj).1
        rw [bcells_length, hlen] at this
        exact this
      rcases hs with ⟨h, _⟩ | ⟨b, off, c, h, _, _, hc⟩
      · rw [h] at hm; simp at hm; omega
      · cases h
        have e := hc j (by omega)
        have hu : u = .int .u8 (Tx.B bs j) := by
          unfold bcells at hj
          rw [List.getElem?_map, List.getElem?_take, if_pos hjl, List.getElem?_eq_getElem (by omega)] at hj
          simp at hj
          rw [← hj]
          unfold Tx.B
          rw [List.getElem?_eq_getElem (by omega)]
          rfl
        rw [hu]
        by_cases h0 : j = 0
        · subst h0; simpa [Addr.add] using e
        · simpa [Addr.add, h0] using e)
    rwa [hlen] at this

/-- Token k of a row. -/
theorem tkCells_at : ∀ (bs : List UInt8) (l : List (Tx.Tk × Nat)) (k : Nat) (h : k < l.length) (j : Nat), j < 5 → (tkCells bs l)[k * 5 + j]? = (tokCells (l[k]'h).1.kind (l[k]'h).1.n (l[k]'h).1.s ((Tx.lnTo bs (l[k]'h).2 : Int) + 1) (((l[k]'h).2 : Int) - (Tx.stTo bs (l[k]'h).2 : Int) + 1)).toList[j]?
  | bs, [], k => fun h => by simp at h
  | bs, d :: cs, 0 => fun h j hj => by
    have : tkCells bs (d :: cs) = (tokCells d.1.kind d.1.n d.1.s ((Tx.lnTo bs d.2 : Int) + 1) ((d.2 : Int) - (Tx.stTo bs d.2 : Int) + 1)).toList ++ tkCells bs cs := by simp [tkCells]
    rw [this, Nat.zero_mul, Nat.zero_add, List.getElem?_append_left (by simpa using hj)]
    rfl
  | bs, d :: cs, k + 1 => fun h j hj => by
    have : tkCells bs (d :: cs) = (tokCells d.1.kind d.1.n d.1.s ((Tx.lnTo bs d.2 : Int) + 1) ((d.2 : Int) - (Tx.stTo bs d.2 : Int) + 1)).toList ++ tkCells bs cs := by simp [tkCells]
    rw [this, List.getElem?_append_right (by simp; omega)]
    have ih := tkCells_at bs cs k (by simpa using h) j hj
    have e : (k + 1) * 5 + j - (tokCells d.1.kind d.1.n d.1.s ((Tx.lnTo bs d.2 : Int) + 1) ((d.2 : Int) - (Tx.stTo bs d.2 : Int) + 1)).toList.length = k * 5 + j := by simp; omega
    rw [e, ih]
    rfl

/-- No more tokens than bytes. -/
theorem toks_count_aux (bs : List UInt8) : ∀ (f k : Nat) (l : List (Tx.Tk × Nat)), k ≤ bs.length → Tx.toks bs f k = .ok l → l.length + k ≤ bs.length
  | 0, k, l => fun hk h => by simp [Tx.toks] at h; subst h; simpa using hk
  | f + 1, k, l => fun hk0 h => by
    by_cases hk : k < bs.length
    · by_cases h35 : (Tx.B bs k == 35) = true
      · rw [Tx.toks_remark hk h35] at h
        have a1 := Tx.upTo_le Tx.notTen bs k
        have a2 := Tx.upTo_le Tx.blankB bs (Tx.upTo Tx.notTen bs k)
        have := toks_count_aux bs f _ l (Tx.upTo_len _ (Tx.upTo_len _ hk0)) h
        omega
      · have h35' : (Tx.B bs k == 35) = false := by simpa using h35
        by_cases hb : Tx.blankB (Tx.B bs k) = true
        · rw [Tx.toks_blank hk h35' hb] at h
          have a1 := Tx.upTo_le Tx.blankB bs k
          have := toks_count_aux bs f _ l (Tx.upTo_len _ hk0) h
          omega
        · have hb' : Tx.blankB (Tx.B bs k) = false := by simpa using hb
          cases h1 : Tx.one bs k with
          | error e => rw [Tx.toks_err hk h35' hb' h1] at h; cases h
          | ok r =>
            obtain ⟨t, j⟩ := r
            have hj := Tx.one_ok hk h1
            have h2 := Tx.toks_ok (f := f) [] hk h35' hb' h1
            rw [h, Tx.ahead_nil] at h2
            cases h3 : Tx.toks bs f j with
            | error e => rw [h3] at h2; simp [Tx.ahead] at h2
            | ok l' =>
              rw [h3] at h2
              simp [Tx.ahead] at h2
              subst h2
              have := toks_count_aux bs f j l' hj.2.1 h3
              simp
              omega
    · rw [Tx.toks_end hk] at h
      cases h
      simpa using hk0
theorem toks_count (bs : List UInt8) (f k : Nat) (l : List (Tx.Tk × Nat)) (h : Tx.toks bs f k = .ok l) (hk : k ≤ bs.length) : l.length ≤ bs.length := by
  have := toks_count_aux bs f k l hk h
  omega

set_option maxRecDepth 100000 in
set_option maxHeartbeats 1000000 in
theorem textCut_big (w : World) (hv : Vars w) (h2 : 2 ≤ w.heap.size) (a : Option Addr) (len cap : Nat) (n : Int) (hl : 16384 < len) (hm : len ≤ maxLen) :
    Calls Tryd.prog 5 #[.slice a len cap, .int .i64 n] w fun e w' => e = .returned (.bool true) ∧ Below w.heap.size w w' := by
  have hl' : (16384 : Int) < (len : Int) := by omega
  have hml : len ≤ 9223372036854775807 := by unfold maxLen at hm; omega
  go_enter Tryd.func5, Tryd.ntmps5
  go_wp2_with (go_at_call 9; refine (works_any _ hv h2).mono ?_; rintro e w1 ⟨rfl, hB1⟩)
  go_ret
  exact ⟨rfl, hB1⟩

set_option maxRecDepth 100000 in
set_option maxHeartbeats 2000000 in
theorem textCut_small (w : World) (hv : Vars w) (h2 : 2 ≤ w.heap.size) (a : Option Addr) (cap : Nat) (bs : List UInt8) (hs : IsSrc w (.slice a bs.length cap) bs) (hcap : bs.length ≤ cap) (n : Int) (hl : bs.length ≤ 16384) :
    Calls Tryd.prog 5 #[.slice a bs.length cap, .int .i64 n] w fun e w' => e = .returned (.bool true) ∧ Below w.heap.size w w' := by
  have hl' : decide ((16384 : Int) < (bs.length : Int)) = false := by simp; omega
  go_enter Tryd.func5, Tryd.ntmps5
  go_wp2_with (go_at_call 9; refine (works_any _ hv h2).mono ?_; rintro e w1 ⟨rfl, hB1⟩)
  have hs1 := hs.kept hB1
  refine (tokens_src w1 _ bs hs1 (by omega) (hv.below hB1) (Nat.le_trans h2 hB1.size)).mono ?_
  rintro e w2 ⟨hB2, hE⟩
  have hB02 := hB1.trans (hB2.mono hB1.size)
  cases hall : Tx.all bs with
  | error x =>
    obtain ⟨er, p⟩ := x
    rw [hall] at hE
    obtain rfl : e = _ := hE
    have her := (toks_error _ _ _ er p hall).1
    have her0 : (er != 0) = true := by rcases her with rfl | rfl | rfl | rfl <;> rfl
    clear hall her
    go_wp2_with fail
    go_ret
    exact ⟨rfl, hB02.alloc hB02.size _⟩
  | ok l =>
    rw [hall] at hE
    obtain ⟨v2, rfl, hown⟩ := hE
    obtain ⟨la, lc, rfl⟩ := own_len hown
    by_cases hn : 0 ≤ n ∧ n ≤ bs.length
    · obtain ⟨m, rfl⟩ := Int.eq_ofNat_of_zero_le hn.1
      have hm : m ≤ bs.length := by omega
      have k1 : decide ((m : Int) < 0) = false := by simp
      have k2 : decide ((bs.length : Int) < (m : Int)) = false := by simp; omega
      have k3 : (m : Int) ≤ (cap : Int) := by omega
      have k4 : (0 : Int) ≤ (m : Int) := by omega
      clear hn
      go_wp2_with fail
      have hB3 := hB02.alloc hB02.size (.cells #[.int .i64 0, .int .i64 0] 29)
      have hs3 := hs.kept hB3
      refine (copy_take _ a cap bs m hs3 hm (by omega)).mono ?_
      rintro e w4 ⟨v4, rfl, hs4, hB4⟩
      have hB04 := hB3.trans (hB4.mono hB3.size)
      go_wp2_with fail
      refine (tokens_src w4 v4 (bs.take m) hs4 (by rw [Tx.len_take hm]; omega) (hv.below hB04) (Nat.le_trans h2 hB04.size)).mono ?_
      rintro e w5 ⟨hB5, hE5⟩
      have hB05 := hB04.trans (hB5.mono hB04.size)
      have hcut := Tx.all_take hm hall
      have hl0 : ∀ j, j < l.length * 5 → ∃ g, la = some ⟨g, 0, none⟩ ∧ g < w5.heap.size ∧ w5.cell? ⟨g, j, none⟩ = (tkCells bs l)[j]? := fun j hj => by
        obtain ⟨g, cap', he, _, _, hc⟩ := own_cells hown (by omega)
        cases he
        have hg2 : g < w2.heap.size := (hown.lt g rfl).2
        have hB25 : Below w2.heap.size w2 w5 := (((Below.refl _ w2).alloc (Nat.le_refl _) _).trans (hB4.mono (by simp))).trans (hB5.mono (by have := hB4.size; simp at this; omega))
        exact ⟨g, rfl, Nat.lt_of_lt_of_le hg2 hB25.size, (hB25.cell (p := ⟨g, j, none⟩) hg2).trans (hc j hj)⟩
      have hll : l.length ≤ bs.length := toks_count bs _ _ l hall (Nat.zero_le _)
      clear hs hs1 hs3 hs4 hown hB1 hB2 hB02 hB3 hB4 hB04
      cases hall2 : Tx.all (bs.take m) with
      | error x =>
        obtain ⟨er, p⟩ := x
        rw [hall2] at hE5 hcut
        obtain rfl : e = _ := hE5
        have hpm : p < m := by have := (toks_error _ _ _ er p hall2).2; rwa [Tx.len_take hm] at this
        obtain ⟨mm, hmm, tt, hlm, rfl⟩ : ∃ mm, ∃ _ : mm < l.length, ∃ t, l[mm]? = some (t, p) ∧ er = 14 := by
          obtain ⟨mm, _, hr | ⟨t, p', hp', hr | ⟨t', hr⟩⟩⟩ := hcut
          · cases hr
          · cases hr; exact ⟨mm, (List.getElem?_eq_some_iff.1 hp').1, t, hp', rfl⟩
          · cases hr
        have hlt := Tx.lnTo_take bs m p (by omega)
        rw [hlt.1, hlt.2]
        have hlmm : (l[mm]'hmm).2 = p := by rw [List.getElem?_eq_getElem hmm] at hlm; cases h : l[mm]'hmm; rw [h] at hlm; cases hlm; rfl
        have hP : ∀ k (h : k < l.length), ∃ g, la = some ⟨g, 0, none⟩ ∧ g < w5.heap.size ∧ w5.cell? ⟨g, k * 5 + 3, none⟩ = some (.int .i64 ((Tx.lnTo bs (l[k]'h).2 : Int) + 1)) ∧ w5.cell? ⟨g, k * 5 + 4, none⟩ = some (.int .i64 (((l[k]'h).2 : Int) - (Tx.stTo bs (l[k]'h).2 : Int) + 1)) := fun k h => by
          obtain ⟨g, hg, hgl, c3⟩ := hl0 (k * 5 + 3) (by omega)
          obtain ⟨g', hg', _, c4⟩ := hl0 (k * 5 + 4) (by omega)
          rw [hg] at hg'
          cases hg'
          exact ⟨g, hg, hgl, c3.trans (tkCells_at bs l k h 3 (by omega)), c4.trans (tkCells_at bs l k h 4 (by omega))⟩
        have hPm := hP mm hmm
        rw [hlmm] at hPm
        generalize (Tx.lnTo bs p : Int) + 1 = P at *
        generalize (p : Int) - (Tx.stTo bs p : Int) + 1 = Q at *
        obtain ⟨g, rfl, hgl, m3, m4⟩ := hPm
        have hl00 : (0 : Int) < (l.length : Int) := by omega
        clear hl0 hcut hall hall2 hlt hlm hlmm
        go_upto_region 9 with fail
        have hw6 : Below w.heap.size w (w5.alloc (.cells #[.int .i64 P, .int .i64 Q] 29)) := hB05.alloc hB05.size _
        have q0 : (w5.alloc (.cells #[.int .i64 P, .int .i64 Q] 29)).cell? ⟨w5.heap.size, 0, none⟩ = some (.int .i64 P) := (block_cells (heap_alloc_new w5 _)).1 0
        have q1 : (w5.alloc (.cells #[.int .i64 P, .int .i64 Q] 29)).cell? ⟨w5.heap.size, 1, none⟩ = some (.int .i64 Q) := (block_cells (heap_alloc_new w5 _)).1 1
        have up : ∀ {j : Nat} {u : Value}, w5.cell? ⟨g, j, none⟩ = some u → (w5.alloc (.cells #[.int .i64 P, .int .i64 Q] 29)).cell? ⟨g, j, none⟩ = some u := fun h => (World.grownBy_alloc _ _ none).cell h (by simp)
        generalize w5.alloc (.cells #[.int .i64 P, .int .i64 Q] 29) = w6 at *
        refine wp_loop_rounds 1 ?_
        rw [rounds_succ]
        go_wp2_with fail
        go_quiet (fail)
        go_wp2_with fail
        go_loopg [12] l.length (fun gg t wx => ∃ (k x : Nat), k + gg = l.length ∧ k ≤ mm ∧ t = .int .i64 k ∧ wx = w6.drewN x)
        case atStart => exact ⟨0, _, by omega, by omega, rfl, rfl⟩
        case round =>
          obtain ⟨k, x, hkg, hkm, rfl, rfl⟩ := hrel
          have hkl : k < l.length := by omega
          have hk' : (k : Int) < (l.length : Int) := by omega
          have hk0 : (0 : Int) ≤ (k : Int) := by omega
          have fin : Below w.heap.size w (w6.drewN x) := ⟨hw6.os, hw6.tape, hw6.output, hw6.size, hw6.block⟩
          by_cases hkm' : k = mm
          · subst hkm'
            have n3 := up m3
            have n4 := up m4
            clear hP m3 m4
            go_wp2_with fail
            go_quiet (fail)
            go_wp2_with fail
            go_ret
            exact ⟨rfl, hw6.os, hw6.tape, hw6.output, hw6.size, hw6.block⟩
          · obtain ⟨g', hg', _, c3, c4⟩ := hP k hkl
            cases hg'
            have n3 := up c3
            have n4 := up c4
            clear hP c3 c4 m3 m4
            generalize (Tx.lnTo bs (l[k]'hkl).2 : Int) + 1 = A1 at *
            generalize ((l[k]'hkl).2 : Int) - (Tx.stTo bs (l[k]'hkl).2 : Int) + 1 = A2 at *
            by_cases b1 : A1 = P
            · by_cases b2 : A2 = Q
              · subst b1 b2
                go_wp2_with fail
                go_quiet (fail)
                go_wp2_with fail
                go_ret
                exact ⟨rfl, hw6.os, hw6.tape, hw6.output, hw6.size, hw6.block⟩
              · have b2' : (A2 == Q) = false := by simpa using b2
                subst b1
                clear b2
                go_wp2_with fail
                go_quiet (fail)
                go_wp2_with fail
                go_roundg (gk - 1)
                case measure => omega
                case rel => exact ⟨k + 1, _, by omega, by omega, by go_num, rfl⟩
            · have b1' : (A1 == P) = false := by simpa using b1
              clear b1
              go_wp2_with fail
              go_quiet (fail)
              go_wp2_with fail
              go_roundg (gk - 1)
              case measure => omega
              case rel => exact ⟨k + 1, _, by omega, by omega, by go_num, rfl⟩
      | ok la2 =>
        rw [hall2] at hE5 hcut
        obtain ⟨v5, rfl, hown5⟩ := hE5
        obtain ⟨lb, lbc, rfl⟩ := own_len hown5
        -- how far the two lists are the same
        obtain ⟨mm, hmm, hlen2, hsame⟩ : ∃ mm, mm ≤ l.length ∧ la2.length ≤ mm + 1 ∧ ∀ k, k < mm → la2[k]? = l[k]? := by
          obtain ⟨mm, h1, hr | ⟨t, p', hp', hr | ⟨t', hr⟩⟩⟩ := hcut
          · cases hr
            exact ⟨mm, h1, by simp; omega, fun k hk => by rw [List.getElem?_take, if_pos hk]⟩
          · cases hr
          · cases hr
            refine ⟨mm, h1, by simp; omega, fun k hk => ?_⟩
            rw [List.getElem?_append_left (by simp; omega), List.getElem?_take, if_pos hk]
        have hl2m : la2.length ≤ l.length + 1 := by omega
        have hpos2 : ∀ x ∈ la2, x.2 < m := fun x hx => by have := (toks_mem _ _ _ _ hall2 x hx).1; rwa [Tx.len_take hm] at this
        clear hcut hall hall2
        have hP : ∀ k (h : k < l.length), ∃ g, la = some ⟨g, 0, none⟩ ∧ ∀ j, j < 5 → w5.cell? ⟨g, k * 5 + j, none⟩ = (tokCells (l[k]'h).1.kind (l[k]'h).1.n (l[k]'h).1.s ((Tx.lnTo bs (l[k]'h).2 : Int) + 1) (((l[k]'h).2 : Int) - (Tx.stTo bs (l[k]'h).2 : Int) + 1)).toList[j]? := fun k h => by
          obtain ⟨g, hg, _, _⟩ := hl0 (k * 5) (by omega)
          refine ⟨g, hg, fun j hj => ?_⟩
          obtain ⟨g', hg', _, c⟩ := hl0 (k * 5 + j) (by omega)
          rw [hg] at hg'
          cases hg'
          exact c.trans (tkCells_at bs l k h j hj)
        have hP2 : ∀ k (h : k < la2.length), ∃ g, lb = some ⟨g, 0, none⟩ ∧ ∀ j, j < 5 → w5.cell? ⟨g, k * 5 + j, none⟩ = (tokCells (la2[k]'h).1.kind (la2[k]'h).1.n (la2[k]'h).1.s ((Tx.lnTo bs (la2[k]'h).2 : Int) + 1) (((la2[k]'h).2 : Int) - (Tx.stTo bs (la2[k]'h).2 : Int) + 1)).toList[j]? := fun k h => by
          obtain ⟨g, cap', he, _, _, hc⟩ := own_cells hown5 (by omega)
          cases he
          have hq := Tx.lnTo_take bs m (la2[k]'h).2 (Nat.le_of_lt (hpos2 _ (List.getElem_mem h)))
          refine ⟨g, rfl, fun j hj => ?_⟩
          rw [hc (k * 5 + j) (by omega), tkCells_at (bs.take m) la2 k h j hj, hq.1, hq.2]
        have hl2b : la2.length ≤ 16385 := by omega
        clear hl0 hown5 hpos2
        go_upto_region 9 with fail
        have hw6 : Below w.heap.size w (w5.alloc (.cells #[.int .i64 0, .int .i64 0] 29)) := hB05.alloc hB05.size _
        have up : ∀ {g j : Nat} {u : Value}, w5.cell? ⟨g, j, none⟩ = some u → (w5.alloc (.cells #[.int .i64 0, .int .i64 0] 29)).cell? ⟨g, j, none⟩ = some u := fun h => (World.grownBy_alloc _ _ none).cell h (by simp)
        generalize w5.alloc (.cells #[.int .i64 0, .int .i64 0] 29) = w6 at *
        have e1 : (la2.length : Int) ≤ (l.length : Int) + 1 := by omega
        go_loopg [12] la2.length (fun gg t wx => ∃ (k x : Nat), k + gg = la2.length ∧ k ≤ l.length ∧ t = .int .i64 k ∧ wx = w6.drewN x)
        case atStart => exact ⟨0, 0, by omega, by omega, rfl, rfl⟩
        case round =>
          obtain ⟨k, x, hkg, hkll, rfl, rfl⟩ := hrel
          have hk0 : (0 : Int) ≤ (k : Int) := by omega
          by_cases hk2 : k < la2.length
          · have hk2' : (k : Int) < (la2.length : Int) := by omega
            by_cases hkl : k < l.length
            · have hk' : (k : Int) < (l.length : Int) := by omega
              obtain ⟨g1, rfl, c1⟩ := hP k hkl
              obtain ⟨g2, rfl, c2⟩ := hP2 k hk2
              by_cases hkm : k < mm
              · have hse : la2[k]'hk2 = l[k]'hkl := by
                  have := hsame k hkm
                  rw [List.getElem?_eq_getElem hk2, List.getElem?_eq_getElem hkl] at this
                  exact Option.some.inj this
                rw [hse] at c2
                generalize l[k]'hkl = tp at *
                obtain ⟨⟨kd, nn, ss⟩, pp⟩ := tp
                simp only at c1 c2
                generalize (Tx.lnTo bs pp : Int) + 1 = A1 at *
                generalize (pp : Int) - (Tx.stTo bs pp : Int) + 1 = A2 at *
                have x0 := up (c1 0 (by omega)); have x1 := up (c1 1 (by omega)); have x2 := up (c1 2 (by omega)); have x3 := up (c1 3 (by omega)); have x4 := up (c1 4 (by omega))
                have y0 := up (c2 0 (by omega)); have y1 := up (c2 1 (by omega)); have y2 := up (c2 2 (by omega)); have y3 := up (c2 3 (by omega)); have y4 := up (c2 4 (by omega))
                simp only [Nat.add_zero] at x0 y0
                clear hP hP2 c1 c2 hsame hse
                go_wp2_with fail
                go_quiet (fail)
                go_wp2_with fail
                go_roundg (gk - 1)
                case measure => omega
                case rel => exact ⟨k + 1, _, by omega, by omega, by go_num, rfl⟩
              · have e2 : (la2.length : Int) - 1 ≤ (k : Int) := by omega
                generalize l[k]'hkl = tp at *
                generalize la2[k]'hk2 = tq at *
                obtain ⟨⟨kd, nn, ss⟩, pp⟩ := tp
                obtain ⟨⟨kd', nn', ss'⟩, pp'⟩ := tq
                simp only at c1 c2
                generalize (Tx.lnTo bs pp : Int) + 1 = A1 at *
                generalize (pp : Int) - (Tx.stTo bs pp : Int) + 1 = A2 at *
                generalize (Tx.lnTo bs pp' : Int) + 1 = A3 at *
                generalize (pp' : Int) - (Tx.stTo bs pp' : Int) + 1 = A4 at *
                have x0 := up (c1 0 (by omega)); have x1 := up (c1 1 (by omega)); have x2 := up (c1 2 (by omega)); have x3 := up (c1 3 (by omega)); have x4 := up (c1 4 (by omega))
                have y0 := up (c2 0 (by omega)); have y1 := up (c2 1 (by omega)); have y2 := up (c2 2 (by omega)); have y3 := up (c2 3 (by omega)); have y4 := up (c2 4 (by omega))
                simp only [Nat.add_zero] at x0 y0
                clear hP hP2 c1 c2 hsame
                generalize (⟨ss.toArray⟩ : ByteArray) = X at *
                generalize (⟨ss'.toArray⟩ : ByteArray) = Y at *
                cases h0 : kd' == kd
                · go_wp2_with fail
                  go_quiet (fail)
                  go_wp2_with fail
                  go_ret
                  exact ⟨rfl, hw6.os, hw6.tape, hw6.output, hw6.size, hw6.block⟩
                · cases h1 : nn' == nn
                  · go_wp2_with fail
                    go_quiet (fail)
                    go_wp2_with fail
                    go_ret
                    exact ⟨rfl, hw6.os, hw6.tape, hw6.output, hw6.size, hw6.block⟩
                  · cases h2 : Y.toList == X.toList
                    · go_wp2_with fail
                      go_quiet (fail)
                      go_wp2_with fail
                      go_ret
                      exact ⟨rfl, hw6.os, hw6.tape, hw6.output, hw6.size, hw6.block⟩
                    · cases h3 : A3 == A1
                      · go_wp2_with fail
                        go_quiet (fail)
                        go_wp2_with fail
                        go_ret
                        exact ⟨rfl, hw6.os, hw6.tape, hw6.output, hw6.size, hw6.block⟩
                      · cases h4 : A4 == A2
                        · go_wp2_with fail
                          go_quiet (fail)
                          go_wp2_with fail
                          go_ret
                          exact ⟨rfl, hw6.os, hw6.tape, hw6.output, hw6.size, hw6.block⟩
                        · go_wp2_with fail
                          go_quiet (fail)
                          go_wp2_with fail
                          go_roundg (gk - 1)
                          case measure => omega
                          case rel => exact ⟨k + 1, _, by omega, by omega, by go_num, rfl⟩
            · have hk' : decide ((k : Int) < (l.length : Int)) = false := by simp; omega
              have e2 : (la2.length : Int) - 1 ≤ (k : Int) := by omega
              clear hP hP2 hsame
              go_wp2_with fail
              go_quiet (fail)
              go_wp2_with fail
              go_ret
              exact ⟨rfl, hw6.os, hw6.tape, hw6.output, hw6.size, hw6.block⟩
          · have hk2' : decide ((k : Int) < (la2.length : Int)) = false := by simp; omega
            have e2 : (la2.length : Int) - 1 ≤ (k : Int) := by omega
            clear hP hP2 hsame
            go_wp2_with fail
            go_quiet (fail)
            go_wp2_with fail
            go_ret
            exact ⟨rfl, hw6.os, hw6.tape, hw6.output, hw6.size, hw6.block⟩
    · by_cases h0 : n < 0
      · have k1 : decide (n < 0) = true := by simpa using h0
        clear hn
        go_wp2_with fail
        go_ret
        exact ⟨rfl, hB02.alloc hB02.size _⟩
      · have k1 : decide (n < 0) = false := by simp; omega
        have k2 : (bs.length : Int) < n := by omega
        clear hn h0
        go_wp2_with fail
        go_ret
        exact ⟨rfl, hB02.alloc hB02.size _⟩

theorem textCut_any (w : World) (hv : Vars w) (h2 : 2 ≤ w.heap.size) (a : Option Addr) (cap : Nat) (bs : List UInt8) (hs : IsSrc w (.slice a bs.length cap) bs) (hcap : bs.length ≤ cap) (hm : bs.length ≤ maxLen) (n : Int) :
    Calls Tryd.prog 5 #[.slice a bs.length cap, .int .i64 n] w fun e w' => e = .returned (.bool true) ∧ Below w.heap.size w w' := by
  by_cases hl : 16384 < bs.length
  · exact textCut_big w hv h2 a bs.length cap n hl hm
  · exact textCut_small w hv h2 a cap bs hs hcap n (by omega)
end Go.Proofs.YtjddbiabkobfoaaDoor
