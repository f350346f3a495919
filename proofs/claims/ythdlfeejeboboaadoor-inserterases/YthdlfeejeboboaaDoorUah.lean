/- What the program's Consistent and Precise tell. What the program's merge makes of two types. What the program's Meet and Join answer. Package check: the memory that a check may change; scopes; written, with. -/
import Derived.Test.YthdlfeejeboboaaDoorUag
import Derived.Test.YthdlfeejeboboaaDoorUaf
import Derived.Test.YthdlfeejeboboaaDoorUae
namespace Go.Proofs.YthdlfeejeboboaaDoor.T3
set_option maxRecDepth 100000
open Go.RowKit

theorem texts2 (w : World) (a b : List UInt8) : IsTexts (w.alloc (.cells #[.string (S a), .string (S b)] 9)) (.slice (some ⟨w.heap.size, 0, none⟩) 2 2) [a, b] :=
  IsTexts.own (own_lit w (tcells [a, b]) 9 (by simp [tcells, maxLen]))
theorem texts1 (w : World) (a : List UInt8) : IsTexts (w.alloc (.cells #[.string (S a)] 9)) (.slice (some ⟨w.heap.size, 0, none⟩) 1 1) [a] :=
  IsTexts.own (own_lit w (tcells [a]) 9 (by simp [tcells, maxLen]))
theorem texts1e {w W : World} {a : List UInt8} {n : Nat} (hW : W = w.alloc (.cells #[.string (S a)] 9)) (hn : n = w.heap.size) : IsTexts W (.slice (some ⟨n, 0, none⟩) 1 1) [a] := by
  subst hW hn; exact texts1 w a
theorem cell_new {w W : World} {v : Value} {t : TypeId} {n : Nat} (hW : W = w.alloc (.cells #[v] t)) (hn : n = w.heap.size) : W.cell? ⟨n, 0, none⟩ = some v := by
  subst hW hn
  rw [(block_cells (heap_alloc_new w (.cells #[v] t))).1 0]
  rfl
theorem cell_old {w W : World} {o : Obj} {b k : Nat} {v : Value} (hW : W = w.alloc o) (hb : b < w.heap.size) (h : w.cell? ⟨b, k, none⟩ = some v) : W.cell? ⟨b, k, none⟩ = some v := by
  subst hW
  exact (World.cell?_of_block (Below.heap_alloc _ _ _ hb)).trans h
theorem below_alloc (w : World) (o : Obj) : Below w.heap.size w (w.alloc o) := (Below.refl _ _).alloc (Nat.le_refl _) _
theorem rcheck2 (w : World) (l m : List UInt8) (W : World) (hW : W = w.alloc (.cells #[.string (S l), .string (S m)] 9)) (n : Nat) (hn : n = w.heap.size) : Calls Tryd.prog 69 #[.slice (some ⟨n, 0, none⟩) 2 2] W fun e w' => e = .returned (.int .i64 (Tp.firstBad [l, m])) ∧ w' = W := by
  subst hW hn
  exact rcheck_any _ [l, m] _ (texts2 w l m) (by simp)
theorem bad2 {l m : List UInt8} (h : (Tp.chk l).1 ≠ 0 ∨ (Tp.chk m).1 ≠ 0) : Tp.firstBad [l, m] ≠ 0 := by
  unfold Tp.firstBad Tp.firstBad
  rcases h with h | h
  · rw [if_neg h]; exact h
  · by_cases hl : (Tp.chk l).1 = 0
    · rw [if_pos hl, if_neg h]; exact h
    · rw [if_neg hl]; exact hl
theorem good2 {l m : List UInt8} (h : (Tp.chk l).1 = 0) (k : (Tp.chk m).1 = 0) : Tp.firstBad [l, m] = 0 := by
  simp [Tp.firstBad, h, k]

theorem store_func (a : Addr) (fn : Fn) (f c : Array Value) (w : World) : (store a (.func fn f c)).run Tryd.prog w = stored Tryd.prog w a (.func fn f c) .plain := run_store Tryd.prog w a _ _ rfl

set_option maxHeartbeats 2000000 in
theorem together_no (F : Nat) (l m : List UInt8) (h : (Tp.chk l).1 ≠ 0 ∨ (Tp.chk m).1 ≠ 0) (w : World) :
    Calls Tryd.prog 74 #[.string (S l), .string (S m), .func (.func F) #[] #[]] w fun e w' => e = .returned (.bool false) ∧ Below w.heap.size w w' := by
  have hb := bad2 h
  have hb' : ((Tp.firstBad [l, m] : Int) != 0) = true := by simpa using hb
  have hc := fun w => rcheck2 w l m
  generalize S l = s at *
  generalize S m = t at *
  go_enter Tryd.func74, Tryd.ntmps74
  go_wp2_with (go_at_call 69; refine (hc _ _ rfl _ (by simp)).mono ?_; rintro e w' ⟨rfl, rfl⟩)
  go_ret
  exact ⟨rfl, ((Below.refl _ _).alloc (Nat.le_refl _) _).alloc (by simp) _⟩

set_option maxHeartbeats 2000000 in
theorem together_yes (F : Nat) (st R : Tp.Ty → Tp.Ty → Bool) (hE : ∀ args w, (callFunc F args).run Tryd.prog w = .ok (.enter F args) w) (hF : Settles F st) (hR : ∀ a b, R a b = (st a b || (decide (Tp.hd a = Tp.hd b) && Tp.all2 R (Tp.kids a) (Tp.kids b)))) (a b : Tp.Ty) (ha : (Tp.enc a).length ≤ 64) (hb : (Tp.enc b).length ≤ 64) (w : World) :
    Calls Tryd.prog 74 #[.string (S (Tp.enc a)), .string (S (Tp.enc b)), .func (.func F) #[] #[]] w fun e w' => e = .returned (.bool (R a b)) ∧ Below w.heap.size w w' := by
  have hg : Tp.firstBad [Tp.enc a, Tp.enc b] = 0 := good2 (by rw [Tp.chk_enc a ha]) (by rw [Tp.chk_enc b hb])
  have hc := fun w => rcheck2 w (Tp.enc a) (Tp.enc b)
  rw [hg] at hc
  have hA := agree_any F st R hE hF hR 64 [a] [b]
  have ht1 := fun w W n => texts1e (w := w) (W := W) (a := Tp.enc a) (n := n)
  have ht2 := fun w W n => texts1e (w := w) (W := W) (a := Tp.enc b) (n := n)
  have hx : Tp.all2 R [a] [b] = R a b := by simp [Tp.all2]
  rw [hx] at hA
  clear hR hx
  have e45 := enters84
  have hsf := store_func
  generalize S (Tp.enc a) = s at *
  generalize S (Tp.enc b) = t at *
  go_enter Tryd.func74, Tryd.ntmps74
  go_wp2_with (first | (go_at_call 69; refine (hc _ _ rfl _ (by simp)).mono ?_; rintro e w' ⟨rfl, hw'⟩; replace hw' := hw'.symm; subst hw'))
  refine (hA _ _ _ _ _ rfl (by simp) (by simp; exact ha) (by simp; exact hb) ?_ ?_ (by simp; try omega) (by simp; try omega) ?_ ?_).mono ?_
  · exact (ht1 _ _ _ rfl (by simp)).below (below_alloc _ _)
  · exact ht2 _ _ _ rfl (by simp)
  · exact cell_old rfl (by simp; omega) (cell_old rfl (by simp; omega) (cell_old rfl (by simp; omega) (cell_old rfl (by simp) (cell_new rfl rfl))))
  · exact cell_old rfl (by simp) (cell_old rfl (by simp) (cell_new rfl (by simp)))
  rintro e w' ⟨rfl, hB⟩
  go_wp2_with fail
  go_ret
  refine ⟨rfl, Below.trans ?_ (hB.mono (by simp; omega))⟩
  exact (((((Below.refl _ _).alloc (Nat.le_refl _) _).alloc (by simp) _).alloc (by simp; omega) _).alloc (by simp; omega) _).alloc (by simp; omega) _

theorem enters75 : ∀ args w, (callFunc 75 args).run Tryd.prog w = .ok (.enter 75 args) w := enters_of Tryd.func75 (by kernel_rfl) rfl
namespace Tp
theorem cns_eq : ∀ a b : Ty, cns a b = ((isq a || isq b) || (decide (hd a = hd b) && all2 cns (kids a) (kids b))) := by
  intro a b
  cases a <;> cases b <;> simp [cns, isq, hd, kids, all2]
theorem prc_eq : ∀ a b : Ty, prc a b = (isq b || (decide (hd a = hd b) && all2 prc (kids a) (kids b))) := by
  intro a b
  cases a <;> cases b <;> simp [prc, isq, hd, kids, all2]
end Tp

set_option maxHeartbeats 1000000 in
theorem consistent_yes (a b : Tp.Ty) (ha : (Tp.enc a).length ≤ 64) (hb : (Tp.enc b).length ≤ 64) (w : World) :
    Calls Tryd.prog 65 #[.string (S (Tp.enc a)), .string (S (Tp.enc b))] w fun e w' => e = .returned (.bool (Tp.cns a b)) ∧ Below w.heap.size w w' := by
  have h := together_yes 75 _ Tp.cns enters75 cons1_any Tp.cns_eq a b ha hb
  generalize S (Tp.enc a) = s at *
  generalize S (Tp.enc b) = t at *
  go_enter Tryd.func65, Tryd.ntmps65
  go_wp2_with (go_at_call 74; refine (h _).mono ?_; rintro e w' ⟨rfl, hB⟩)
  go_ret
  exact ⟨rfl, hB⟩
set_option maxHeartbeats 1000000 in
theorem consistent_no (l m : List UInt8) (h : (Tp.chk l).1 ≠ 0 ∨ (Tp.chk m).1 ≠ 0) (w : World) :
    Calls Tryd.prog 65 #[.string (S l), .string (S m)] w fun e w' => e = .returned (.bool false) ∧ Below w.heap.size w w' := by
  have h := together_no 75 l m h
  generalize S l = s at *
  generalize S m = t at *
  go_enter Tryd.func65, Tryd.ntmps65
  go_wp2_with (go_at_call 74; refine (h _).mono ?_; rintro e w' ⟨rfl, hB⟩)
  go_ret
  exact ⟨rfl, hB⟩
end Go.Proofs.YthdlfeejeboboaaDoor.T3
namespace Go.Proofs.YthdlfeejeboboaaDoor.T3
set_option maxRecDepth 100000
open Go.RowKit

theorem set_at {w : World} {g : Nat} {cur : Array Value} {T : TypeId} (h : w.heap[g]? = some (.cells cur T (0, 0))) (k : Nat) (x : Value) : (w.setCell ⟨g, k, none⟩ x).heap[g]? = some (.cells (cur.setIfInBounds k x) T (0, 0)) := by
  simp [World.setCell, Array.getElem?_modify, h]
theorem own_set {w : World} {base e n B k : Nat} {v : Value} {xs : List Value} (h : w.ownsRow base e 1 v n xs) (hb : v.ownBlock ≠ some B) (x : Value) : (w.setCell ⟨B, k, none⟩ x).ownsRow base e 1 v n xs := by
  obtain ⟨h1, h2 | ⟨g, cap, cur, rfl, hg, hh, hr⟩⟩ := h
  · exact ⟨h1, .inl h2⟩
  · refine ⟨h1, .inr ⟨g, cap, cur, rfl, hg, ?_, hr⟩⟩
    rw [Below.heap_setCell _ _ _ _ (by intro e; exact hb (by simp [Value.ownBlock, e]))]
    exact hh
/-- One cell of an own row, written. -/
theorem own_put {w : World} {base e n c b k : Nat} {xs : List Value} (h : w.ownsRow base e 1 (.slice (some ⟨b, 0, none⟩) n c) n xs) (x : Value) : (w.setCell ⟨b, k, none⟩ x).ownsRow base e 1 (.slice (some ⟨b, 0, none⟩) n c) n (xs.set k x) := by
  obtain ⟨hl, ⟨h0, _⟩ | ⟨g', cap, cur, e1, hg, hh, hr1, hr2, hr3, hr4⟩⟩ := h
  · cases h0
  · obtain ⟨rfl, rfl⟩ : b = g' ∧ c = cap := by simpa using e1
    refine ⟨by simpa using hl, .inr ⟨b, c, cur.setIfInBounds k x, rfl, hg, set_at hh _ _, hr1, hr2, by simpa using hr3, ?_⟩⟩
    rw [Array.toList_setIfInBounds, List.take_set, hr4]
theorem own_below {w w' : World} {H e n : Nat} {v : Value} {xs : List Value} (h : w.ownsRow H e 1 v n xs) (hB : Below w.heap.size w w') : w'.ownsRow H e 1 v n xs := by
  obtain ⟨h1, h2 | ⟨g, cap, cur, rfl, hg, hh, hr⟩⟩ := h
  · exact ⟨h1, .inl h2⟩
  · exact ⟨h1, .inr ⟨g, cap, cur, rfl, hg, (hB.block g (Array.getElem?_eq_some_iff.1 hh).1).trans hh, hr⟩⟩
theorem own_lt {w : World} {H e n : Nat} {v : Value} {xs : List Value} (h : w.ownsRow H e 1 v n xs) {b : Nat} (hb : v.ownBlock = some b) : H ≤ b ∧ b < w.heap.size := by
  obtain ⟨h1, ⟨rfl, _⟩ | ⟨g, cap, cur, rfl, hg, hh, hr⟩⟩ := h
  · simp [Value.ownBlock] at hb
  · obtain rfl : g = b := by simpa [Value.ownBlock] using hb
    exact ⟨hg, (Array.getElem?_eq_some_iff.1 hh).1⟩
/-- A cell of an own row: where it lies, what it holds, and that it may be written. -/
theorem own_cell {w : World} {H e n c : Nat} {a : Option Addr} {xs : List Value} (h : w.ownsRow H e 1 (.slice a n c) n xs) {k : Nat} {x : Value} (hx : xs[k]? = some x) : ∃ b, a = some ⟨b, 0, none⟩ ∧ H ≤ b ∧ b < w.heap.size ∧ n ≤ c ∧ w.cell? ⟨b, k, none⟩ = some x ∧ w.frozen? ⟨b, k, none⟩ = false := by
  obtain ⟨hl, ⟨h0, h1⟩ | ⟨b, cap, cur, h0, hg, hh, hc, _, hs, ht⟩⟩ := h
  · have := (List.getElem?_eq_some_iff.1 hx).1
    omega
  · obtain ⟨rfl, rfl⟩ : a = some ⟨b, 0, none⟩ ∧ c = cap := by simpa using h0
    have hk : k < n * 1 := by have := (List.getElem?_eq_some_iff.1 hx).1; omega
    refine ⟨b, rfl, hg, (Array.getElem?_eq_some_iff.1 hh).1, hc, ?_, (block_cells hh).2 k⟩
    rw [(block_cells hh).1 k, ← Array.getElem?_toList]
    rw [← ht, List.getElem?_take, if_pos hk] at hx
    exact hx

namespace Tp
/-- The error of a type that is made: too large, or none. -/
def merr (t : Ty) : Nat := if (enc t).length ≤ 64 then 0 else 21
theorem mk_merr (t : Ty) (h : ∀ u ∈ kids t, (enc u).length ≤ 64) : mkF (hd t) ((kids t).map enc) = (merr t, val t) := by
  by_cases h64 : (enc t).length ≤ 64
  · rw [mk_parts t h64]; simp [merr, val, h64]
  · have e : enc t = hd t :: ((kids t).map enc).flatten := enc_eq t
    rw [mk_large (by rw [List.length_map]; exact ar_hd t) (firstBad_encs _ h)]
    · simp [merr, val, h64]
    · rw [e] at h64; simp at h64 ⊢; omega
theorem merr_kid {t u : Ty} (hu : u ∈ kids t) (h : merr u ≠ 0) : merr t = 21 ∧ merr u = 21 ∧ val t = [] := by
  have := kid_len t u hu
  unfold merr at *
  by_cases h1 : (enc u).length ≤ 64
  · simp [h1] at h
  · have : ¬ (enc t).length ≤ 64 := by omega
    simp [h1, this, val]
end Tp

/-- What a function that settles answers: a type, and whether it settles. -/
def Settle2 (F : Nat) (sv : Tp.Ty → Tp.Ty → Tp.Ty) (sb : Tp.Ty → Tp.Ty → Bool) : Prop := ∀ (a b : Tp.Ty) (w : World), (Tp.enc a).length ≤ 64 → (Tp.enc b).length ≤ 64 → Calls Tryd.prog F #[.string (S (Tp.enc a)), .string (S (Tp.enc b))] w fun e w' => e = .returned (.tuple #[.string (S (Tp.enc (sv a b))), .bool (sb a b)]) ∧ w' = w
/-- What merge makes, where it may. -/
structure Merges (sv : Tp.Ty → Tp.Ty → Tp.Ty) (sb : Tp.Ty → Tp.Ty → Bool) (M : Tp.Ty → Tp.Ty → Tp.Ty) (D : Tp.Ty → Tp.Ty → Prop) : Prop where
  set : ∀ a b, D a b → sb a b = true → M a b = sv a b
  small : ∀ a b, (Tp.enc a).length ≤ 64 → (Tp.enc b).length ≤ 64 → (Tp.enc (sv a b)).length ≤ 64
  head : ∀ a b, D a b → sb a b = false → Tp.hd a = Tp.hd b ∧ Tp.hd (M a b) = Tp.hd a
  kids : ∀ a b, D a b → sb a b = false → Tp.kids (M a b) = List.zipWith M (Tp.kids a) (Tp.kids b)
  down : ∀ a b, D a b → sb a b = false → ∀ (k : Nat) (x y : Tp.Ty), (Tp.kids a)[k]? = some x → (Tp.kids b)[k]? = some y → D x y

theorem mix_set (L ka : List Tp.Ty) (k : Nat) (x m : Tp.Ty) (hx : ka[k]? = some x) (hm : L[k]? = some m) :
    (tcells ((L.take k).map Tp.enc ++ (ka.drop k).map Tp.enc)).set k (.string (S (Tp.enc m))) = tcells ((L.take (k + 1)).map Tp.enc ++ (ka.drop (k + 1)).map Tp.enc) := by
  obtain ⟨h1, h1'⟩ := List.getElem?_eq_some_iff.1 hx
  obtain ⟨h2, h2'⟩ := List.getElem?_eq_some_iff.1 hm
  rw [List.drop_eq_getElem_cons h1, List.take_succ_eq_append_getElem h2, h2']
  unfold tcells
  rw [List.map_append, List.set_append, if_neg (by simp; omega)]
  simp only [List.map_append, List.map_cons, List.map_nil, List.append_assoc, List.length_map, List.length_take, show k - min k L.length = 0 by omega, List.set_cons_zero, List.cons_append, List.nil_append]
theorem zip_at {M : Tp.Ty → Tp.Ty → Tp.Ty} {ka kb : List Tp.Ty} {k : Nat} {x y : Tp.Ty} (hx : ka[k]? = some x) (hy : kb[k]? = some y) : (List.zipWith M ka kb)[k]? = some (M x y) := by
  rw [List.getElem?_zipWith, hx, hy]

theorem enters94 : ∀ args w, (callFunc 94 args).run Tryd.prog w = .ok (.enter 94 args) w := enters_of Tryd.func94 (by kernel_rfl) rfl

set_option maxHeartbeats 4000000 in
theorem put_any (F : Nat) (sv : Tp.Ty → Tp.Ty → Tp.Ty) (sb : Tp.Ty → Tp.Ty → Bool) (M : Tp.Ty → Tp.Ty → Tp.Ty) (D : Tp.Ty → Tp.Ty → Prop) (hE : ∀ args w, (callFunc F args).run Tryd.prog w = .ok (.enter F args) w) (hF : Settle2 F sv sb) (hM : Merges sv sb M D) (n : Nat) :
    ∀ (a b : Tp.Ty) (w : World) (P A : Nat), D a b → (Tp.enc a).length ≤ n → (Tp.enc a).length ≤ 64 → (Tp.enc b).length ≤ 64 →
      P < w.heap.size → A < w.heap.size → w.cell? ⟨P, 0, none⟩ = some (.func (.func F) #[] #[]) → w.cell? ⟨A, 0, none⟩ = some (.func (.func 94) #[] #[.pointer (some ⟨P, 0, none⟩), .pointer (some ⟨A, 0, none⟩)]) →
      Calls Tryd.prog 94 #[.string (S (Tp.enc a)), .string (S (Tp.enc b)), .pointer (some ⟨P, 0, none⟩), .pointer (some ⟨A, 0, none⟩)] w fun e w' => e = .returned (.tuple #[.string (S (Tp.val (M a b))), .int .i64 (Tp.merr (M a b))]) ∧ Below w.heap.size w w' := by
  induction n with
  | zero => intro a b w P A _ h0 _ _ _ _ _ _; have := Tp.enc_pos a; omega
  | succ n ih =>
    intro a b w P A hD hn ha hb hPl hAl hP hA
    have hst := hF a b w ha hb
    cases hsb : sb a b with
    | true =>
      have HM : Aside (M a b = sv a b) := hM.set a b hD hsb
      have hs := hM.small a b ha hb
      have HV : Aside (Tp.val (M a b) = Tp.enc (sv a b) ∧ Tp.merr (M a b) = 0) := by
        show _ ∧ _
        rw [HM.out]; simp [Tp.val, Tp.merr, hs]
      rw [hsb] at hst
      clear ih hM hF
      generalize S (Tp.enc a) = s at *
      generalize S (Tp.enc b) = t at *
      go_enter Tryd.func94, Tryd.ntmps94
      go_wp2_with fail
      refine hst.mono ?_
      rintro e w1 ⟨rfl, hw1⟩
      replace hw1 := hw1.symm; subst hw1
      go_wp2_with fail
      go_ret2
      rw [HV.out.1, HV.out.2]
      exact ⟨rfl, Below.refl _ _⟩
    | false =>
      rw [hsb] at hst
      obtain ⟨hh, hhM⟩ := hM.head a b hD hsb
      have HK : Aside (Tp.kids (M a b) = List.zipWith M (Tp.kids a) (Tp.kids b)) := hM.kids a b hD hsb
      have HD := hM.down a b hD hsb
      have HH : Aside (Tp.hd (M a b) = Tp.hd a) := hhM
      have HL : Aside ((Tp.kids a).length = (Tp.kids b).length) := Tp.hd_kids hh
      have h1 := head_yes a ha
      have p1 := parts_yes a ha
      have p2 := parts_yes b hb
      have hkl := Tp.kid_len a
      have hklb := Tp.kid_len b
      have hk2 : (Tp.kids a).length ≤ 2 := by cases a <;> simp [Tp.kids]
      clear hM hF hh hhM
      generalize S (Tp.enc a) = s at *
      generalize S (Tp.enc b) = t at *
      go_enter Tryd.func94, Tryd.ntmps94
      go_wp2_with fail
      refine hst.mono ?_
      rintro e w1 ⟨rfl, hw1⟩
      replace hw1 := hw1.symm; subst hw1
      go_wp2_with (first | (go_at_call_of 37 s; refine (p1 _).mono ?_; rintro e w1 ⟨v1, rfl, O1, B1⟩; obtain ⟨a1, c1, rfl⟩ := own_len O1) | (go_at_call_of 37 t; refine (p2 _).mono ?_; rintro e w2 ⟨v2, rfl, O2, B2⟩; obtain ⟨a2, c2, rfl⟩ := own_len O2))
      have hs1 := B1.size
      have hs2 := B2.size
      have O1' := own_below O1 B2
      have hP2 := (B2.cell (p := ⟨P, 0, none⟩) (show P < w1.heap.size by omega)).trans ((B1.cell (p := ⟨P, 0, none⟩) hPl).trans hP)
      have hA2 := (B2.cell (p := ⟨A, 0, none⟩) (show A < w1.heap.size by omega)).trans ((B1.cell (p := ⟨A, 0, none⟩) hAl).trans hA)
      have hB0 : Below w.heap.size w w2 := B1.trans (B2.mono hs1)
      have hne : ∀ g, Value.ownBlock (.slice a1 (Tp.kids a).length c1) = some g → Value.ownBlock (.slice a2 (Tp.kids b).length c2) ≠ some g := by
        intro g hg hg2
        have q1 := (own_lt O1 hg).2
        have q2 := (own_lt O2 hg2).1
        omega
      clear hP hA O1 B1 B2 p1 p2 hst
      go_loopg [31] (Tp.kids a).length (fun g t wr => ∃ k : Nat, k + g = (Tp.kids a).length ∧ t = .int .i64 k ∧ Below w.heap.size w wr ∧ Below w.heap.size w w2 ∧ wr.cell? ⟨P, 0, none⟩ = some (.func (.func F) #[] #[]) ∧ wr.cell? ⟨A, 0, none⟩ = some (.func (.func 94) #[] #[.pointer (some ⟨P, 0, none⟩), .pointer (some ⟨A, 0, none⟩)]) ∧ w2.heap.size ≤ wr.heap.size
        ∧ wr.ownsRow w.heap.size 9 1 (.slice a1 (Tp.kids a).length c1) (Tp.kids a).length (tcells (((List.zipWith M (Tp.kids a) (Tp.kids b)).take k).map Tp.enc ++ ((Tp.kids a).drop k).map Tp.enc)) ∧ wr.ownsRow w1.heap.size 9 1 (.slice a2 (Tp.kids b).length c2) (Tp.kids b).length (tcells ((Tp.kids b).map Tp.enc)) ∧ Aside (∀ u ∈ (List.zipWith M (Tp.kids a) (Tp.kids b)).take k, (Tp.enc u).length ≤ 64))
      case atStart => exact ⟨0, by omega, rfl, hB0, hB0, hP2, hA2, Nat.le_refl _, by simpa using O1', O2, by intro u hu; simp at hu⟩
      case round =>
        obtain ⟨k, hkg, rfl, hB, -, hPr, hAr, hsr, R1, R2, HS⟩ := hrel
        by_cases hk : k < (Tp.kids a).length
        · have hk' : (k : Int) < ((Tp.kids a).length : Int) := by omega
          have hk0 : (0 : Int) ≤ (k : Int) := by omega
          have hkb : k < (Tp.kids b).length := by rw [← HL.out]; exact hk
          have hkb' : (k : Int) < ((Tp.kids b).length : Int) := by omega
          have ga := List.getElem?_eq_getElem hk
          have gb := List.getElem?_eq_getElem hkb
          have ma := hkl _ (List.getElem_mem hk)
          have mb := hklb _ (List.getElem_mem hkb)
          generalize (Tp.kids a)[k] = x at *
          generalize (Tp.kids b)[k] = y at *
          have hDxy := HD k x y ga gb
          have gz : (List.zipWith M (Tp.kids a) (Tp.kids b))[k]? = some (M x y) := zip_at ga gb
          have hzl : (List.zipWith M (Tp.kids a) (Tp.kids b)).length = (Tp.kids a).length := by rw [List.length_zipWith, ← HL.out]; simp
          have hlen : (((List.zipWith M (Tp.kids a) (Tp.kids b)).take k).map Tp.enc).length = k := by rw [List.length_map, List.length_take, hzl]; omega
          obtain ⟨b1, rfl, hb1, hb1l, hc1, hcx, hfx⟩ := own_cell R1 (k := k) (x := .string (S (Tp.enc x))) (by
            unfold tcells
            rw [List.getElem?_map, List.getElem?_append_right (by omega), hlen, Nat.sub_self, List.getElem?_map, List.getElem?_drop, Nat.add_zero, ga]
            rfl)
          obtain ⟨b2, rfl, hb2, hb2l, hc2, hcy, -⟩ := own_cell R2 (k := k) (x := .string (S (Tp.enc y))) (by
            unfold tcells
            rw [List.getElem?_map, List.getElem?_map, gb]; rfl)
          have hbb : b2 ≠ b1 := by
            intro e
            exact hne b1 rfl (by simp [Value.ownBlock, e])
          have hrec := fun w => ih x y w P A hDxy (by omega) (by omega) (by omega)
          have hmem : M x y ∈ Tp.kids (M a b) := by rw [HK.out]; exact List.mem_of_getElem? gz
          have HX : Aside (Tp.merr (M x y) ≠ 0 → Tp.merr (M a b) = 21 ∧ Tp.merr (M x y) = 21 ∧ Tp.val (M a b) = []) := Tp.merr_kid hmem
          have GZ : Aside ((List.zipWith M (Tp.kids a) (Tp.kids b))[k]? = some (M x y)) := gz
          have GA : Aside ((Tp.kids a)[k]? = some x) := ga
          have hsw := hB.size
          clear ga gb gz hzl hlen ih HD hmem
          have hrl : ((Tp.kids b).length : Int) = (Tp.kids b).length := rfl
          by_cases hm : Tp.merr (M x y) = 0
          · have hm' : ((Tp.merr (M x y) : Int) != 0) = false := by simpa using hm
            have HV : Aside (Tp.val (M x y) = Tp.enc (M x y) ∧ (Tp.enc (M x y)).length ≤ 64) := by
              show _ ∧ _
              unfold Tp.merr at hm
              by_cases q : (Tp.enc (M x y)).length ≤ 64
              · simp [Tp.val, q]
              · simp [q] at hm
            generalize hsx : S (Tp.enc x) = sx at *
            generalize hsy : S (Tp.enc y) = sy at *
            go_wp2_with fail
            go_region_with (go_at_call 94; refine (hrec _ (by show P < wr.heap.size; omega) (by show A < wr.heap.size; omega) (by exact hPr) (by exact hAr)).mono ?_; rintro e w3 ⟨rfl, hB3⟩)
            all_goals
              have q1 := (hB3.cell (p := ⟨b1, k, none⟩) hb1l).trans hcx
              have q2 := (hB3.frozen (p := ⟨b1, k, none⟩) hb1l).trans hfx
              go_wp2_with fail
              go_roundg (gk - 1)
              case measure => omega
              case rel =>
                have hB' := hB.drew.trans (hB3.mono hsw)
                have hs3 : wr.heap.size ≤ w3.heap.size := hB3.size
                have hPb : P ≠ b1 := by omega
                have hAb : A ≠ b1 := by omega
                have st : ∀ q o, q ≠ b1 → ∀ u, (w3.setCell ⟨b1, k, none⟩ u).cell? ⟨q, o, none⟩ = w3.cell? ⟨q, o, none⟩ := fun q o hq u => World.cell?_of_block (Below.heap_setCell _ _ _ _ (by intro e; exact hq e))
                refine ⟨k + 1, by omega, by go_num, hB'.setCell hb1 _, hB0, (st P 0 hPb _).trans ((hB3.cell (p := ⟨P, 0, none⟩) (show P < wr.heap.size by omega)).trans hPr), (st A 0 hAb _).trans ((hB3.cell (p := ⟨A, 0, none⟩) (show A < wr.heap.size by omega)).trans hAr), by simp [World.setCell]; omega, ?_, own_set (own_below (by exact R2) hB3) (by simp [Value.ownBlock]; exact hbb) _, ?_⟩
                · rw [HV.out.1]
                  have := own_put (k := k) (own_below (by exact R1) hB3) (.string (S (Tp.enc (M x y))))
                  rw [mix_set _ _ k x _ GA.out GZ.out] at this
                  exact this
                · intro u hu
                  rw [List.take_succ_eq_append_getElem (List.getElem?_eq_some_iff.1 GZ.out).1, (List.getElem?_eq_some_iff.1 GZ.out).2] at hu
                  rcases List.mem_append.1 hu with hu | hu
                  · exact HS.out u hu
                  · simp at hu; subst hu; exact HV.out.2
          · have hm' : ((Tp.merr (M x y) : Int) != 0) = true := by simpa using hm
            generalize hsx : S (Tp.enc x) = sx at *
            generalize hsy : S (Tp.enc y) = sy at *
            go_wp2_with fail
            go_region_with (go_at_call 94; refine (hrec _ (by show P < wr.heap.size; omega) (by show A < wr.heap.size; omega) (by exact hPr) (by exact hAr)).mono ?_; rintro e w3 ⟨rfl, hB3⟩)
            all_goals
              go_wp2_with fail
              go_ret2
              obtain ⟨q1, q2, q3⟩ := HX.out hm
              rw [q1, q2, q3]
              exact ⟨rfl, hB.drew.trans (hB3.mono hsw)⟩
        · have hk' : decide ((k : Int) < ((Tp.kids a).length : Int)) = false := by simp; omega
          obtain rfl : k = (Tp.kids a).length := by omega
          have hzl : (List.zipWith M (Tp.kids a) (Tp.kids b)).length = (Tp.kids a).length := by rw [List.length_zipWith, ← HL.out]; simp
          rw [List.drop_length, List.map_nil, List.append_nil, ← hzl, List.take_length, hzl, ← HK.out] at R1
          rw [← hzl, List.take_length, ← HK.out] at HS
          have hkM : (Tp.kids a).length = ((Tp.kids (M a b)).map Tp.enc).length := by rw [List.length_map, HK.out, hzl]
          have hT := own_at R1 hkM
          have hm := make_any (Tp.hd a) _ _ wr hT (by rw [← hkM]; omega)
          rw [← HH.out, Tp.mk_merr _ HS.out] at hm
          rw [← HH.out] at h1
          clear hzl hkM
          go_wp2_with (first | (go_at_call 70; refine (h1 _).mono ?_; rintro e w' ⟨rfl, hw'⟩; replace hw' := hw'.symm; subst hw') | (go_at_call 47; refine hm.mono ?_; rintro e w' ⟨rfl, hB4⟩))
          go_ret2
          exact ⟨rfl, hB.trans (hB4.mono hB.size)⟩
end Go.Proofs.YthdlfeejeboboaaDoor.T3
namespace Go.Proofs.YthdlfeejeboboaaDoor.T3
set_option maxRecDepth 100000
open Go.RowKit

set_option maxHeartbeats 2000000 in
theorem merge_any (F : Nat) (sv : Tp.Ty → Tp.Ty → Tp.Ty) (sb : Tp.Ty → Tp.Ty → Bool) (M : Tp.Ty → Tp.Ty → Tp.Ty) (D : Tp.Ty → Tp.Ty → Prop) (hE : ∀ args w, (callFunc F args).run Tryd.prog w = .ok (.enter F args) w) (hF : Settle2 F sv sb) (hM : Merges sv sb M D) (a b : Tp.Ty) (hD : D a b) (ha : (Tp.enc a).length ≤ 64) (hb : (Tp.enc b).length ≤ 64) (w : World) :
    Calls Tryd.prog 85 #[.string (S (Tp.enc a)), .string (S (Tp.enc b)), .func (.func F) #[] #[]] w fun e w' => e = .returned (.tuple #[.string (S (Tp.val (M a b))), .int .i64 (Tp.merr (M a b))]) ∧ Below w.heap.size w w' := by
  have hP := put_any F sv sb M D hE hF hM 64 a b
  have e41 := enters94
  have hsf := store_func
  clear hF hM
  generalize S (Tp.enc a) = s at *
  generalize S (Tp.enc b) = t at *
  go_enter Tryd.func85, Tryd.ntmps85
  go_wp2_with fail
  refine (hP _ _ _ hD ha ha hb (by simp; try omega) (by simp; try omega) ?_ ?_).mono ?_
  · exact cell_old rfl (by simp) (cell_new rfl rfl)
  · exact cell_new rfl (by simp)
  rintro e w' ⟨rfl, hB⟩
  go_wp2_with fail
  go_ret2
  refine ⟨rfl, Below.trans ?_ (hB.mono (by simp; omega))⟩
  exact ((Below.refl _ _).alloc (Nat.le_refl _) _).alloc (by simp) _

theorem enters86 : ∀ args w, (callFunc 86 args).run Tryd.prog w = .ok (.enter 86 args) w := enters_of Tryd.func86 (by kernel_rfl) rfl
def msv (a b : Tp.Ty) : Tp.Ty := if Tp.isq a then b else a
theorem settle_meet : Settle2 86 msv (fun a b => Tp.isq a || Tp.isq b) := by
  intro a b w _ _
  have h := meet1_any a b w
  have e : (if Tp.isq a then S (Tp.enc b) else S (Tp.enc a)) = S (Tp.enc (msv a b)) := by unfold msv; split <;> rfl
  rw [e] at h
  exact h
theorem merges_meet : Merges msv (fun a b => Tp.isq a || Tp.isq b) Tp.met (fun a b => Tp.cns a b = true) := by
  refine ⟨?_, ?_, ?_, ?_, ?_⟩
  · intro a b h k; cases a <;> cases b <;> simp [Tp.isq, Tp.met, msv] at h k ⊢
  · intro a b h k; unfold msv; split <;> assumption
  · intro a b h k; cases a <;> cases b <;> simp [Tp.isq, Tp.met, Tp.cns, Tp.hd] at h k ⊢
  · intro a b h k; cases a <;> cases b <;> simp [Tp.isq, Tp.met, Tp.cns, Tp.kids] at h k ⊢
  · intro a b h k n x y hx hy
    cases a <;> cases b <;> simp [Tp.isq, Tp.cns, Tp.kids] at h k hx hy
    all_goals
      match n with
      | 0 => simp at hx hy; subst hx; subst hy; first | exact h.1 | exact h
      | 1 => simp at hx hy; try (subst hx; subst hy; exact h.2)
      | _ + 2 => simp at hx
def jsb (a b : Tp.Ty) : Bool := ((Tp.hd a).toNat : Int) != ((Tp.hd b).toNat : Int)
theorem jsb_false {a b : Tp.Ty} (h : jsb a b = false) : Tp.hd a = Tp.hd b := by
  unfold jsb at h
  simp only [bne_eq_false_iff_eq] at h
  exact UInt8.toNat_inj.1 (by omega)
theorem jsb_true {a b : Tp.Ty} (h : jsb a b = true) : Tp.hd a ≠ Tp.hd b := by
  unfold jsb at h
  intro e
  rw [e] at h
  simp at h
theorem merges_join : Merges (fun _ _ => .tq) jsb Tp.joi (fun _ _ => True) := by
  refine ⟨?_, ?_, ?_, ?_, ?_⟩
  · intro a b _ k; have := jsb_true k; cases a <;> cases b <;> simp [Tp.joi, Tp.hd] at this ⊢
  · intro a b h k; simp [Tp.enc]
  · intro a b _ k; have := jsb_false k; cases a <;> cases b <;> simp [Tp.joi, Tp.hd] at this ⊢
  · intro a b _ k; have := jsb_false k; cases a <;> cases b <;> simp [Tp.joi, Tp.hd, Tp.kids] at this ⊢
  · intros; trivial

set_option maxHeartbeats 2000000 in
theorem meet_bad (l m : List UInt8) (h : (Tp.chk l).1 ≠ 0 ∨ (Tp.chk m).1 ≠ 0) (w : World) :
    Calls Tryd.prog 76 #[.string (S l), .string (S m)] w fun e w' => e = .returned (.tuple #[.string ⟨#[]⟩, .int .i64 (Tp.firstBad [l, m])]) ∧ Below w.heap.size w w' := by
  have hb := bad2 h
  have hb' : ((Tp.firstBad [l, m] : Int) != 0) = true := by simpa using hb
  have hc := fun w => rcheck2 w l m
  generalize S l = s at *
  generalize S m = t at *
  go_enter Tryd.func76, Tryd.ntmps76
  go_wp2_with (go_at_call 69; refine (hc _ _ rfl _ (by simp)).mono ?_; rintro e w' ⟨rfl, rfl⟩)
  go_ret2
  exact ⟨rfl, below_alloc _ _⟩
/-- P3.2 of two types. -/
def mtS (a b : Tp.Ty) : List UInt8 := if Tp.cns a b then Tp.val (Tp.met a b) else []
def mtE (a b : Tp.Ty) : Nat := if Tp.cns a b then Tp.merr (Tp.met a b) else 30

set_option maxHeartbeats 2000000 in
theorem meet_yes (a b : Tp.Ty) (ha : (Tp.enc a).length ≤ 64) (hb : (Tp.enc b).length ≤ 64) (w : World) :
    Calls Tryd.prog 76 #[.string (S (Tp.enc a)), .string (S (Tp.enc b))] w fun e w' => e = .returned (.tuple #[.string (S (mtS a b)), .int .i64 (mtE a b)]) ∧ Below w.heap.size w w' := by
  have hg : Tp.firstBad [Tp.enc a, Tp.enc b] = 0 := good2 (by rw [Tp.chk_enc a ha]) (by rw [Tp.chk_enc b hb])
  have hc := fun w => rcheck2 w (Tp.enc a) (Tp.enc b)
  rw [hg] at hc
  have h2 := consistent_yes a b ha hb
  have h3 := fun h => merge_any 86 _ _ _ _ enters86 settle_meet merges_meet a b h ha hb
  generalize S (Tp.enc a) = s at *
  generalize S (Tp.enc b) = t at *
  cases hq : Tp.cns a b with
  | true =>
    have h3' := h3 hq
    have HM : Aside (mtS a b = Tp.val (Tp.met a b) ∧ mtE a b = Tp.merr (Tp.met a b)) := by show _ ∧ _; simp [mtS, mtE, hq]
    rw [hq] at h2
    clear h3
    go_enter Tryd.func76, Tryd.ntmps76
    go_wp2_with (first | (go_at_call 69; refine (hc _ _ rfl _ (by simp)).mono ?_; rintro e w' ⟨rfl, hw'⟩; replace hw' := hw'.symm; subst hw') | (go_at_call 65; refine (h2 _).mono ?_; rintro e w1 ⟨rfl, hB1⟩) | (go_at_call 85; refine (h3' _).mono ?_; rintro e w2 ⟨rfl, hB2⟩))
    go_ret2
    rw [HM.out.1, HM.out.2]
    exact ⟨rfl, (below_alloc _ _).trans ((hB1.mono (by simp)).trans (hB2.mono (by have := hB1.size; simp at this; omega)))⟩
  | false =>
    have HM : Aside (mtS a b = [] ∧ mtE a b = 30) := by show _ ∧ _; simp [mtS, mtE, hq]
    rw [hq] at h2
    clear h3
    go_enter Tryd.func76, Tryd.ntmps76
    go_wp2_with (first | (go_at_call 69; refine (hc _ _ rfl _ (by simp)).mono ?_; rintro e w' ⟨rfl, hw'⟩; replace hw' := hw'.symm; subst hw') | (go_at_call 65; refine (h2 _).mono ?_; rintro e w1 ⟨rfl, hB1⟩))
    go_ret2
    rw [HM.out.1, HM.out.2]
    exact ⟨rfl, (below_alloc _ _).trans (hB1.mono (by simp))⟩
end Go.Proofs.YthdlfeejeboboaaDoor.T3
namespace Go.Proofs.YthdlfeejeboboaaDoor
open Go.RowKit Ck
open T3.Tp (Ty enc cns met)
set_option maxRecDepth 100000
set_option linter.unusedSimpArgs false

/-- Two blocks aside, all that was there is there as it was. -/
structure Two (a b : Nat) (w w' : World) : Prop where
  os : w'.os = w.os
  tape : w'.tape = w.tape
  output : w'.output = w.output
  size : w.heap.size ≤ w'.heap.size
  block : ∀ k, k < w.heap.size → k ≠ a → k ≠ b → w'.heap[k]? = w.heap[k]?
theorem Two.refl (a b : Nat) (w : World) : Two a b w w := ⟨rfl, rfl, rfl, Nat.le_refl _, fun _ _ _ _ => rfl⟩
theorem Two.trans {a b : Nat} {w w1 w2 : World} (h : Two a b w w1) (k : Two a b w1 w2) : Two a b w w2 :=
  ⟨k.os.trans h.os, k.tape.trans h.tape, k.output.trans h.output, Nat.le_trans h.size k.size, fun j hj ha hb => (k.block j (Nat.lt_of_lt_of_le hj h.size) ha hb).trans (h.block j hj ha hb)⟩
theorem below_two {w w' : World} (h : Below w.heap.size w w') (a b : Nat) : Two a b w w' := ⟨h.os, h.tape, h.output, h.size, fun j hj _ _ => h.block j hj⟩
theorem Two.below {a b : Nat} {w w1 w2 : World} (h : Two a b w w1) (k : Below w1.heap.size w1 w2) : Two a b w w2 := h.trans (below_two k a b)
theorem Two.cell {a b : Nat} {w w' : World} (h : Two a b w w') {p : Addr} (hp : p.block < w.heap.size) (ha : p.block ≠ a) (hb : p.block ≠ b) : w'.cell? p = w.cell? p := World.cell?_of_block (h.block _ hp ha hb)
theorem Two.setA {a b : Nat} {w w' : World} (h : Two a b w w') (o : Nat) (u : Value) : Two a b w (w'.setCell ⟨a, o, none⟩ u) :=
  ⟨h.os, h.tape, h.output, by simpa [World.setCell] using h.size, fun k hk ha hb => by rw [Below.heap_setCell _ _ _ _ ha]; exact h.block k hk ha hb⟩
theorem Two.setB {a b : Nat} {w w' : World} (h : Two a b w w') (o : Nat) (u : Value) : Two a b w (w'.setCell ⟨b, o, none⟩ u) :=
  ⟨h.os, h.tape, h.output, by simpa [World.setCell] using h.size, fun k hk ha hb => by rw [Below.heap_setCell _ _ _ _ hb]; exact h.block k hk ha hb⟩

/-- What a look for a name tells. -/
def lookS (env : Env) (n : ByteArray) : ByteArray := match Ck.look env n.data.toList with | some t => S (enc t) | none => ⟨#[]⟩
def lookB (env : Env) (n : ByteArray) : Bool := (Ck.look env n.data.toList).isSome
/-- A scope that tells an environment, as long as no more than two blocks change. -/
def Scope (a b : Nat) (w : World) (v : Value) (env : Env) : Prop :=
  ∃ F caps, v = .func (.func F) #[] caps ∧ (∀ args w, (callFunc F args).run Tryd.prog w = .ok (.enter F args) w) ∧
    ∀ w', Two a b w w' → ∀ n : ByteArray, n.size ≤ maxLen → Calls Tryd.prog F (#[.string n] ++ caps) w' fun e w2 => e = .returned (.tuple #[.string (lookS env n), .bool (lookB env n)]) ∧ w2 = w'
theorem Scope.next {a b : Nat} {w w' : World} {v : Value} {env : Env} (h : Scope a b w v env) (k : Two a b w w') : Scope a b w' v env := by
  obtain ⟨F, caps, h1, h2, h3⟩ := h
  exact ⟨F, caps, h1, h2, fun w2 hw => h3 w2 (k.trans hw)⟩

theorem written_any (s : ByteArray) (w : World) : Calls Tryd.prog 48 #[.string s] w fun e w' => e = .returned (.string (if s.size = 0 then ⟨#[63]⟩ else s)) ∧ w' = w := by
  by_cases h : s = ⟨#[]⟩
  · subst h
    go_enter Tryd.func48, Tryd.ntmps48
    go_wp2_with fail
    go_ret
    exact ⟨rfl, rfl⟩
  · have hs : s.size ≠ 0 := fun e => h (by obtain ⟨⟨l⟩⟩ := s; simp [ByteArray.size] at e; simp [e])
    have hb : (s.toList == []) = false := by have := (Lib.bytes_beq_false_iff s ⟨#[]⟩).2 h; simpa using this
    go_enter Tryd.func48, Tryd.ntmps48
    go_wp2_with fail
    go_ret
    exact ⟨rfl, rfl⟩
end Go.Proofs.YthdlfeejeboboaaDoor
