/- What the program's merge makes of two types. What the program's Meet and Join answer. What Match answers, the program's and the document's. Regions that draw their order, whose callees make memory but hand back one value: one walk, in the text's order. What the document's Behind, Good, Part and Parts answer. -/
import Derived.Test.YtaaokecdmbmgbaaDoorUay
import Derived.Test.YtaaokecdmbmgbaaDoorRows
import Derived.BigQuiet
import Derived.WalkKit
namespace Go.Proofs.YtaaokecdmbmgbaaDoor.T3
set_option maxRecDepth 100000
open Go.RowKit

theorem set_at {w : World} {g : Nat} {cur : Array Value} {T : TypeId} (h : w.heap[g]? = some (.cells cur T (0, 0))) (k : Nat) (x : Value) : (w.setCell ⟨g, k, none⟩ x).heap[g]? = some (.cells (cur.setIfInBounds k x) T (0, 0)) := by
  simp [World.setCell, Array.getElem?_modify, h]
theorem own_set {w : World} {base e n B k : Nat} {v : Value} {xs : List Value} (h : w.ownsRow base e 1 v n xs) (hb : v.ownBlock ≠ some B) (x : Value) : (w.setCell ⟨B, k, none⟩ x).ownsRow base e 1 v n xs := by
  obtain ⟨h1, h2 | ⟨g, cap, cur, rfl, hg, hh, hr⟩⟩ := h
  · exact ⟨h1, .inl h2⟩
  · refine ⟨h1, .inr ⟨g, cap, cur, rfl, hg, ?_, hr⟩⟩
    rw [Below.heap_setCell _ _ _ _ (by intro e; exact hb (by simp [Value.ownBlock, e]))]
    exact hh
/-- One cell of an own row, written. -/
theorem own_put {w : World} {base e n c b k : Nat} {xs : List Value} (h : w.ownsRow base e 1 (.slice (some ⟨b, 0, none⟩) n c) n xs) (x : Value) : (w.setCell ⟨b, k, none⟩ x).ownsRow base e 1 (.slice (some ⟨b, 0, none⟩) n c) n (xs.set k x) := by
  obtain ⟨hl, ⟨h0, _⟩ | ⟨g', cap, cur, e1, hg, hh, hr1, hr2, hr3, hr4⟩⟩ := h
  · cases h0
  · obtain ⟨rfl, rfl⟩ : b = g' ∧ c = cap := by simpa using e1
    refine ⟨by simpa using hl, .inr ⟨b, c, cur.setIfInBounds k x, rfl, hg, set_at hh _ _, hr1, hr2, by simpa using hr3, ?_⟩⟩
    rw [Array.toList_setIfInBounds, List.take_set, hr4]
theorem own_below {w w' : World} {H e n : Nat} {v : Value} {xs : List Value} (h : w.ownsRow H e 1 v n xs) (hB : Below w.heap.size w w') : w'.ownsRow H e 1 v n xs := by
  obtain ⟨h1, h2 | ⟨g, cap, cur, rfl, hg, hh, hr⟩⟩ := h
  · exact ⟨h1, .inl h2⟩
  · exact ⟨h1, .inr ⟨g, cap, cur, rfl, hg, (hB.block g (Array.getElem?_eq_some_iff.1 hh).1).trans hh, hr⟩⟩
theorem own_lt {w : World} {H e n : Nat} {v : Value} {xs : List Value} (h : w.ownsRow H e 1 v n xs) {b : Nat} (hb : v.ownBlock = some b) : H ≤ b ∧ b < w.heap.size := by
  obtain ⟨h1, ⟨rfl, _⟩ | ⟨g, cap, cur, rfl, hg, hh, hr⟩⟩ := h
  · simp [Value.ownBlock] at hb
  · obtain rfl : g = b := by simpa [Value.ownBlock] using hb
    exact ⟨hg, (Array.getElem?_eq_some_iff.1 hh).1⟩
/-- A cell of an own row: where it lies, what it holds, and that it may be written. -/
theorem own_cell {w : World} {H e n c : Nat} {a : Option Addr} {xs : List Value} (h : w.ownsRow H e 1 (.slice a n c) n xs) {k : Nat} {x : Value} (hx : xs[k]? = some x) : ∃ b, a = some ⟨b, 0, none⟩ ∧ H ≤ b ∧ b < w.heap.size ∧ n ≤ c ∧ w.cell? ⟨b, k, none⟩ = some x ∧ w.frozen? ⟨b, k, none⟩ = false := by
  obtain ⟨hl, ⟨h0, h1⟩ | ⟨b, cap, cur, h0, hg, hh, hc, _, hs, ht⟩⟩ := h
  · have := (List.getElem?_eq_some_iff.1 hx).1
    omega
  · obtain ⟨rfl, rfl⟩ : a = some ⟨b, 0, none⟩ ∧ c = cap := by simpa using h0
    have hk : k < n * 1 := by have := (List.getElem?_eq_some_iff.1 hx).1; omega
    refine ⟨b, rfl, hg, (Array.getElem?_eq_some_iff.1 hh).1, hc, ?_, (block_cells hh).2 k⟩
    rw [(block_cells hh).1 k, ← Array.getElem?_toList]
    rw [← ht, List.getElem?_take, if_pos hk] at hx
    exact hx

namespace Tp
/-- The error of a type that is made: too large, or none. -/
def merr (t : Ty) : Nat := if (enc t).length ≤ 64 then 0 else 21
theorem mk_merr (t : Ty) (h : ∀ u ∈ kids t, (enc u).length ≤ 64) : mkF (hd t) ((kids t).map enc) = (merr t, val t) := by
  by_cases h64 : (enc t).length ≤ 64
  · rw [mk_parts t h64]; simp [merr, val, h64]
  · have e : enc t = hd t :: ((kids t).map enc).flatten := enc_eq t
    rw [mk_large (by rw [List.length_map]; exact ar_hd t) (firstBad_encs _ h)]
    · simp [merr, val, h64]
    · rw [e] at h64; simp at h64 ⊢; omega
theorem merr_kid {t u : Ty} (hu : u ∈ kids t) (h : merr u ≠ 0) : merr t = 21 ∧ merr u = 21 ∧ val t = [] := by
  have := kid_len t u hu
  unfold merr at *
  by_cases h1 : (enc u).length ≤ 64
  · simp [h1] at h
  · have : ¬ (enc t).length ≤ 64 := by omega
    simp [h1, this, val]
end Tp

/-- What a function that settles answers: a type, and whether it settles. -/
def Settle2 (F : Nat) (sv : Tp.Ty → Tp.Ty → Tp.Ty) (sb : Tp.Ty → Tp.Ty → Bool) : Prop := ∀ (a b : Tp.Ty) (w : World), (Tp.enc a).length ≤ 64 → (Tp.enc b).length ≤ 64 → Calls Tryd.prog F #[.string (S (Tp.enc a)), .string (S (Tp.enc b))] w fun e w' => e = .returned (.tuple #[.string (S (Tp.enc (sv a b))), .bool (sb a b)]) ∧ w' = w
/-- What merge makes, where it may. -/
structure Merges (sv : Tp.Ty → Tp.Ty → Tp.Ty) (sb : Tp.Ty → Tp.Ty → Bool) (M : Tp.Ty → Tp.Ty → Tp.Ty) (D : Tp.Ty → Tp.Ty → Prop) : Prop where
  set : ∀ a b, D a b → sb a b = true → M a b = sv a b
  small : ∀ a b, (Tp.enc a).length ≤ 64 → (Tp.enc b).length ≤ 64 → (Tp.enc (sv a b)).length ≤ 64
  head : ∀ a b, D a b → sb a b = false → Tp.hd a = Tp.hd b ∧ Tp.hd (M a b) = Tp.hd a
  kids : ∀ a b, D a b → sb a b = false → Tp.kids (M a b) = List.zipWith M (Tp.kids a) (Tp.kids b)
  down : ∀ a b, D a b → sb a b = false → ∀ (k : Nat) (x y : Tp.Ty), (Tp.kids a)[k]? = some x → (Tp.kids b)[k]? = some y → D x y

theorem mix_set (L ka : List Tp.Ty) (k : Nat) (x m : Tp.Ty) (hx : ka[k]? = some x) (hm : L[k]? = some m) :
    (tcells ((L.take k).map Tp.enc ++ (ka.drop k).map Tp.enc)).set k (.string (S (Tp.enc m))) = tcells ((L.take (k + 1)).map Tp.enc ++ (ka.drop (k + 1)).map Tp.enc) := by
  obtain ⟨h1, h1'⟩ := List.getElem?_eq_some_iff.1 hx
  obtain ⟨h2, h2'⟩ := List.getElem?_eq_some_iff.1 hm
  rw [List.drop_eq_getElem_cons h1, List.take_succ_eq_append_getElem h2, h2']
  unfold tcells
  rw [List.map_append, List.set_append, if_neg (by simp; omega)]
  simp only [List.map_append, List.map_cons, List.map_nil, List.append_assoc, List.length_map, List.length_take, show k - min k L.length = 0 by omega, List.set_cons_zero, List.cons_append, List.nil_append]
theorem zip_at {M : Tp.Ty → Tp.Ty → Tp.Ty} {ka kb : List Tp.Ty} {k : Nat} {x y : Tp.Ty} (hx : ka[k]? = some x) (hy : kb[k]? = some y) : (List.zipWith M ka kb)[k]? = some (M x y) := by
  rw [List.getElem?_zipWith, hx, hy]

end Go.Proofs.YtaaokecdmbmgbaaDoor.T3
namespace Go.Proofs.YtaaokecdmbmgbaaDoor.T3
set_option maxRecDepth 100000
open Go.RowKit

def msv (a b : Tp.Ty) : Tp.Ty := if Tp.isq a then b else a
theorem merges_meet : Merges msv (fun a b => Tp.isq a || Tp.isq b) Tp.met (fun a b => Tp.cns a b = true) := by
  refine ⟨?_, ?_, ?_, ?_, ?_⟩
  · intro a b h k; cases a <;> cases b <;> simp [Tp.isq, Tp.met, msv] at h k ⊢
  · intro a b h k; unfold msv; split <;> assumption
  · intro a b h k; cases a <;> cases b <;> simp [Tp.isq, Tp.met, Tp.cns, Tp.hd] at h k ⊢
  · intro a b h k; cases a <;> cases b <;> simp [Tp.isq, Tp.met, Tp.cns, Tp.kids] at h k ⊢
  · intro a b h k n x y hx hy
    cases a <;> cases b <;> simp [Tp.isq, Tp.cns, Tp.kids] at h k hx hy
    all_goals
      match n with
      | 0 => simp at hx hy; subst hx; subst hy; first | exact h.1 | exact h
      | 1 => simp at hx hy; try (subst hx; subst hy; exact h.2)
      | _ + 2 => simp at hx
def jsb (a b : Tp.Ty) : Bool := ((Tp.hd a).toNat : Int) != ((Tp.hd b).toNat : Int)
theorem jsb_false {a b : Tp.Ty} (h : jsb a b = false) : Tp.hd a = Tp.hd b := by
  unfold jsb at h
  simp only [bne_eq_false_iff_eq] at h
  exact UInt8.toNat_inj.1 (by omega)
theorem jsb_true {a b : Tp.Ty} (h : jsb a b = true) : Tp.hd a ≠ Tp.hd b := by
  unfold jsb at h
  intro e
  rw [e] at h
  simp at h
theorem merges_join : Merges (fun _ _ => .tq) jsb Tp.joi (fun _ _ => True) := by
  refine ⟨?_, ?_, ?_, ?_, ?_⟩
  · intro a b _ k; have := jsb_true k; cases a <;> cases b <;> simp [Tp.joi, Tp.hd] at this ⊢
  · intro a b h k; simp [Tp.enc]
  · intro a b _ k; have := jsb_false k; cases a <;> cases b <;> simp [Tp.joi, Tp.hd] at this ⊢
  · intro a b _ k; have := jsb_false k; cases a <;> cases b <;> simp [Tp.joi, Tp.hd, Tp.kids] at this ⊢
  · intros; trivial

/-- P3.2 of two types. -/
def mtS (a b : Tp.Ty) : List UInt8 := if Tp.cns a b then Tp.val (Tp.met a b) else []
def mtE (a b : Tp.Ty) : Nat := if Tp.cns a b then Tp.merr (Tp.met a b) else 30

end Go.Proofs.YtaaokecdmbmgbaaDoor.T3
namespace Go.Proofs.YtaaokecdmbmgbaaDoor.T3
open Go.RowKit
set_option maxRecDepth 100000
set_option linter.unusedSimpArgs false

/-- P3.3: the parts, and whether it matches. -/
def mtL (t : Tp.Ty) (h : Int) : List (List UInt8) := if ((Tp.hd t).toNat : Int) = h then (Tp.kids t).map Tp.enc else if t = .tq then List.replicate (Tp.ar h).toNat [63] else []
def mtB (t : Tp.Ty) (h : Int) : Bool := decide (((Tp.hd t).toNat : Int) = h) || (decide (t = .tq) && decide (1 ≤ Tp.ar h))
theorem mt_same {t : Tp.Ty} {h : Int} (e : ((Tp.hd t).toNat : Int) = h) : mtL t h = (Tp.kids t).map Tp.enc ∧ mtB t h = true := by simp [mtL, mtB, e]
theorem mt_else {t : Tp.Ty} {h : Int} (e : ((Tp.hd t).toNat : Int) ≠ h) (q : t ≠ .tq) : mtL t h = [] ∧ mtB t h = false := by simp [mtL, mtB, e, q]
theorem mt_q {h : Int} (e : (63 : Int) ≠ h) : mtL .tq h = List.replicate (Tp.ar h).toNat [63] ∧ mtB .tq h = decide (1 ≤ Tp.ar h) := by
  have : ((Tp.hd .tq).toNat : Int) ≠ h := e
  simp [mtL, mtB, this]
theorem mtL_len (t : Tp.Ty) (h : Int) : (mtL t h).length ≤ 2 := by
  unfold mtL
  split
  · cases t <;> simp [Tp.kids]
  · split
    · have := (Tp.ar_bd h).2
      simp; omega
    · simp

theorem rcheck1 (w : World) (l : List UInt8) (W : World) (hW : W = w.alloc (.cells #[.string (S l)] 9)) (n : Nat) (hn : n = w.heap.size) : Calls Tryd.prog 68 #[.slice (some ⟨n, 0, none⟩) 1 1] W fun e w' => e = .returned (.int .i64 (Tp.firstBad [l])) ∧ w' = W := by
  subst hW hn
  exact rcheck_any _ [l] _ (texts1 w l) (by simp)
theorem own_lower {w : World} {b b' e n : Nat} {v : Value} {xs : List Value} (h : w.ownsRow b e 1 v n xs) (hb : b' ≤ b) : w.ownsRow b' e 1 v n xs := by
  obtain ⟨h1, h2 | ⟨g, cap, cur, rfl, hg, hr⟩⟩ := h
  · exact ⟨h1, .inl h2⟩
  · exact ⟨h1, .inr ⟨g, cap, cur, rfl, Nat.le_trans hb hg, hr⟩⟩
theorem own_lit2 {w W : World} {n b : Nat} (hW : W = w.alloc (.cells #[.string ⟨#[63]⟩, .string ⟨#[63]⟩] 9)) (hn : n = w.heap.size) (hb : b ≤ n) : W.ownsRow b 9 1 (.slice (some ⟨n, 0, none⟩) 2 2) 2 (tcells [[63], [63]]) := by
  subst hW hn
  exact own_lower (own_lit w (tcells [[63], [63]]) 9 (by simp [tcells, maxLen])) hb
theorem own_lit1 {w W : World} {n b : Nat} (hW : W = w.alloc (.cells #[.string ⟨#[63]⟩] 9)) (hn : n = w.heap.size) (hb : b ≤ n) : W.ownsRow b 9 1 (.slice (some ⟨n, 0, none⟩) 1 1) 1 (tcells [[63]]) := by
  subst hW hn
  exact own_lower (own_lit w (tcells [[63]]) 9 (by simp [tcells, maxLen])) hb

set_option maxHeartbeats 1000000 in
theorem match_no (l : List UInt8) (h : Int) (hc : (Tp.chk l).1 ≠ 0) (w : World) :
    Calls Tryd.prog 85 #[.string (S l), .int .u8 h] w fun e w' => e = .returned (.tuple #[.slice none 0 0, .bool false]) ∧ Below w.heap.size w w' := by
  have hb' : ((Tp.firstBad [l] : Int) != 0) = true := by simp [Tp.firstBad, hc]
  have hck := fun w => rcheck1 w l
  generalize S l = s at *
  go_enter Tryd.func85, Tryd.ntmps85
  go_wp2_with (go_at_call 68; refine (hck _ _ rfl _ (by simp)).mono ?_; rintro e w' ⟨rfl, rfl⟩)
  go_ret2
  exact ⟨rfl, below_alloc _ _⟩

set_option maxHeartbeats 4000000 in
theorem match_yes (t : Tp.Ty) (h : Int) (h64 : (Tp.enc t).length ≤ 64) (w : World) :
    Calls Tryd.prog 85 #[.string (S (Tp.enc t)), .int .u8 h] w fun e w' => ∃ v, e = .returned (.tuple #[v, .bool (mtB t h)]) ∧ w'.ownsRow w.heap.size 9 1 v (mtL t h).length (tcells (mtL t h)) ∧ Below w.heap.size w w' := by
  have hg : Tp.firstBad [Tp.enc t] = 0 := by simp [Tp.firstBad, Tp.chk_enc t h64]
  have hck := fun w => rcheck1 w (Tp.enc t)
  rw [hg] at hck
  have h1 := head_yes t h64
  have hp := parts_yes t h64
  have hq := Tp.isq_S t
  by_cases e : ((Tp.hd t).toNat : Int) = h
  · have HM : Aside (mtL t h = (Tp.kids t).map Tp.enc ∧ mtB t h = true) := mt_same e
    subst e
    generalize S (Tp.enc t) = s at *
    go_enter Tryd.func85, Tryd.ntmps85
    go_wp2_with (first | (go_at_call 68; refine (hck _ _ rfl _ (by simp)).mono ?_; rintro e w' ⟨rfl, hw'⟩; replace hw' := hw'.symm; subst hw') | (go_at_call 53; refine (h1 _).mono ?_; rintro e w' ⟨rfl, hw'⟩; replace hw' := hw'.symm; subst hw') | (go_at_call 52; refine (hp _).mono ?_; rintro e w1 ⟨v, rfl, hown, hB⟩))
    go_ret2
    rw [HM.out.1, HM.out.2]
    refine ⟨v, rfl, ?_, (below_alloc _ _).trans (hB.mono (by simp))⟩
    rw [List.length_map]
    exact own_lower hown (by simp)
  · have e' : (((Tp.hd t).toNat : Int) == h) = false := by simpa using e
    by_cases hqq : t = .tq
    · subst hqq
      have hqt : (S (Tp.enc .tq)).toList = [63] := toList_S _
      have hh1 : ∀ w : World, Calls Tryd.prog 53 #[.string (S (Tp.enc .tq))] w fun e w' => e = .returned (.int .u8 63) ∧ w' = w := h1
      replace h1 := hh1
      clear hh1 hp hq hg
      have e6 : (63 : Int) ≠ h := e
      have e6' : ((63 : Int) == h) = false := by simpa using e6
      obtain ⟨m1, m2⟩ := mt_q e6
      rw [m1, m2]
      clear m1 m2 e e'
      generalize S (Tp.enc .tq) = s at *
      by_cases hh62 : h = 62
      · subst hh62
        go_enter Tryd.func85, Tryd.ntmps85
        go_wp2_with (first | (go_at_call 68; refine (hck _ _ rfl _ (by simp)).mono ?_; rintro e w' ⟨rfl, hw'⟩; replace hw' := hw'.symm; subst hw') | (go_at_call 53; refine (h1 _).mono ?_; rintro e w' ⟨rfl, hw'⟩; replace hw' := hw'.symm; subst hw'))
        go_ret2
        refine ⟨_, rfl, ?_, ((Below.refl _ _).alloc (Nat.le_refl _) _).alloc (by simp) _⟩
        exact own_lit2 rfl (by simp) (by simp)
      have d62 : (h == 62) = false := by simpa using hh62
      by_cases hh44 : h = 44
      · subst hh44
        go_enter Tryd.func85, Tryd.ntmps85
        go_wp2_with (first | (go_at_call 68; refine (hck _ _ rfl _ (by simp)).mono ?_; rintro e w' ⟨rfl, hw'⟩; replace hw' := hw'.symm; subst hw') | (go_at_call 53; refine (h1 _).mono ?_; rintro e w' ⟨rfl, hw'⟩; replace hw' := hw'.symm; subst hw'))
        go_ret2
        refine ⟨_, rfl, ?_, ((Below.refl _ _).alloc (Nat.le_refl _) _).alloc (by simp) _⟩
        exact own_lit2 rfl (by simp) (by simp)
      have d44 : (h == 44) = false := by simpa using hh44
      by_cases hh108 : h = 108
      · subst hh108
        go_enter Tryd.func85, Tryd.ntmps85
        go_wp2_with (first | (go_at_call 68; refine (hck _ _ rfl _ (by simp)).mono ?_; rintro e w' ⟨rfl, hw'⟩; replace hw' := hw'.symm; subst hw') | (go_at_call 53; refine (h1 _).mono ?_; rintro e w' ⟨rfl, hw'⟩; replace hw' := hw'.symm; subst hw'))
        go_ret2
        refine ⟨_, rfl, ?_, ((Below.refl _ _).alloc (Nat.le_refl _) _).alloc (by simp) _⟩
        exact own_lit1 rfl (by simp) (by simp)
      have d108 : (h == 108) = false := by simpa using hh108
      by_cases hh120 : h = 120
      · subst hh120
        go_enter Tryd.func85, Tryd.ntmps85
        go_wp2_with (first | (go_at_call 68; refine (hck _ _ rfl _ (by simp)).mono ?_; rintro e w' ⟨rfl, hw'⟩; replace hw' := hw'.symm; subst hw') | (go_at_call 53; refine (h1 _).mono ?_; rintro e w' ⟨rfl, hw'⟩; replace hw' := hw'.symm; subst hw'))
        go_ret2
        refine ⟨_, rfl, ?_, ((Below.refl _ _).alloc (Nat.le_refl _) _).alloc (by simp) _⟩
        exact own_lit1 rfl (by simp) (by simp)
      have d120 : (h == 120) = false := by simpa using hh120
      have ha : (Tp.ar h).toNat = 0 ∧ decide (1 ≤ Tp.ar h) = false := by
        unfold Tp.ar
        simp only [hh62, hh44, hh108, hh120, beq_iff_eq, Bool.or_eq_true, or_false, if_false]
        split <;> simp
      rw [ha.1, ha.2]
      clear hh62 hh44 hh108 hh120 ha
      go_enter Tryd.func85, Tryd.ntmps85
      go_wp2_with (first | (go_at_call 68; refine (hck _ _ rfl _ (by simp)).mono ?_; rintro e w' ⟨rfl, hw'⟩; replace hw' := hw'.symm; subst hw') | (go_at_call 53; refine (h1 _).mono ?_; rintro e w' ⟨rfl, hw'⟩; replace hw' := hw'.symm; subst hw'))
      all_goals
        go_ret2
        exact ⟨_, rfl, own_nil _ _ _ _, below_alloc _ _⟩
    · have HM : Aside (mtL t h = [] ∧ mtB t h = false) := mt_else e hqq
      rw [show Tp.isq t = false by simpa [Tp.isq] using hqq] at hq
      generalize S (Tp.enc t) = s at *
      go_enter Tryd.func85, Tryd.ntmps85
      go_wp2_with (first | (go_at_call 68; refine (hck _ _ rfl _ (by simp)).mono ?_; rintro e w' ⟨rfl, hw'⟩; replace hw' := hw'.symm; subst hw') | (go_at_call 53; refine (h1 _).mono ?_; rintro e w' ⟨rfl, hw'⟩; replace hw' := hw'.symm; subst hw'))
      go_ret2
      rw [HM.out.1, HM.out.2]
      exact ⟨_, rfl, own_nil _ _ _ _, below_alloc _ _⟩

end Go.Proofs.YtaaokecdmbmgbaaDoor.T3
namespace Go.Proofs.YtaaokecdmbmgbaaDoor
/-- The worlds that meet S, as a type: so a fact of all of them is a rule without a condition. -/
structure Cls (S : World → Prop) where
  w : World
  h : S w
theorem wp_region_calm {P : Program} (S : World → Prop) {id : Nat} {Q : Exit → Act → World → Prop} {a : Act} {w : World} {l : List Oper} (hm : P.follows .mixedOrders = true) (hB : Region.lexB .any l.toArray = true) (h0 : S w.drew)
    (h : wpQuiet P l.toArray (fun w' => ∃ x : Cls S, w' = x.w) (fun a' => ∀ w', (∃ x : Cls S, w' = x.w) → Q .normal a' w') l a) : (Code.region id l.toArray true).wp P Q a w :=
  wp_region_quiet (C := fun w' => ∃ x : Cls S, w' = x.w) hm hB ⟨⟨w.drew, h0⟩, rfl⟩ (by simpa using h)
theorem calls_calm {P : Program} {f : FuncId} {args : Array Value} {S : World → Prop} {W : World} {v : Value} (h : Calls P f args W fun e w' => e = .returned v ∧ S w') : Calls P f args W fun e w' => e = .returned v ∧ ∃ x : Cls S, w' = x.w :=
  h.mono fun _ w' ⟨he, hs⟩ => ⟨he, ⟨w', hs⟩, rfl⟩
end Go.Proofs.YtaaokecdmbmgbaaDoor
namespace Go.Proofs.YtaaokecdmbmgbaaDoor.T3
open Go.RowKit
set_option maxRecDepth 100000

/-- What a letter does to the number of types still to come. -/
theorem ar_cases (c : Int) : (Tp.ar c = 0 ∧ (c = 105 ∨ c = 98 ∨ c = 116 ∨ c = 63)) ∨ (Tp.ar c = 1 ∧ (c = 108 ∨ c = 120)) ∨ (Tp.ar c = 2 ∧ (c = 62 ∨ c = 44)) ∨ (Tp.ar c = -1 ∧ c ≠ 105 ∧ c ≠ 98 ∧ c ≠ 116 ∧ c ≠ 63 ∧ c ≠ 108 ∧ c ≠ 120 ∧ c ≠ 62 ∧ c ≠ 44) := by
  unfold Tp.ar
  simp only [beq_iff_eq, Bool.or_eq_true]
  split
  · left; refine ⟨rfl, ?_⟩; omega
  · split
    · right; left; exact ⟨rfl, by omega⟩
    · split
      · right; right; left; exact ⟨rfl, by omega⟩
      · right; right; right; refine ⟨rfl, ?_⟩; omega

/-- The document's answer of Behind from a place on. -/
def bhd (l : List UInt8) (k : Nat) : Int := if (Tp.beh (l.drop k) 1).2 then ((k + (Tp.beh (l.drop k) 1).1 : Nat) : Int) else -1
/-- So far. -/
def SoK (l : List UInt8) (k j m : Nat) : Prop := k ≤ j ∧ Tp.beh (l.drop k) 1 = (j - k + (Tp.beh (l.drop j) m).1, (Tp.beh (l.drop j) m).2)
theorem SoK.start (l : List UInt8) (k : Nat) : SoK l k k 1 := ⟨Nat.le_refl _, by simp⟩
theorem SoK.step {l : List UInt8} {k j m : Nat} (h : SoK l k j (m + 1)) (hj : j < l.length) (ha : 0 ≤ Tp.ar (Tp.B l j)) : SoK l k (j + 1) (m + (Tp.ar (Tp.B l j)).toNat) := by
  obtain ⟨h0, h⟩ := h
  obtain ⟨c, hd, hc⟩ := Tp.drop_B hj
  rw [hd, Tp.beh_cons _ _ _ (by rw [hc]; omega), hc] at h
  exact ⟨by omega, by rw [h]; exact Prod.ext (by simp; omega) rfl⟩
theorem SoK.bad {l : List UInt8} {k j m : Nat} (h : SoK l k j (m + 1)) (hj : j < l.length) (ha : Tp.ar (Tp.B l j) < 0) : bhd l k = -1 := by
  obtain ⟨h0, h⟩ := h
  obtain ⟨c, hd, hc⟩ := Tp.drop_B hj
  rw [hd, Tp.beh, if_pos (by rw [hc]; exact ha)] at h
  unfold bhd
  rw [h]; rfl
theorem SoK.out {l : List UInt8} {k j m : Nat} (h : SoK l k j (m + 1)) (hj : ¬ j < l.length) : bhd l k = -1 := by
  obtain ⟨h0, h⟩ := h
  rw [show l.drop j = [] from List.drop_eq_nil_of_le (by omega)] at h
  unfold bhd
  rw [h]; rfl
theorem SoK.zero {l : List UInt8} {k j : Nat} (h : SoK l k j 0) : bhd l k = j := by
  obtain ⟨h0, h⟩ := h
  rw [Tp.beh_zero] at h
  unfold bhd
  rw [h]
  simp; omega

set_option maxHeartbeats 2000000 in
theorem behind4_any (s : ByteArray) (hs : s.size ≤ 64) (k : Nat) (hk : k < s.size) (w : World) :
    Calls Tryd.prog 39 #[.string s, .int .i64 k] w fun e w' => e = .returned (.int .i64 (bhd s.data.toList k)) ∧ w' = w := by
  have HL : Aside (s.data.toList.length = s.size) := str_len s
  have hk1 : decide ((k : Int) < 0) = false := by simp
  have hk2 : decide ((s.size : Int) ≤ (k : Int)) = false := by simp; omega
  generalize hbv : bhd s.data.toList k = bv at *
  go_enter Tryd.func39, Tryd.ntmps39
  go_wp2_with fail
  go_loopg [1, 5] (s.size - k) (fun g t mv wr => ∃ j m : Nat, wr = w ∧ t = .int .i64 j ∧ mv = .int .i64 m ∧ j + g = s.size ∧ m ≤ j + 1 ∧ Aside (SoK s.data.toList k j m))
  case atStart => exact ⟨k, 1, rfl, rfl, rfl, by omega, by omega, SoK.start _ _⟩
  case round =>
    obtain ⟨j, m, rfl, rfl, rfl, hjg, hmj, HS⟩ := hrel
    have hj0 : (0 : Int) ≤ (j : Int) := by omega
    by_cases hj : j < s.size
    · have hj' : (j : Int) < (s.size : Int) := by omega
      cases m with
      | zero =>
        have HB : Aside (bv = j) := by show _ = _; rw [← hbv]; exact HS.out.zero
        go_wp2_with fail
        go_ret
        rw [HB.out]
        exact ⟨rfl, rfl⟩
      | succ m =>
        have hBk := str_B s j hj
        have hm0 : (0 : Int) < (((m + 1 : Nat) : Int)) := by omega
        have hjl : j < s.data.toList.length := by rw [HL.out]; exact hj
        rcases ar_cases (Tp.B s.data.toList j) with ⟨ha, hc⟩ | ⟨ha, hc⟩ | ⟨ha, hc⟩ | ⟨ha, hc⟩
        · have H2 : Aside (SoK s.data.toList k (j + 1) m) := by have := HS.out.step hjl (by omega); rw [ha] at this; exact this
          clear ha
          rcases hc with hc | hc | hc | hc
          all_goals
            rw [hc] at hBk
            clear hc
            go_wp2_with fail
            go_roundg (gk - 1)
            case measure => omega
            case rel => exact ⟨j + 1, m, rfl, by go_num, by go_num, by omega, by omega, H2⟩
        · have H2 : Aside (SoK s.data.toList k (j + 1) (m + 1)) := by have := HS.out.step hjl (by omega); rw [ha] at this; exact this
          clear ha
          rcases hc with hc | hc
          all_goals
            rw [hc] at hBk
            clear hc
            go_wp2_with fail
            go_roundg (gk - 1)
            case measure => omega
            case rel => exact ⟨j + 1, m + 1, rfl, by go_num, rfl, by omega, by omega, H2⟩
        · have H2 : Aside (SoK s.data.toList k (j + 1) (m + 2)) := by have := HS.out.step hjl (by omega); rw [ha] at this; exact this
          clear ha
          rcases hc with hc | hc
          all_goals
            rw [hc] at hBk
            clear hc
            go_wp2_with fail
            go_roundg (gk - 1)
            case measure => omega
            case rel => exact ⟨j + 1, m + 2, rfl, by go_num, by go_num, by omega, by omega, H2⟩
        · have HB : Aside (bv = -1) := by show _ = _; rw [← hbv]; exact HS.out.bad hjl (by omega)
          obtain ⟨c1, c2, c3, c4, c5, c6, c7, c8⟩ := hc
          generalize Tp.B s.data.toList j = q at *
          have k1 : (q == 105) = false := by simpa using c1
          have k2 : (q == 98) = false := by simpa using c2
          have k3 : (q == 116) = false := by simpa using c3
          have k4 : (q == 63) = false := by simpa using c4
          have k5 : (q == 108) = false := by simpa using c5
          have k6 : (q == 120) = false := by simpa using c6
          have k7 : (q == 62) = false := by simpa using c7
          have k8 : (q == 44) = false := by simpa using c8
          clear ha c1 c2 c3 c4 c5 c6 c7 c8
          go_wp2_with fail
          go_ret
          rw [HB.out]
          exact ⟨rfl, rfl⟩
    · have hj' : decide ((j : Int) < (s.size : Int)) = false := by simp; omega
      cases m with
      | zero =>
        have HB : Aside (bv = j) := by show _ = _; rw [← hbv]; exact HS.out.zero
        go_wp2_with fail
        go_ret
        rw [HB.out]
        exact ⟨rfl, rfl⟩
      | succ m =>
        have HB : Aside (bv = -1) := by show _ = _; rw [← hbv]; exact HS.out.out (by rw [HL.out]; exact hj)
        have hm0 : (0 : Int) < (((m + 1 : Nat) : Int)) := by omega
        go_wp2_with fail
        go_ret
        rw [HB.out]
        exact ⟨rfl, rfl⟩

theorem ret_b {b c : Bool} (h : b = c) : Ending.returned (.bool b) = .returned (.bool c) := by rw [h]

set_option maxHeartbeats 1000000 in
theorem good16_any (s : ByteArray) (w : World) :
    Calls Tryd.prog 16 #[.string s] w fun e w' => e = .returned (.bool ((Tp.chk s.data.toList).1 == 0)) ∧ w' = w := by
  have hsl := str_len s
  by_cases h64 : s.size ≤ 64
  · have h64' : (s.size : Int) ≤ 64 := by omega
    by_cases h0 : 0 < s.size
    · have h0' : (0 : Int) < (s.size : Int) := by omega
      have hb := behind4_any s h64 0 h0
      have HV : Aside (((Tp.chk s.data.toList).1 == 0) = (bhd s.data.toList 0 == (s.size : Int))) := by
        show _ = _
        unfold bhd
        rw [List.drop_zero]
        cases hg : (Tp.beh s.data.toList 1).2 with
        | false =>
          rw [Tp.chk_bad (by omega) (.inl hg)]
          simp
        | true =>
          by_cases hl : (Tp.beh s.data.toList 1).1 = s.data.toList.length
          · rw [Tp.chk_good (by omega) (Prod.ext hl hg)]
            simp [hl, hsl]
          · rw [Tp.chk_bad (by omega) (.inr hl)]
            rw [hsl] at hl
            simp; omega
      generalize bhd s.data.toList 0 = bv at *
      clear hsl
      go_enter Tryd.func16, Tryd.ntmps16
      go_wp2_with (go_at_call 39; refine (hb _).mono ?_; rintro e w' ⟨rfl, hw'⟩; replace hw' := hw'.symm; subst hw')
      go_ret
      rw [HV.out]
      exact ⟨rfl, rfl⟩
    · have hs0 : s.data.toList = [] := List.length_eq_zero_iff.1 (by omega)
      have h0' : decide ((0 : Int) < (s.size : Int)) = false := decide_eq_false (by omega)
      have HV : Aside (((Tp.chk s.data.toList).1 == 0) = false) := by show _ = _; rw [hs0]; decide
      clear hsl hs0
      go_enter Tryd.func16, Tryd.ntmps16
      go_wp2_with fail
      go_ret
      rw [HV.out]
      exact ⟨rfl, rfl⟩
  · have h64' : decide ((s.size : Int) ≤ 64) = false := by simp; omega
    have HV : Aside (((Tp.chk s.data.toList).1 == 0) = false) := by show _ = _; rw [Tp.chk_long (by omega)]; rfl
    clear hsl
    go_enter Tryd.func16, Tryd.ntmps16
    go_wp2_with fail
    go_ret
    rw [HV.out]
    exact ⟨rfl, rfl⟩
theorem bhd_at {l r : List UInt8} {k : Nat} {t : Tp.Ty} (h : l.drop k = Tp.enc t ++ r) : bhd l k = ((k + (Tp.enc t).length : Nat) : Int) := by
  unfold bhd
  rw [h, Tp.beh_enc t r 0, Tp.beh_zero]
  simp

set_option maxHeartbeats 1000000 in
theorem part0_any (s : ByteArray) (u : Tp.Ty) (c : UInt8) (r : List UInt8) (hs : s = S (c :: (Tp.enc u ++ r))) (h64 : (c :: (Tp.enc u ++ r)).length ≤ 64) (w : World) :
    Calls Tryd.prog 41 #[.string s, .int .i64 0] w fun e w' => e = .returned (.string (S (Tp.enc u))) ∧ w' = w := by
  have hz : s.size = 1 + (Tp.enc u).length + r.length := by rw [hs, S_size]; simp; omega
  have hp := Tp.enc_pos u
  have h64' : s.size ≤ 64 := by rw [hs, S_size]; exact h64
  have hb := behind4_any s h64' 1 (by omega)
  rw [show bhd s.data.toList 1 = ((1 + (Tp.enc u).length : Nat) : Int) from bhd_at (r := r) (by rw [hs]; rfl)] at hb
  have HE : Aside (s.extract 1 (1 + (Tp.enc u).length) = S (Tp.enc u)) := by
    show _ = _
    rw [hs, S_cut]
    simp
  have hn1 : ((1 + (Tp.enc u).length : Nat) : Int) ≤ (s.size : Int) := by omega
  have hn2 : (1 : Int) ≤ ((1 + (Tp.enc u).length : Nat) : Int) := by omega
  generalize 1 + (Tp.enc u).length = n at *
  clear hs hz h64
  go_enter Tryd.func41, Tryd.ntmps41
  go_wp2_with fail
  go_loopg [5, 6] 0 (fun g t kv wr => wr = w ∧ t = .int .i64 1 ∧ kv = .int .i64 0)
  case atStart => exact ⟨rfl, rfl, rfl⟩
  case round =>
    obtain ⟨rfl, rfl, rfl⟩ := hrel
    go_wp2_with (go_at_call 39; refine (hb _).mono ?_; rintro e w' ⟨rfl, hw'⟩; replace hw' := hw'.symm; subst hw')
    go_ret
    exact ⟨by first | (rw [← HE.out]; rfl) | (congr 2; rw [← HE.out]; congr 1), rfl⟩

set_option maxHeartbeats 1000000 in
theorem part1_any (s : ByteArray) (u v : Tp.Ty) (c : UInt8) (hs : s = S (c :: (Tp.enc u ++ Tp.enc v))) (h64 : (c :: (Tp.enc u ++ Tp.enc v)).length ≤ 64) (w : World) :
    Calls Tryd.prog 41 #[.string s, .int .i64 1] w fun e w' => e = .returned (.string (S (Tp.enc v))) ∧ w' = w := by
  have hz : s.size = 1 + (Tp.enc u).length + (Tp.enc v).length := by rw [hs, S_size]; simp; omega
  have hp := Tp.enc_pos u
  have hp2 := Tp.enc_pos v
  have h64' : s.size ≤ 64 := by rw [hs, S_size]; exact h64
  have hb := behind4_any s h64' 1 (by omega)
  rw [show bhd s.data.toList 1 = ((1 + (Tp.enc u).length : Nat) : Int) from bhd_at (r := Tp.enc v) (by rw [hs]; rfl)] at hb
  have hb2 := behind4_any s h64' (1 + (Tp.enc u).length) (by omega)
  rw [show bhd s.data.toList (1 + (Tp.enc u).length) = ((1 + (Tp.enc u).length + (Tp.enc v).length : Nat) : Int) from bhd_at (r := []) (by rw [hs, S_list, Nat.add_comm]; simp)] at hb2
  have HE : Aside (s.extract (1 + (Tp.enc u).length) (1 + (Tp.enc u).length + (Tp.enc v).length) = S (Tp.enc v)) := by
    show _ = _
    rw [hs, S_cut, Nat.add_comm 1]
    simp
  have hn1 : ((1 + (Tp.enc u).length + (Tp.enc v).length : Nat) : Int) ≤ (s.size : Int) := by omega
  have hn2 : ((1 + (Tp.enc u).length : Nat) : Int) ≤ ((1 + (Tp.enc u).length + (Tp.enc v).length : Nat) : Int) := by omega
  have hn3 : (0 : Int) ≤ ((1 + (Tp.enc u).length : Nat) : Int) := by omega
  generalize hm : 1 + (Tp.enc u).length + (Tp.enc v).length = m at *
  generalize hn : 1 + (Tp.enc u).length = n at *
  have hb1' : ∀ w : World, Calls Tryd.prog 39 #[.string s, .int .i64 1] w fun e w' => e = .returned (.int .i64 n) ∧ w' = w := hb
  clear hs hz h64 hm hn hb
  go_enter Tryd.func41, Tryd.ntmps41
  go_wp2_with fail
  go_loopg [5, 6] 1 (fun g t kv wr => wr = w ∧ ((g = 1 ∧ t = .int .i64 1 ∧ kv = .int .i64 0) ∨ (g = 0 ∧ t = .int .i64 n ∧ kv = .int .i64 1)))
  case atStart => exact ⟨rfl, .inl ⟨rfl, rfl, rfl⟩⟩
  case round =>
    obtain ⟨rfl, ⟨hg, rfl, rfl⟩ | ⟨hg, rfl, rfl⟩⟩ := hrel
    · go_wp2_with (go_at_call 39; refine (hb1' _).mono ?_; rintro e w' ⟨rfl, hw'⟩; replace hw' := hw'.symm; subst hw')
      go_roundg 0
      case measure => omega
      case rel => exact ⟨rfl, .inr ⟨rfl, rfl, rfl⟩⟩
    · go_wp2_with (go_at_call 39; refine (hb2 _).mono ?_; rintro e w' ⟨rfl, hw'⟩; replace hw' := hw'.symm; subst hw')
      go_ret
      exact ⟨by first | (rw [← HE.out]; rfl) | (congr 2; rw [← HE.out]; congr 1), rfl⟩

def npt (c : Int) : Int := if c == 62 || c == 44 then 2 else if c == 108 || c == 120 then 1 else 0
theorem npt_ar (c : Int) (h : 0 ≤ Tp.ar c) : npt c = Tp.ar c := by
  rcases ar_cases c with ⟨h1, rfl | rfl | rfl | rfl⟩ | ⟨h1, rfl | rfl⟩ | ⟨h1, rfl | rfl⟩ | ⟨h1, _⟩ <;> first | rfl | omega
set_option maxHeartbeats 400000 in
theorem parts4_any (c : Int) (w : World) :
    Calls Tryd.prog 55 #[.int .u8 c] w fun e w' => e = .returned (.int .i64 (npt c)) ∧ w' = w := by
  go_enter Tryd.func55, Tryd.ntmps55
  go_wp2
  all_goals
    go_ret
    refine ⟨ret_int ?_, rfl⟩
    unfold npt
    simp_all
end Go.Proofs.YtaaokecdmbmgbaaDoor.T3
