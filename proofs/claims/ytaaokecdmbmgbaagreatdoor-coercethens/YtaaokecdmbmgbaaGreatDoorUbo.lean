/- The document's High and Id. The document's List. The bag: all but the lists of texts are empty. One more list in the bag. The bag with two lists in it, made ready. A builder of package strings in memory: what writes into it. Package coerce: written, of nodes without ? at their ends, with small labels; Text. Package coerce: size and lay of the casts that works asks for. Package coerce: lay of the casts that works asks for. Package coerce: lay of two function types. Package coerce: Of at the two casts of works; works. works: two casts, one behind the other, as a text. -/
import Derived.Test.YtaaokecdmbmgbaaGreatDoorUbc
import Derived.Test.YtaaokecdmbmgbaaGreatDoorUav
import Derived.Test.YtaaokecdmbmgbaaGreatDoorUbg
import Derived.Test.YtaaokecdmbmgbaaGreatDoorUbe
import Derived.Test.YtaaokecdmbmgbaaGreatDoorUbi
import Derived.Test.YtaaokecdmbmgbaaGreatDoorUbn
import Derived.Test.YtaaokecdmbmgbaaGreatDoorUax
import Derived.Test.YtaaokecdmbmgbaaGreatDoorUay
import Derived.StillTailTactics
namespace Go.Proofs.YtaaokecdmbmgbaaGreatDoor
open Go.RowKit Cc
set_option maxRecDepth 100000
set_option linter.unusedSimpArgs false
set_option linter.unusedVariables false
namespace Cc
def mxs : List C → Nat → Nat
  | _, 0 => 0
  | cs, k + 1 => max (mxs cs k) (match cs[k]? with | some c => high c | none => 0)
theorem high_mxs (c : C) : high c = mxs (kidsC c) (kidsC c).length + 1 := by
  cases c <;> simp [high, kidsC, mxs]
def idN (x : N) : Bool := decide (x.proj = 0) && (!x.inj && !decide (x.op = 7))
def idB (c : C) : Bool := (flat c).all idN
def idK : C → Bool
  | .ls p j a => idB a
  | .tw k p j a b => idB a && idB b
  | _ => true
theorem idB_root (c : C) : idB c = (idN (nod c) && idK c) := by
  cases c <;> simp [idB, idK, flat, List.all_append]
theorem idK_all (c : C) : idK c = (kidsC c).all idB := by
  cases c <;> simp [idK, kidsC]
theorem all_drop {cs : List C} {k : Nat} {c : C} (h : cs[k]? = some c) : (cs.drop k).all idB = (idB c && (cs.drop (k + 1)).all idB) := by
  obtain ⟨hk, rfl⟩ := List.getElem?_eq_some_iff.1 h
  rw [List.drop_eq_getElem_cons hk, List.all_cons]
theorem mxs_le {c d : C} {k : Nat} (h : (kidsC c)[k]? = some d) : high d + 1 ≤ high c := by
  cases c with
  | ls p j a =>
    match k, h with
    | 0, h => simp [kidsC] at h; subst h; simp [high]
  | tw q p j a b =>
    match k, h with
    | 0, h => simp [kidsC] at h; subst h; simp [high]; omega
    | 1, h => simp [kidsC] at h; subst h; simp [high]; omega
  | _ => simp [kidsC] at h
theorem mxs_bound {cs : List C} {m : Nat} (h : ∀ (k : Nat) (d : C), cs[k]? = some d → high d ≤ m) : ∀ k : Nat, mxs cs k ≤ m
  | 0 => by simp [mxs]
  | k + 1 => by
    rw [mxs]
    have h1 := mxs_bound h k
    cases e : cs[k]? with
    | none => simp; exact h1
    | some d => have := h k d e; simp only; omega
end Cc
theorem kid_ind {p : C → Prop} (h : ∀ c, (∀ d ∈ kidsC c, p d) → p c) : ∀ c, p c
  | .any => h _ (by simp [kidsC])
  | .bs .. => h _ (by simp [kidsC])
  | .fl .. => h _ (by simp [kidsC])
  | .ls _ _ a => h _ (by simp only [kidsC, List.mem_singleton]; rintro d rfl; exact kid_ind h _)
  | .tw _ _ _ a b => h _ (by
      simp only [kidsC, List.mem_cons, List.mem_nil_iff, or_false]
      rintro d (rfl | rfl)
      · exact kid_ind h _
      · exact kid_ind h _)
end Go.Proofs.YtaaokecdmbmgbaaGreatDoor
namespace Go.Proofs.YtaaokecdmbmgbaaGreatDoor
open Go.RowKit Cc
set_option maxRecDepth 100000
set_option linter.unusedSimpArgs false
set_option linter.unusedVariables false
namespace Cc
theorem Own.open' {w0 w : World} {v : Value} {l : List N} (h : Own w0 w v l) (hl : l ≠ []) : ∃ g q, v = .slice (some ⟨g, 0, none⟩) l.length q ∧ ∀ j u, (crow l)[j]? = some u → w.cell? ((⟨g, 0, none⟩ : Addr).add j) = some u := by
  rcases h.2 with ⟨-, e⟩ | ⟨g, cap, cur, e1, e2, e3, e4⟩
  · exact absurd (List.eq_nil_of_length_eq_zero e) hl
  · refine ⟨g, cap, e1, ?_⟩
    have ho : w.ownsRow w0.heap.size 28 7 (.slice (some ⟨g, 0, none⟩) l.length cap) l.length (crow l) := e1 ▸ h
    have : At w g 0 l := At.of_cells fun j u hj => by
      have hj' : j < l.length * 7 := by rw [← crow_len]; exact (List.getElem?_eq_some_iff.1 hj).1
      have := World.ownsRow.cellAt ho j hj'
      rw [Nat.zero_add]
      exact this.trans hj
    exact fun j u hj => this.cells' j u hj
theorem Own.lower {w0 w1 w : World} {v : Value} {l : List N} (h : Own w1 w v l) (hs : w0.heap.size ≤ w1.heap.size) : Own w0 w v l := by
  refine ⟨h.1, ?_⟩
  rcases h.2 with e | ⟨g, cap, cur, e1, e2, e3, e4⟩
  · exact .inl e
  · exact .inr ⟨g, cap, cur, e1, Nat.le_trans hs e2, e3, e4⟩
theorem Own.one (w : World) (x : N) : Own w (w.alloc (.cells (ncell x).toArray 28 (0, 0))) (.slice (some ⟨w.heap.size, 0, none⟩) 1 1) [x] := by
  refine ⟨by simp [crow, ncell], .inr ⟨w.heap.size, 1, (ncell x).toArray, rfl, Nat.le_refl _, heap_top w _, ?_⟩⟩
  simp [crow, ncell]
  decide
def fltL (cs : List C) : List N := cs.flatMap flat
theorem flat_kids (c : C) : flat c = nod c :: fltL (kidsC c) := by cases c <;> simp [flat, fltL, kidsC]
theorem flats_take {cs : List C} {k : Nat} {d : C} (h : cs[k]? = some d) : fltL (cs.take (k + 1)) = fltL (cs.take k) ++ flat d := by
  rw [List.take_add_one, h]; simp [fltL]
theorem flats_len {cs : List C} {k : Nat} : (fltL (cs.take k)).length ≤ (fltL cs).length := by
  have h : fltL cs = fltL (cs.take k) ++ fltL (cs.drop k) := by
    unfold fltL
    rw [← List.flatMap_append, List.take_append_drop]
  rw [h, List.length_append]
  omega
theorem size_kid {c d : C} {k : Nat} (h : (kidsC c)[k]? = some d) : size d ≤ size c := by
  cases c with
  | ls p j a =>
    match k, h with
    | 0, h => simp [kidsC] at h; subst h; simp [size]
  | tw q p j a b =>
    match k, h with
    | 0, h => simp [kidsC] at h; subst h; simp [size]; omega
    | 1, h => simp [kidsC] at h; subst h; simp [size]; omega
  | _ => simp [kidsC] at h
def LiC (c : C) : Prop := ∀ (v : Value) (lo hi : Nat) (w : World), DT w lo hi c v → hi ≤ w.heap.size → size c ≤ 1000000 →
  Calls Tryz.prog 30 #[tree (nod c) v] w fun e w' => ∃ v', e = .returned v' ∧ Own w w' v' (flat c) ∧ Below w.heap.size w w'
end Cc
set_option maxHeartbeats 3200000 in
theorem dList_step (c : C) (hK : ∀ d ∈ kidsC c, LiC d) : LiC c := by
  intro v lo hi w hd hh hb
  obtain ⟨a, cap, ks, rfl, hm, hds, hrow⟩ := hd.row
  have HG : Aside (flat c = nod c :: fltL (ks.map Prod.fst)) := by rw [Aside, hm, flat_kids c]
  have HK : Aside (∀ d ∈ ks.map Prod.fst, LiC d) := by rw [Aside, hm]; exact hK
  have HH : Aside (∀ (k : Nat) (d : C), (ks.map Prod.fst)[k]? = some d → size d ≤ 1000000) := by
    intro k d e
    rw [hm] at e
    have := size_kid e
    omega
  have HZ : Aside (∀ k : Nat, (nod c :: fltL ((ks.map Prod.fst).take k)).length ≤ 1000000) := by
    intro k
    have h1 := flats_len (cs := ks.map Prod.fst) (k := k)
    have h2 := congrArg List.length HG.out
    rw [flat_len] at h2
    rw [List.length_cons] at h2 ⊢
    omega
  have hn : ks.length ≤ 2 := by
    have := congrArg List.length hm
    rw [List.length_map] at this
    rw [this]; cases c <;> simp [kidsC]
  generalize flat c = R at *
  generalize nod c = x at *
  have HR : Aside (ks ≠ [] → ∃ g, a = some ⟨g, 0, none⟩ ∧ lo ≤ g ∧ g < hi ∧ Row8 w g ks) := hrow
  have HD : Aside (∀ k ∈ ks, DT w lo hi k.1 k.2) := hds
  clear hd hm hds hrow hK hb
  go_enter Tryz.func30, Tryz.ntmps30
  go_upto_region 1 with fail
  obtain ⟨W0, hW0⟩ : ∃ W0, W0 = w.alloc (.cells #[.int .i8 x.op, .int .i64 x.proj, .bool x.inj, .int .u8 x.head, .int .i64 x.label, .int .u8 x.frm, .int .u8 x.tto, .slice a ks.length cap] 31) := ⟨_, rfl⟩
  have hB0 : Below w.heap.size w W0 := by rw [hW0]; exact (Below.refl _ _).alloc (Nat.le_refl _) _
  have hT0 : W0.heap[w.heap.size]? = some (.cells (tcells x (.slice a ks.length cap)) 31 (0, 0)) := by rw [hW0]; exact heap_top w _
  have hK9 : w.heap.size < W0.heap.size := by rw [hW0]; simp
  have HT : Aside (∀ W, Below W0.heap.size W0 W → W.cell? ⟨w.heap.size, 7, none⟩ = some (.slice a ks.length cap)) := fun W h => (tcells_at ((h.block w.heap.size hK9).trans hT0)).1.2.2.2.2.2.2.2
  obtain ⟨s0, s1, s2, s3, s4, s5, s6, s7⟩ := (tcells_at hT0).1
  rw [← hW0]
  clear hW0 hT0
  have HO0 : Aside (Own W0 (W0.alloc (.cells #[.int .i8 x.op, .int .i64 x.proj, .bool x.inj, .int .u8 x.head, .int .i64 x.label, .int .u8 x.frm, .int .u8 x.tto] 28)) (.slice (some ⟨W0.heap.size, 0, none⟩) 1 1) [x]) := Own.one W0 x
  go_wp2_with fail
  clear s0 s1 s2 s3 s4 s5 s6 s7
  go_loopg [3, 4] ks.length (fun gq v3 v4 wr => ∃ (k : Nat) (oa : Option Addr) (on oc : Nat), k + gq = ks.length ∧ v3 = .slice oa on oc ∧ v4 = .int .i64 (k : Int) ∧ Aside (Own W0 wr (.slice oa on oc) (x :: fltL ((ks.map Prod.fst).take k))) ∧ Aside (Below W0.heap.size W0 wr))
  case atStart => exact ⟨0, some ⟨W0.heap.size, 0, none⟩, 1, 1, by omega, rfl, rfl, HO0.out, (Below.refl _ _).alloc (Nat.le_refl _) _⟩
  case round =>
    obtain ⟨k, oa, on, oc, hkg, rfl, rfl, HO, HB⟩ := hrel
    clear HO0
    have c7 := HT.out wr HB.out
    have hk9 : (k : Int) ≤ 2 := by omega
    have hk8 : (0 : Int) ≤ (k : Int) := by omega
    by_cases hk : k < ks.length
    · have hk' : (k : Int) < (ks.length : Int) := by omega
      obtain ⟨⟨d, dv⟩, hx⟩ : ∃ y, ks[k]? = some y := ⟨_, List.getElem?_eq_getElem hk⟩
      obtain ⟨g, rfl, hg1, hg2, hR8⟩ := HR.out (by rintro rfl; simp at hk)
      have hBw : Below w.heap.size w wr := hB0.trans (HB.out.mono hB0.size)
      have hA8 := (hR8.keep (hBw.block g (by omega))).at hx
      obtain ⟨a0, a1, a2, a3, a4, a5, a6, a7⟩ := hA8
      have hdt : DT wr lo hi d dv := ((HD.out _ (List.mem_of_getElem? hx)).below hh hBw)
      have hmx : (ks.map Prod.fst)[k]? = some d := by simp [hx]
      have hcall0 := HK.out d (List.mem_of_getElem? hmx) dv lo hi wr hdt (Nat.le_trans hh hBw.size) (HH.out k d hmx)
      obtain ⟨da, dn, dc, rfl⟩ := hdt.form
      have hlen : (flat d).length ≤ 1000000 := by rw [flat_len]; exact HH.out k d hmx
      have hpos : 0 < (flat d).length := by rw [flat_len]; exact size_pos d
      have HS : Aside (x :: fltL ((ks.map Prod.fst).take (k + 1)) = (x :: fltL ((ks.map Prod.fst).take k)) ++ flat d) := by rw [Aside, flats_take hmx]; rfl
      have hl9 := HZ.out k
      generalize x :: fltL ((ks.map Prod.fst).take k) = L0 at *
      generalize nod d = y at *
      have hcall : Calls Tryz.prog 30 #[tree y (.slice da dn dc)] wr fun e w' => ∃ gd qd, e = .returned (.slice (some ⟨gd, 0, none⟩) (flat d).length qd) ∧ (∀ j u, (crow (flat d))[j]? = some u → w'.cell? ((⟨gd, 0, none⟩ : Addr).add j) = some u) ∧ Below wr.heap.size wr w' := hcall0.mono (by
        rintro e w' ⟨v', rfl, ho, hb⟩
        obtain ⟨gd, qd, rfl, hc⟩ := ho.open' (by intro h; rw [h] at hpos; simp at hpos)
        exact ⟨gd, qd, rfl, hc, hb⟩)
      clear hcall0 hx hR8 hdt hmx
      generalize flat d = fd at *
      go_wp2_with (first | (go_at_call 30; refine hcall.mono ?_; rintro e w3 ⟨gd, qd, rfl, hcd, hB3⟩; have HB3 : Aside (Below wr.heap.size wr w3) := hB3; have HC3 : Aside (∀ j u, (crow fd)[j]? = some u → w3.cell? ((⟨gd, 0, none⟩ : Addr).add j) = some u) := hcd; clear hB3 hcd) | (at_builtin; go_must (refine wpList_app rfl _ _ rfl W0 _ (.slice oa on oc) L0 rfl (HO.out.below HB3.out) (HB.out.trans (HB3.out.mono HB.out.size)) ⟨gd, 0, none⟩ fd.length qd fd rfl rfl HC3.out hpos (by omega) ?_); intro v' w' hO' hB' hK' hg' hf'; obtain ⟨g9, k9, rfl, hf9⟩ := hf'; have HO9 : Aside (Own W0 w' (.slice (some ⟨g9, 0, none⟩) (L0.length + fd.length) k9) (L0 ++ fd)) := hO'; have HB9 : Aside (Below W0.heap.size W0 w') := hB'; clear hO' hB' hK' hg' hf9))
      go_roundg (ks.length - (k + 1))
      case measure => omega
      case rel => exact ⟨k + 1, _, _, _, by omega, rfl, by go_num, by rw [HS.out]; exact HO9.out, HB9.out⟩
    · have hk' : ¬ (k : Int) < (ks.length : Int) := by omega
      obtain rfl : k = ks.length := by omega
      have HE : Aside (R = x :: fltL ((ks.map Prod.fst).take ks.length)) := by rw [Aside, HG.out, List.take_of_length_le (by simp)]
      go_wp2
      go_ret
      exact ⟨_, rfl, by rw [HE.out]; exact HO.out.lower hB0.size, hB0.trans (HB.out.mono hB0.size)⟩
/-- THE DOCUMENT'S LIST IS flat. -/
theorem dList_any (c : C) : LiC c := kid_ind (p := LiC) dList_step c
end Go.Proofs.YtaaokecdmbmgbaaGreatDoor
namespace Go.Proofs.YtaaokecdmbmgbaaGreatDoor.Cq
open Go.RowKit

/-- All lists of the bag but those of texts are empty. -/
def Bare (w : World) (B : Nat) : Prop := ∀ k, k < 18 → k ≠ 6 → w.cell? ⟨B, k, none⟩ = some (.slice none 0 0)

set_option maxRecDepth 100000 in
set_option maxHeartbeats 4000000 in
theorem apart_of (B : Nat) (Q : World → Prop) (w : World) (hz : Bare w B) (hT : Calls Tryz.prog 38 #[.pointer (some ⟨B, 0, none⟩)] w fun e w' => e = .returned (.bool true) ∧ Bare w' B ∧ Q w') :
    Calls Tryz.prog 15 #[.pointer (some ⟨B, 0, none⟩)] w fun e w' => e = .returned (.bool true) ∧ Q w' := by
  have HZ : Aside (Bare w B) := hz
  clear hz
  go_enter Tryz.func15, Tryz.ntmps15
  go_wp2_with (first
    | (go_at_call 32; refine (apartBytes_none B _ (HZ.out 0 (by decide) (by decide))).mono ?_; rintro e w' ⟨rfl, hw'⟩; subst hw')
    | (go_at_call 33; refine (apartInts_none B _ (HZ.out 1 (by decide) (by decide))).mono ?_; rintro e w' ⟨rfl, hw'⟩; subst hw')
    | (go_at_call 34; refine (apartLongs_none B _ (HZ.out 2 (by decide) (by decide))).mono ?_; rintro e w' ⟨rfl, hw'⟩; subst hw')
    | (go_at_call 35; refine (apartBools_none B _ (HZ.out 3 (by decide) (by decide))).mono ?_; rintro e w' ⟨rfl, hw'⟩; subst hw')
    | (go_at_call 36; refine (apartTexts_none B _ (HZ.out 4 (by decide) (by decide))).mono ?_; rintro e w' ⟨rfl, hw'⟩; subst hw')
    | (go_at_call 37; refine (apartNodes_none B _ (HZ.out 5 (by decide) (by decide))).mono ?_; rintro e w' ⟨rfl, hw'⟩; subst hw')
    | (go_at_call 38; refine hT.mono ?_; rintro e w2 ⟨rfl, hz2, hQ⟩; clear hT HZ; have HZ2 : Aside (Bare w2 B) := hz2; clear hz2)
    | (go_at_call 39; refine (apartSeen_none B _ (HZ2.out 7 (by decide) (by decide))).mono ?_; rintro e w' ⟨rfl, hw'⟩; subst hw')
    | (go_at_call 40; refine (apartSites_none B _ (HZ2.out 8 (by decide) (by decide))).mono ?_; rintro e w' ⟨rfl, hw'⟩; subst hw')
    | (go_at_call 41; refine (apartIns_none B _ (HZ2.out 9 (by decide) (by decide))).mono ?_; rintro e w' ⟨rfl, hw'⟩; subst hw')
    | (go_at_call 42; refine (apartImports_none B _ (HZ2.out 10 (by decide) (by decide))).mono ?_; rintro e w' ⟨rfl, hw'⟩; subst hw')
    | (go_at_call 43; refine (apartTraps_none B _ (HZ2.out 11 (by decide) (by decide))).mono ?_; rintro e w' ⟨rfl, hw'⟩; subst hw')
    | (go_at_call 44; refine (apartRows_none B _ (HZ2.out 12 (by decide) (by decide))).mono ?_; rintro e w' ⟨rfl, hw'⟩; subst hw')
    | (go_at_call 45; refine (apartDefs_none B _ (HZ2.out 13 (by decide) (by decide))).mono ?_; rintro e w' ⟨rfl, hw'⟩; subst hw')
    | (go_at_call 46; refine (apartModules_none B _ (HZ2.out 14 (by decide) (by decide))).mono ?_; rintro e w' ⟨rfl, hw'⟩; subst hw')
    | (go_at_call 47; refine (apartFunctions_none B _ (HZ2.out 15 (by decide) (by decide))).mono ?_; rintro e w' ⟨rfl, hw'⟩; subst hw')
    | (go_at_call 48; refine (apartWaits_none B _ (HZ2.out 16 (by decide) (by decide))).mono ?_; rintro e w' ⟨rfl, hw'⟩; subst hw')
    | (go_at_call 49; refine (apartTrees_none B _ (HZ2.out 17 (by decide) (by decide))).mono ?_; rintro e w' ⟨rfl, hw'⟩; subst hw'))
  go_ret
  exact ⟨rfl, hQ⟩

end Go.Proofs.YtaaokecdmbmgbaaGreatDoor.Cq
namespace Go.Proofs.YtaaokecdmbmgbaaGreatDoor.Cq
open Go.RowKit
set_option maxRecDepth 100000

set_option maxHeartbeats 2000000 in
theorem add_any (B base n : Nat) (w : World) (v : Value) (la : Option Addr) (ln lc : Nat) (xs : List Value) (C : Array Value) (hB : w.heap[B]? = some (.cells C 59 (0, 0))) (h4 : C[6]? = some v)
    (hown : w.ownsRow base 22 1 v n xs) (hn : n < 300) (hbase : base ≤ w.heap.size) (hne : v.ownBlock ≠ some B) (hbB : B < base) :
    Calls Tryz.prog 14 #[.pointer (some ⟨B, 0, none⟩), .slice la ln lc] w fun e w' => e = .returned (.tuple #[]) ∧ ∃ g cap, w'.heap[B]? = some (.cells (C.setIfInBounds 6 (.slice (some ⟨g, 0, none⟩) (n + 1) cap)) 59 (0, 0)) ∧ w'.ownsRow base 22 1 (.slice (some ⟨g, 0, none⟩) (n + 1) cap) (n + 1) (xs ++ [.slice la ln lc]) ∧ (v.ownBlock = some g ∨ w.heap.size ≤ g) ∧ Two w w' B v.ownBlock := by
  obtain ⟨va, vc, rfl⟩ := own_len hown
  have hBl : B < w.heap.size := (Array.getElem?_eq_some_iff.1 hB).1
  have hc4 := cell_of hB h4
  obtain ⟨i0, hi, hz0, hz1, hz2⟩ := info_parts infoL
  have hn' : (n : Int) < 300 := by omega
  go_enter Tryz.func14, Tryz.ntmps14
  go_wp2_with (at_builtin; go_must (refine wpList_append_stays _ rfl _ _ 46 rfl base 22 i0 (.slice none 0 0) 1 24 tyLL hi hz0 hz1 hz2 rfl (by decide) (.slice va n vc) _ _ rfl (hown.alloc _) ⟨w.heap.size, 0, none⟩ 1 [.slice la ln lc] rfl rfl (cells_list_new _ [.slice la ln lc] 22) (by simp [Value.oneCell']) (by unfold maxLen; omega) (by omega) (by simp; omega) ?_); intro g cap w2 hown2 hst hloc; have hB2 := (hst.block B (by simp; omega) (fun e => hne e.symm)).trans ((Below.heap_alloc _ _ _ hBl).trans hB); have hc42 := cell_of hB2 h4; have hf2 := (block_cells hB2).2 6)
  go_end0
  refine ⟨rfl, g, cap, set_at hB2 6 _, ?_, ?_, ?_⟩
  · refine own_set hown2 ?_ _
    intro e
    have : g = B := by simpa [Value.ownBlock] using e
    obtain ⟨_, ⟨h0, _⟩ | ⟨g', _, _, h0, hg', _⟩⟩ := hown2
    · cases h0
    · have : g = g' := by simpa [Value.ownBlock] using congrArg Value.ownBlock h0
      omega
  · rcases hloc with h | ⟨h, _⟩
    · exact .inl h
    · simp at h
      exact .inr (by omega)
  · have hs := hst.size
    simp at hs
    refine ⟨hst.os, hst.tape, hst.output, by simp [World.setCell]; omega, fun k hk h1 h2 => ?_⟩
    rw [Below.heap_setCell _ _ _ _ (by intro e; exact h1 e), hst.block k (by simp; omega) h2]
    exact Below.heap_alloc _ _ _ hk
end Go.Proofs.YtaaokecdmbmgbaaGreatDoor.Cq
namespace Go.Proofs.YtaaokecdmbmgbaaGreatDoor.Cq
open Go.RowKit

/-- A new bag's cells. -/
def bag0 : Array Value := #[.slice none 0 0, .slice none 0 0, .slice none 0 0, .slice none 0 0, .slice none 0 0, .slice none 0 0, .slice none 0 0, .slice none 0 0, .slice none 0 0, .slice none 0 0, .slice none 0 0, .slice none 0 0, .slice none 0 0, .slice none 0 0, .slice none 0 0, .slice none 0 0, .slice none 0 0, .slice none 0 0]
theorem own_two {w w' : World} {H e sz n B : Nat} {row : Option Nat} {v : Value} {xs : List Value} (h : w.ownsRow H e sz v n xs) (hT : Two w w' B row) (hb : ∀ b, v.ownBlock = some b → b ≠ B ∧ some b ≠ row) : w'.ownsRow H e sz v n xs := by
  obtain ⟨h1, h2 | ⟨g, cap, cur, rfl, hg, hh, hr⟩⟩ := h
  · exact ⟨h1, .inl h2⟩
  · obtain ⟨h3, h4⟩ := hb g rfl
    exact ⟨h1, .inr ⟨g, cap, cur, rfl, hg, (hT.block g (Array.getElem?_eq_some_iff.1 hh).1 h3 h4).trans hh, hr⟩⟩
theorem bare_of {w : World} {B : Nat} {x : Value} {C : Array Value} (hC : C = bag0.setIfInBounds 6 x) (h : w.heap[B]? = some (.cells C 59 (0, 0))) : Bare w B := by
  intro k hk h4
  have hb := (block_cells h).1 k
  rw [hb, hC, Array.getElem?_setIfInBounds_ne (Ne.symm h4)]
  have : bag0 = Array.replicate 18 (.slice none 0 0) := by rfl
  rw [this]
  simp [hk]
theorem set_set (x y : Value) : (bag0.setIfInBounds 6 x).setIfInBounds 6 y = bag0.setIfInBounds 6 y := by
  apply Array.ext
  · simp
  · intro i h1 h2
    simp
theorem ready {w7 w9 w10 : World} {H : Nat} {a b : Value} {la lb g1 c1 g2 c2 : Nat} {xa xb : List Value}
    (ha : w7.ownsRow H 28 7 a la xa) (hb : w9.ownsRow H 28 7 b lb xb) (hla : la ≤ 1000000) (hlb : lb ≤ 1000000)
    (ea : ∃ p c, a = .slice p la c) (eb : ∃ p c, b = .slice p lb c) {B : Nat} (hbB : ∀ x, b.ownBlock = some x → x ≠ B ∧ x ≠ g1) (haB : ∀ x, a.ownBlock = some x → x ≠ B ∧ x ≠ g1) (hab : ∀ x, a.ownBlock = some x → b.ownBlock ≠ some x)
    (ha9 : w9.ownsRow H 28 7 a la xa)
    (h10 : w10.heap[B]? = some (.cells ((bag0.setIfInBounds 6 (.slice (some ⟨g1, 0, none⟩) 1 c1)).setIfInBounds 6 (.slice (some ⟨g2, 0, none⟩) 2 c2)) 59 (0, 0)))
    (o10 : w10.ownsRow (B + 1) 22 1 (.slice (some ⟨g2, 0, none⟩) 2 c2) 2 [a, b]) (hg2 : g1 = g2 ∨ w9.heap.size ≤ g2) (t10 : Two w9 w10 B (some g1)) :
    Lain w10 H B g2 2 c2 [a, b] (fun _ => 0) ∧ Bare w10 B ∧ 2 ≤ c2 := by
  have hs10 := t10.size
  obtain ⟨hgB, hg2l⟩ := own_in o10 (b := g2) rfl
  have keep : ∀ (v : Value) (l : Nat) (xs : List Value), w9.ownsRow H 28 7 v l xs → (∀ x, v.ownBlock = some x → x ≠ B ∧ x ≠ g1) → w10.ownsRow H 28 7 v l xs ∧ ∀ x, v.ownBlock = some x → x ≠ B ∧ x ≠ g2 := by
    intro v l xs hv hx
    refine ⟨own_two hv t10 fun x h => ⟨(hx x h).1, by have := (hx x h).2; simpa using this⟩, fun x h => ⟨(hx x h).1, ?_⟩⟩
    have h1 := (own_in hv h).2
    have h2 := (hx x h).2
    rcases hg2 with rfl | h3
    · exact h2
    · omega
  obtain ⟨g', cap', e1, hc, _, hcl⟩ := own_cells o10 (by decide)
  obtain ⟨rfl, rfl⟩ : g2 = g' ∧ c2 = cap' := by simpa using e1
  refine ⟨⟨?_, rfl, by decide, by omega, (Array.getElem?_eq_some_iff.1 h10).1, hg2l, ?_, ?_, ?_⟩, bare_of (set_set _ _) h10, hc⟩
  · rw [(block_cells h10).1 6]
    simp [bag0]
  · intro n v hv
    have hn : n < 2 := (List.getElem?_eq_some_iff.1 hv).1
    rw [hcl n (by omega), hv]
  · intro n v hv
    have hn : n < 2 := (List.getElem?_eq_some_iff.1 hv).1
    rcases (show n = 0 ∨ n = 1 by omega) with rfl | rfl
    · obtain rfl : a = v := by simpa using hv
      obtain ⟨p, c, rfl⟩ := ea
      exact ⟨p, la, c, xa, rfl, hla, (keep _ _ _ ha9 haB).1, fun j hj => by omega, (keep _ _ _ ha9 haB).2⟩
    · obtain rfl : b = v := by simpa using hv
      obtain ⟨p, c, rfl⟩ := eb
      exact ⟨p, lb, c, xb, rfl, hlb, (keep _ _ _ hb hbB).1, fun j hj => by omega, (keep _ _ _ hb hbB).2⟩
  · intro n k u v x hu hv hnk hx
    have hn : n < 2 := (List.getElem?_eq_some_iff.1 hu).1
    have hk : k < 2 := (List.getElem?_eq_some_iff.1 hv).1
    rcases (show n = 0 ∧ k = 1 ∨ n = 1 ∧ k = 0 by omega) with ⟨rfl, rfl⟩ | ⟨rfl, rfl⟩
    · obtain rfl : a = u := by simpa using hu
      obtain rfl : b = v := by simpa using hv
      exact hab x hx
    · obtain rfl : b = u := by simpa using hu
      obtain rfl : a = v := by simpa using hv
      exact fun h => hab x h hx
end Go.Proofs.YtaaokecdmbmgbaaGreatDoor.Cq
namespace Go.Proofs.YtaaokecdmbmgbaaGreatDoor
open Go.RowKit Cc
set_option maxRecDepth 100000
set_option linter.unusedSimpArgs false
set_option linter.unusedVariables false
namespace Cc
theorem infoB : (Tryz.prog.info? 5).map (fun i => (i.zero, i.size, i.bytes)) = some (some (.int .u8 0), 1, 1) := by kernel_rfl
theorem tyBs : Tryz.prog.underlying 79 = some (.slice 5) := by kernel_rfl
theorem tyStr : Tryz.prog.underlying 9 = some .string := by kernel_rfl
theorem tyPb : Tryz.prog.underlying 138 = some (.pointer 140) := by kernel_rfl
theorem tyUn : Tryz.prog.underlying 197 = some .unsafePointer := by kernel_rfl
theorem sizeSb : (Tryz.prog.info? 140).map (·.size) = some 2 := by kernel_rfl
theorem liesSb : liesAt Tryz.prog Tryz.prog.depth 140 (2 / Tryz.prog.cellsOf 140) 0 140 1 = true := by kernel_rfl
/-- The builder's block, and what it has written. -/
def Bld (w : World) (pb : Nat) (l : List UInt8) : Prop := Lib.IsBuilderF 140 5 pb pb (Lib.byteCells l) w
/-- What a writer leaves alone. -/
def Wrt (w w' : World) (pb : Nat) : Prop := Below pb w w' ∧ Lib.OthersKept 5 (some pb) w w' ∧ w.heap.size ≤ w'.heap.size
end Cc
set_option maxHeartbeats 1000000 in
theorem copyCheck_any (b : Nat) (bs : List Value) (w : World) (h : Lib.IsBuilderF 140 5 b b bs w) :
    Calls Tryz.prog 91 #[.pointer (some ⟨b, 0, none⟩)] w fun e w' => e = .returned (.tuple #[]) ∧ Lib.BuilderAtF 140 5 b b (.pointer (some ⟨b, 0, none⟩)) bs w' ∧ Wrt w w' b := by
  rcases h with h | h
  · obtain ⟨j, hj, hjs⟩ := Option.map_eq_some_iff.1 sizeSb
    have c0 := h.cell0
    have f0 := h.frozen0
    have hsh := h.shape
    go_enter Tryz.func91, Tryz.ntmps91
    go_wp2
    rw [Lib.run_to_unsafe w ⟨b, 0, none⟩ tyPb tyUn hj (by rw [hjs]; decide) hsh (Nat.zero_lt_succ 1)]
    simp only [Result.andThen]
    rw [Oper.upon_value]
    go_wp2
    rw [run_callFunc_extern Tryz.func108 (by kernel_rfl) (by kernel_rfl) (by kernel_rfl) (e := Extern.AbiNoEscape.same) (by kernel_rfl)]
    rw [Lib.run_noEscape]
    simp only [Result.andThen]
    rw [Oper.upon_value]
    go_wp2
    rw [Lib.run_from_unsafe w ⟨b, 0, none⟩ tyUn tyPb hj hsh liesSb]
    simp only [Result.andThen]
    rw [Oper.upon_value]
    go_wp2
    go_end0
    exact ⟨rfl, h.used _, (Below.refl b w).setCell (p := ⟨b, 0, none⟩) h.1 _, (Lib.OthersKept.refl _ _ w).setCell ⟨b, 0, none⟩ rfl _, by simp [World.setCell]⟩
  · obtain ⟨j, hj, _⟩ := Option.map_eq_some_iff.1 sizeSb
    have c0 := h.cell0
    go_enter Tryz.func91, Tryz.ntmps91
    go_wp2
    rw [Lib.run_neq_ptr_same w _ tyPb hj]
    go_wp2
    go_end0
    exact ⟨rfl, h, Below.refl b _, Lib.OthersKept.refl _ _ _, Nat.le_refl _⟩
set_option maxHeartbeats 2000000 in
theorem writeByte_any (b : Nat) (l : List UInt8) (c : UInt8) (w : World) (h : Bld w b l) (hlen : l.length ≤ 100000) (hb : b < w.heap.size) :
    Calls Tryz.prog 70 #[.pointer (some ⟨b, 0, none⟩), .int .u8 (c.toNat : Int)] w fun e w' => e = .returned .nilIface ∧ Bld w' b (l ++ [c]) ∧ Wrt w w' b := by
  obtain ⟨i0, hi, hz0, hz1, hz2⟩ := info_parts infoB
  have hbl := Lib.byteCells_length l
  go_enter Tryz.func70, Tryz.ntmps70
  go_wp2_with (go_at_call 91; refine (copyCheck_any b _ _ h).mono ?_)
  rintro e w1 ⟨rfl, h1, hb1, hk1, hz1'⟩
  obtain ⟨hB, v, hbk, hown, hne⟩ := h1
  have c0 : w1.cell? ⟨b, 0, none⟩ = some (.pointer (some ⟨b, 0, none⟩)) := by rw [Lib.cell_of_heap hbk]; rfl
  have c1 : w1.cell? ⟨b, 1, none⟩ = some v := by rw [Lib.cell_of_heap hbk]; rfl
  have hlt : b < w1.heap.size := by omega
  go_wp2_with (at_builtin; refine wpList_append_ownF _ rfl _ _ 79 rfl b 5 i0 (.int .u8 0) 1 1 tyBs hi hz0 hz1 hz2 rfl (by decide) _ _ _ rfl (hown.alloc _) ⟨w1.heap.size, 0, none⟩ 1 1 [.int .u8 (c.toNat : Int)] rfl rfl ?c1 ?c2 ?c3 ?c4 ?c5 ?_)
  case c1 =>
    intro j u hj
    match j, hj with
    | 0, hj => simp at hj; subst hj; simp [Addr.add]
  case c2 => intro u hu; simp at hu; subst hu; rfl
  case c3 => unfold maxLen; omega
  case c4 => omega
  case c5 => simp; omega
  intro v' w2 hown' hgrow _
  have hb2 : w2.heap[b]? = some (.cells #[.pointer (some ⟨b, 0, none⟩), v] 140 (0, 0)) := by
    rw [hgrow.block b (by simp; omega) (fun e => hne e.symm), Lib.alloc_old w1 _ b hlt]
    exact hbk
  have d0 : w2.cell? ⟨b, 0, none⟩ = some (.pointer (some ⟨b, 0, none⟩)) := by rw [Lib.cell_of_heap hb2]; rfl
  have d1 : w2.cell? ⟨b, 1, none⟩ = some v := by rw [Lib.cell_of_heap hb2]; rfl
  have f1 : w2.frozen? ⟨b, 1, none⟩ = false := Lib.frozen_of_heap hb2 1
  obtain ⟨ao, n', cap, rfl⟩ : ∃ ao n' cap, v' = .slice ao n' cap := by
    rcases hown'.2 with ⟨hv, _⟩ | ⟨g, cap, cur, fz, hv, _⟩
    · exact ⟨_, _, _, hv⟩
    · exact ⟨_, _, _, hv⟩
  go_wp2
  go_ret
  refine ⟨rfl, .inr ?_, ((hb1.alloc (by omega) _).grown hgrow (by simp; omega) (fun k hk => (hown.lt k hk).1)).setCell (p := ⟨b, 1, none⟩) hB _, ((hk1.alloc _).grown hgrow (Lib.ownsRowF_kind (hown.alloc _))).setCell ⟨b, 1, none⟩ rfl _, by have := hgrow.size; simp [World.setCell] at this ⊢; omega⟩
  have hcc : Lib.byteCells (l ++ [c]) = Lib.byteCells l ++ [.int .u8 (c.toNat : Int)] := by simp [Lib.byteCells]
  rw [hcc]
  exact Lib.BuilderAtF.put (T := 140) (e := 5) hB hb2 (bs' := Lib.byteCells l ++ [.int .u8 (c.toNat : Int)]) (by rw [List.length_append, hbl]; simpa [hbl] using hown') (by decide)
set_option maxHeartbeats 2000000 in
theorem writeString_any (b : Nat) (l s : List UInt8) (w : World) (h : Bld w b l) (hlen : l.length + s.length ≤ 100000) (hb : b < w.heap.size) :
    Calls Tryz.prog 69 #[.pointer (some ⟨b, 0, none⟩), .string ⟨s.toArray⟩] w fun e w' => e = .returned (.tuple #[.int .i64 s.length, .nilIface]) ∧ Bld w' b (l ++ s) ∧ Wrt w w' b := by
  obtain ⟨i0, hi, hz0, hz1, hz2⟩ := info_parts infoB
  have hs : (⟨s.toArray⟩ : ByteArray).size = s.length := by simp [ByteArray.size]
  have hbl := Lib.byteCells_length l
  obtain ⟨S, hS⟩ : ∃ S : ByteArray, S = ⟨s.toArray⟩ := ⟨_, rfl⟩
  rw [← hS] at hs ⊢
  have HS : Aside (S = ⟨s.toArray⟩) := hS
  clear hS
  go_enter Tryz.func69, Tryz.ntmps69
  go_wp2_with (go_at_call 91; refine (copyCheck_any b _ _ h).mono ?_)
  rintro e w1 ⟨rfl, h1, hb1, hk1, hz1'⟩
  obtain ⟨hB, v, hbk, hown, hne⟩ := h1
  have c0 : w1.cell? ⟨b, 0, none⟩ = some (.pointer (some ⟨b, 0, none⟩)) := by rw [Lib.cell_of_heap hbk]; rfl
  have c1 : w1.cell? ⟨b, 1, none⟩ = some v := by rw [Lib.cell_of_heap hbk]; rfl
  have hlt : b < w1.heap.size := by omega
  go_wp2_with (at_builtin; refine Lib.wpList_append_own_stringF _ rfl _ _ 79 9 rfl b 5 i0 tyBs tyStr hi hz0 hz1 hz2 _ _ _ rfl hown S rfl ?c3 ?c4 ?c5 ?_)
  case c3 => unfold maxLen; omega
  case c4 => omega
  case c5 => omega
  intro v' w2 hown' hgrow _
  have hb2 : w2.heap[b]? = some (.cells #[.pointer (some ⟨b, 0, none⟩), v] 140 (0, 0)) := by
    rw [hgrow.block b hlt (fun e => hne e.symm)]
    exact hbk
  have d0 : w2.cell? ⟨b, 0, none⟩ = some (.pointer (some ⟨b, 0, none⟩)) := by rw [Lib.cell_of_heap hb2]; rfl
  have d1 : w2.cell? ⟨b, 1, none⟩ = some v := by rw [Lib.cell_of_heap hb2]; rfl
  have f1 : w2.frozen? ⟨b, 1, none⟩ = false := Lib.frozen_of_heap hb2 1
  obtain ⟨ao, n', cap, rfl⟩ : ∃ ao n' cap, v' = .slice ao n' cap := by
    rcases hown'.2 with ⟨hv, _⟩ | ⟨g, cap, cur, fz, hv, _⟩
    · exact ⟨_, _, _, hv⟩
    · exact ⟨_, _, _, hv⟩
  go_wp2
  go_ret2
  refine ⟨rfl, .inr ?_, (hb1.grown hgrow (by omega) (fun k hk => (hown.lt k hk).1)).setCell (p := ⟨b, 1, none⟩) hB _, (hk1.grown hgrow (Lib.ownsRowF_kind hown)).setCell ⟨b, 1, none⟩ rfl _, by have := hgrow.size; simp [World.setCell]; omega⟩
  have hcc : Lib.byteCells (l ++ s) = Lib.byteCells l ++ Lib.strCells S := by rw [HS.out]; simp [Lib.byteCells, Lib.strCells]
  rw [hcc]
  exact Lib.BuilderAtF.put (T := 140) (e := 5) hB hb2 (bs' := Lib.byteCells l ++ Lib.strCells S) (by rw [List.length_append, Lib.strCells_length, hbl, hs]; exact hown') (by decide)
end Go.Proofs.YtaaokecdmbmgbaaGreatDoor
namespace Go.Proofs.YtaaokecdmbmgbaaGreatDoor
open Go.RowKit Cc
set_option maxRecDepth 100000
set_option linter.unusedSimpArgs false
set_option linter.unusedVariables false
namespace Cc
/-- A node, and its text. -/
def Wr (x : N) (t : List UInt8) : Prop :=
  x.proj = 0 ∧ x.inj = false ∧ ((∃ c : UInt8, x.op ≠ 1 ∧ x.op ≠ 7 ∧ x.head = (c.toNat : Int) ∧ t = [c]) ∨ ∃ (i : Nat) (f g : UInt8), i < 100 ∧ x.op = 7 ∧ x.label = (i : Int) ∧ x.frm = (f.toNat : Int) ∧ x.tto = (g.toNat : Int) ∧ t = (35 :: Lib.decDigits i) ++ [f] ++ [g])
theorem bld_new (w : World) : Bld (w.alloc (.cells #[.pointer none, .slice none 0 0] 140)) w.heap.size [] :=
  .inl ⟨Nat.le_refl _, _, heap_alloc_new _ _, World.ownsRowF_nil _ _ _ _, by simp [Value.ownBlock]⟩
theorem Bld.alloc {w : World} {pb : Nat} {l : List UInt8} (h : Bld w pb l) (o : Obj) : Bld (w.alloc o) pb l := Lib.IsBuilderF.alloc h o
theorem kept_new {w w' : World} {pb : Nat} {cs : Array Value} {t : TypeId} (h : Lib.OthersKept 5 (some pb) (w.alloc (.cells cs t)) w') (ht : t ≠ 5) (hp : pb < w.heap.size) : w'.heap[w.heap.size]? = some (.cells cs t (0, 0)) := by
  refine h w.heap.size _ (heap_alloc_new w _) ?_ ?_
  · intro e; injection e with e; omega
  · intro c fz e; injection e with _ e _; exact ht e
theorem bytes_cons (c : UInt8) (d : List UInt8) : (⟨#[c]⟩ : ByteArray) ++ ⟨d.toArray⟩ = ⟨(c :: d).toArray⟩ := by
  apply ByteArray.ext
  simp
/-- What holds at a round's head. -/
structure Wst (w wr : World) (l : List UInt8) : Prop where
  bl : Below w.heap.size w wr
  bd : Bld wr w.heap.size l
  lt : w.heap.size < wr.heap.size
theorem Wst.wrt {w w1 w2 : World} {l l' : List UInt8} (h : Wst w w1 l) (hb : Bld w2 w.heap.size l') (hw : Wrt w1 w2 w.heap.size) : Wst w w2 l' :=
  ⟨h.bl.trans hw.1, hb, Nat.lt_of_lt_of_le h.lt hw.2.2⟩
theorem Wst.alloc {w w1 : World} {l : List UInt8} (h : Wst w w1 l) (o : Obj) : Wst w (w1.alloc o) l :=
  ⟨h.bl.alloc h.bl.size _, h.bd.alloc _, by have := h.lt; simp; omega⟩
theorem box_cells {w : World} {g : Nat} {cs : Array Value} {t : TypeId} (h : w.heap[g]? = some (.cells cs t (0, 0))) (o : Nat) : w.cell? ⟨g, o, none⟩ = cs[o]? := Lib.cell_of_heap h o
end Cc
set_option maxHeartbeats 3200000 in
theorem written_any (l : List N) (ts : List (List UInt8)) (v : Value) (w : World) (hl : IsCos w v l) (hn : l.length ≤ 1000) (hts : ts.length = l.length) (hw : ∀ (k : Nat) x t, l[k]? = some x → ts[k]? = some t → Wr x t) (ht : ts.flatten.length ≤ 10000) :
    Calls Tryz.prog 51 #[v] w fun e w' => e = .returned (.string ⟨ts.flatten.toArray⟩) ∧ Below w.heap.size w w' := by
  obtain ⟨al, cl, rfl⟩ := hl.form
  have HL : Aside (IsCos w (.slice al l.length cl) l) := hl
  have HW : Aside (∀ (k : Nat) x t, l[k]? = some x → ts[k]? = some t → Wr x t) := hw
  have HT : Aside (ts.flatten.length ≤ 10000) := ht
  have HN : Aside (ts.length = l.length) := hts
  clear hl hw ht hts
  go_enter Tryz.func51, Tryz.ntmps51
  go_wp2
  go_loopg [8] l.length (fun gq tq wr => ∃ k : Nat, k + gq = l.length ∧ tq = .int .i64 (k : Int) ∧ Aside (Wst w wr (ts.take k).flatten))
  case atStart => exact ⟨0, by omega, rfl, ⟨(Below.refl _ _).alloc (Nat.le_refl _) _, by simpa using bld_new w, by simp⟩⟩
  case round =>
    obtain ⟨k, hkg, rfl, HS⟩ := hrel
    by_cases hk : k < l.length
    · have hk' : (k : Int) < (l.length : Int) := by omega
      obtain ⟨x, hx⟩ : ∃ x, l[k]? = some x := ⟨_, List.getElem?_eq_getElem hk⟩
      obtain ⟨t, htk⟩ : ∃ t, ts[k]? = some t := ⟨_, List.getElem?_eq_getElem (by rw [HN.out]; exact hk)⟩
      have hwr := HW.out k x t hx htk
      obtain ⟨b, o, c, e1, hA⟩ := (HL.out.below HS.out.bl).at hx
      injection e1 with e1 _ e3
      subst e1 e3
      obtain ⟨g0, g1, g2, g3, g4, g5, g6⟩ := hA
      have HF : Aside ((ts.take (k + 1)).flatten = (ts.take k).flatten ++ t) := by
        show _ = _
        obtain ⟨hk2, e⟩ := List.getElem?_eq_some_iff.1 htk
        rw [List.take_succ_eq_append_getElem hk2, e]
        simp
      have HLen : Aside ((ts.take k).flatten.length + t.length ≤ 10000) := by
        show _ ≤ _
        have h1 := HT.out
        have h2 : ts.flatten = (ts.take (k + 1)).flatten ++ (ts.drop (k + 1)).flatten := by rw [← List.flatten_append, List.take_append_drop]
        rw [h2, HF.out] at h1
        simp only [List.length_append] at h1
        omega
      clear hx htk
      generalize (ts.take k).flatten = pre at *
      obtain ⟨hp, hj, hkind⟩ := hwr
      rw [hp] at g1
      rw [hj] at g2
      rcases hkind with ⟨ch, h1, h7, hh, rfl⟩ | ⟨i, f, g, hi, h7, hlb, hf, hg, rfl⟩
      · rw [hh] at g3
        have cw : ∀ W, Wst w W pre → Calls Tryz.prog 70 #[.pointer (some ⟨w.heap.size, 0, none⟩), .int .u8 (ch.toNat : Int)] W fun e w' => e = .returned .nilIface ∧ Wst w w' (pre ++ [ch]) := fun W hW =>
          (writeByte_any w.heap.size pre ch W hW.bd (by have := HLen.out; simp at this; omega) hW.lt).mono (by rintro e w' ⟨rfl, hb, hwt⟩; exact ⟨rfl, hW.wrt hb hwt⟩)
        clear hp hj hh
        go_wp2_with (go_at_call 70; refine (cw _ (HS.out.alloc _)).mono ?_; rintro e w2 ⟨rfl, hW2⟩; have HW2 : Aside (Wst w w2 (pre ++ [ch])) := hW2; clear hW2)
        go_roundg (l.length - (k + 1))
        case measure => omega
        case rel => exact ⟨k + 1, by omega, by go_num, by rw [HF.out]; exact HW2⟩
      · rw [h7] at g0
        rw [hlb] at g4
        rw [hf] at g5
        rw [hg] at g6
        have cf := Tryz.strconv_FormatInt_10_small i hi
        have cs : ∀ W, Wst w W pre → Calls Tryz.prog 69 #[.pointer (some ⟨w.heap.size, 0, none⟩), .string ⟨(35 :: Lib.decDigits i).toArray⟩] W fun e w' => e = .returned (.tuple #[.int .i64 (35 :: Lib.decDigits i).length, .nilIface]) ∧ Wst w w' (pre ++ (35 :: Lib.decDigits i)) ∧ Lib.OthersKept 5 (some w.heap.size) W w' := fun W hW =>
          (writeString_any w.heap.size pre _ W hW.bd (by have := HLen.out; simp at this ⊢; omega) hW.lt).mono (by rintro e w' ⟨rfl, hb, hwt⟩; exact ⟨rfl, hW.wrt hb hwt, hwt.2.1⟩)
        have cw : ∀ W ch l', Wst w W l' → l'.length ≤ 10000 → Calls Tryz.prog 70 #[.pointer (some ⟨w.heap.size, 0, none⟩), .int .u8 (UInt8.toNat ch : Int)] W fun e w' => e = .returned .nilIface ∧ Wst w w' (l' ++ [ch]) ∧ Lib.OthersKept 5 (some w.heap.size) W w' := fun W ch l' hW hl' =>
          (writeByte_any w.heap.size l' ch W hW.bd (by omega) hW.lt).mono (by rintro e w' ⟨rfl, hb, hwt⟩; exact ⟨rfl, hW.wrt hb hwt, hwt.2.1⟩)
        have hbc := bytes_cons 35 (Lib.decDigits i)
        clear hp hj h7 hlb hf hg
        go_wp2_with fail
        refine (cf _).mono ?_
        rintro e w1 ⟨rfl, rfl⟩
        have HDL : Aside ((Lib.decDigits i).length ≤ 9999) := by have := HLen.out; simp at this; show _ ≤ _; omega
        go_wp2_with fail
        · exfalso
          rename_i hov
          have h9 := HDL.out
          first | omega | (simp only [ByteArray.size] at hov; simp at hov; omega)
        refine (cs _ (HS.out.alloc _)).mono ?_
        rintro e w2 ⟨rfl, hW2, hK2⟩
        have HW2 : Aside (Wst w w2 (pre ++ (35 :: Lib.decDigits i))) := hW2
        have hbx := kept_new hK2 (by decide) HS.out.lt
        have c5 := box_cells hbx 5
        simp at c5
        have HX2 : Aside (w2.heap[wr.heap.size]? = some (.cells #[.int .i8 7, .int .i64 0, .bool false, .int .u8 x.head, .int .i64 (i : Int), .int .u8 (f.toNat : Int), .int .u8 (g.toNat : Int)] 28 (0, 0))) := hbx
        clear hW2 hK2 hbx
        go_wp2_with fail
        refine (cw _ f _ HW2.out (by have := HLen.out; simp at this ⊢; omega)).mono ?_
        rintro e w3 ⟨rfl, hW3, hK3⟩
        have hbx := hK3 wr.heap.size _ HX2.out (by have := HS.out.lt; intro e; injection e with e; omega) (by intro c fz e; injection e with _ e _; exact absurd e (by decide))
        have c6 := box_cells hbx 6
        simp at c6
        have HW3 : Aside (Wst w w3 (pre ++ (35 :: Lib.decDigits i) ++ [f])) := hW3
        clear hW3 hK3 hbx c5
        go_wp2_with fail
        refine (cw _ g _ HW3.out (by have := HLen.out; simp at this ⊢; omega)).mono ?_
        rintro e w4 ⟨rfl, hW4, -⟩
        have HW4 : Aside (Wst w w4 (pre ++ (35 :: Lib.decDigits i) ++ [f] ++ [g])) := hW4
        clear hW4 c6
        go_wp2_with fail
        go_roundg (l.length - (k + 1))
        case measure => omega
        case rel => exact ⟨k + 1, by omega, by go_num, by rw [HF.out]; simpa [Aside] using HW4.out⟩
    · obtain rfl : k = l.length := by omega
      have cst := Tryz.Builder_String_any_k w.heap.size w.heap.size ts.flatten wr (by have h := HS.out.bd; rw [← HN.out, List.take_length] at h; exact h) (by have := HS.out.lt; omega)
      have HB : Aside (Below w.heap.size w wr) := HS.out.bl
      go_wp2_with (go_at_call 71; refine cst.mono ?_; rintro e w2 ⟨rfl, -, hB2, -⟩)
      go_ret
      exact ⟨rfl, HB.out.trans hB2⟩
set_option maxHeartbeats 800000 in
theorem Text_any (l : List N) (ts : List (List UInt8)) (v : Value) (w : World) (hl : IsCos w v l) (hn : l.length ≤ 1000) (hts : ts.length = l.length) (hw : ∀ (k : Nat) x t, l[k]? = some x → ts[k]? = some t → Wr x t) (ht : ts.flatten.length ≤ 10000) (hm : (Cc.whole l).isSome = true) :
    Calls Tryz.prog 17 #[v] w fun e w' => e = .returned (.tuple #[.string ⟨ts.flatten.toArray⟩, .int .i64 0]) ∧ Below w.heap.size w w' := by
  have c1 := May_any l v w hl (by omega)
  rw [hm] at c1
  have c2 : ∀ W, Below w.heap.size w W → Calls Tryz.prog 51 #[v] W fun e w' => e = .returned (.string ⟨ts.flatten.toArray⟩) ∧ Below w.heap.size w w' := fun W hW =>
    (written_any l ts v W (hl.below hW) hn hts hw ht).mono (by rintro e w' ⟨rfl, hB⟩; exact ⟨rfl, hW.trans (hB.mono hW.size)⟩)
  clear hl hw ht hts hm
  generalize (⟨ts.flatten.toArray⟩ : ByteArray) = T at *
  go_enter Tryz.func17, Tryz.ntmps17
  go_wp2_with (first | (go_at_call 50; refine c1.mono ?_; rintro e w1 ⟨rfl, hB⟩) | (go_at_call 51; refine (c2 _ hB).mono ?_; rintro e w2 ⟨rfl, hB2⟩))
  go_ret2
  exact ⟨rfl, hB2⟩
end Go.Proofs.YtaaokecdmbmgbaaGreatDoor
namespace Go.Proofs.YtaaokecdmbmgbaaGreatDoor
open Go.RowKit Cc
set_option maxRecDepth 100000
set_option linter.unusedSimpArgs false
set_option linter.unusedVariables false
namespace Cc
/-- A base type's text, of this letter. -/
abbrev sB (c : UInt8) : ByteArray := ⟨#[c]⟩
def bT : UInt8 → T3.Tp.Ty := fun c => if c = 98 then .tb else .ti
theorem sB_i : sB 105 = T3.S (T3.Tp.enc .ti) := rfl
theorem sB_b : sB 98 = T3.S (T3.Tp.enc .tb) := rfl
end Cc
set_option maxHeartbeats 800000 in
theorem ground_b (c : UInt8) (hc : c = 105 ∨ c = 98) (w : World) :
    Calls Tryz.prog 81 #[.string (sB c)] w fun e w' => e = .returned (.string (sB c)) ∧ Below w.heap.size w w' := by
  have ct : ∀ W, Calls Tryz.prog 103 #[.string (sB c)] W fun e w' => e = .returned (.bool true) ∧ w' = W := fun W => T3.isType_yes _ (by rcases hc with rfl | rfl <;> rfl) W
  have cp : ∀ W, Calls Tryz.prog 100 #[.int .u8 (c.toNat : Int)] W fun e w' => e = .returned (.int .i64 0) ∧ w' = W := fun W => by
    have h := T3.partsOf_any (c.toNat : Int) W
    rwa [show T3.Tp.ar (c.toNat : Int) = 0 by rcases hc with rfl | rfl <;> rfl] at h
  have cr := Tryz.strings_Repeat_zero (sB 63)
  rcases hc with rfl | rfl
  all_goals
    go_enter Tryz.func81, Tryz.ntmps81
    go_wp2_with (go_at_call 103; refine (ct _).mono ?_; rintro e w1 ⟨rfl, rfl⟩)
    go_quiet ((first | (go_at_call 100; exact Calls.quiet_of_same (cp _)) | (go_at_call 104; exact Calls.quiet_of_same (cr _))))
    go_wp2
    go_ret
    exact ⟨congrArg (fun s => Ending.returned (.string s)) (by decide), below_dN (Below.refl _ _) _⟩
theorem parts_b (c : UInt8) (hc : c = 105 ∨ c = 98) (w : World) :
    Calls Tryz.prog 82 #[.string (sB c)] w fun e w' => ∃ a k, e = .returned (.slice a 0 k) ∧ Below w.heap.size w w' := by
  rcases hc with rfl | rfl
  · refine (T3.parts_yes .ti (by decide) w).mono ?_
    rintro e w' ⟨v, rfl, hO, hB⟩
    obtain ⟨a, k, rfl⟩ := T3.own_len hO
    exact ⟨a, k, rfl, hB⟩
  · refine (T3.parts_yes .tb (by decide) w).mono ?_
    rintro e w' ⟨v, rfl, hO, hB⟩
    obtain ⟨a, k, rfl⟩ := T3.own_len hO
    exact ⟨a, k, rfl, hB⟩
theorem head_b (c : UInt8) (hc : c = 105 ∨ c = 98) (w : World) :
    Calls Tryz.prog 83 #[.string (sB c)] w fun e w' => e = .returned (.int .u8 (c.toNat : Int)) ∧ w' = w := by
  rcases hc with rfl | rfl
  · exact T3.head_yes .ti (by decide) w
  · exact T3.head_yes .tb (by decide) w
namespace Cc
/-- A contract, from a world on. -/
theorem at_of {K : Nat} {args : Array Value} {Q : Ending → Prop} (h : ∀ W, Calls Tryz.prog K args W fun e w' => Q e ∧ Below W.heap.size W w') (w W : World) (hW : Below w.heap.size w W) : Calls Tryz.prog K args W fun e w' => Q e ∧ Below w.heap.size w w' :=
  (h W).mono fun e w' ⟨a, b⟩ => ⟨a, hW.trans (b.mono hW.size)⟩
end Cc
set_option maxHeartbeats 1600000 in
theorem size_b (c : UInt8) (hc : c = 105 ∨ c = 98) (r : Bool) (w : World) :
    Calls Tryz.prog 58 #[.string (if r then sB c else sB 63), .string (if r then sB 63 else sB c)] w fun e w' => e = .returned (.int .u64 1) ∧ Below w.heap.size w w' := by
  have cg := at_of (ground_b c hc) w
  have cp : ∀ W, Below w.heap.size w W → Calls Tryz.prog 82 #[.string (sB c)] W fun e w' => (∃ a k, e = .returned (.slice a 0 k)) ∧ Below w.heap.size w w' := at_of (Q := fun e => ∃ a k, e = .returned (.slice a 0 k)) (fun W => (parts_b c hc W).mono (by rintro e w' ⟨a, k, rfl, hB⟩; exact ⟨⟨a, k, rfl⟩, hB⟩)) w
  have ch := head_b c hc
  have hB := Below.refl w.heap.size w
  have hx : ((c.toNat : Int) == 120) = false := by rcases hc with rfl | rfl <;> rfl
  rcases hc with rfl | rfl <;> cases r <;> simp only [if_true, if_false, Bool.false_eq_true]
  all_goals
    go_enter Tryz.func58, Tryz.ntmps58
    go_wp2_with (first | (go_at_call 81; refine (cg _ hB).mono ?_; rintro e w1 ⟨rfl, hB⟩) | (go_at_call 82; refine (cp _ hB).mono ?_; rintro e w2 ⟨⟨a2, k2, rfl⟩, hB⟩))
    go_loopg [5, 31] 0 (fun gq v5 tq wr => v5 = .int .u64 1 ∧ tq = .int .i64 0 ∧ Below w.heap.size w wr)
    case atStart => exact ⟨rfl, rfl, hB⟩
    case round =>
      obtain ⟨rfl, rfl, hB⟩ := hrel
      go_wp2_with (go_at_call 83; refine (ch _).mono ?_; rintro e w3 ⟨rfl, rfl⟩)
      go_ret
      exact ⟨rfl, hB⟩
namespace Cc
/-- Two texts, in a row of our own. -/
theorem own_two {W : World} {B : Nat} {v : Value} {x y : List UInt8} (h : W.ownsRow B 9 1 v 2 (T3.tcells [x, y])) : ∃ g k, v = .slice (some ⟨g, 0, none⟩) 2 k ∧ B ≤ g ∧ g < W.heap.size ∧ W.cell? ⟨g, 0, none⟩ = some (.string (T3.S x)) ∧ W.cell? ⟨g, 1, none⟩ = some (.string (T3.S y)) := by
  obtain ⟨g, cap, rfl, hc, hg, hcell⟩ := T3.own_cells h (by decide)
  have h0 := hcell 0 (by decide)
  have h1 := hcell 1 (by decide)
  exact ⟨g, cap, rfl, hg, World.block_lt_of_cell? W _ h0, h0, h1⟩
end Cc
theorem parts_f (a b : T3.Tp.Ty) (h : (T3.Tp.enc (.tf a b)).length ≤ 64) (w W : World) (hW : Below w.heap.size w W) :
    Calls Tryz.prog 82 #[.string (T3.S (T3.Tp.enc (.tf a b)))] W fun e w' => ∃ g k, e = .returned (.slice (some ⟨g, 0, none⟩) 2 k) ∧ W.heap.size ≤ g ∧ g < w'.heap.size ∧ w'.cell? ⟨g, 0, none⟩ = some (.string (T3.S (T3.Tp.enc a))) ∧ w'.cell? ⟨g, 1, none⟩ = some (.string (T3.S (T3.Tp.enc b))) ∧ Below w.heap.size w w' ∧ Below W.heap.size W w' := by
  refine (T3.parts_yes (.tf a b) h W).mono ?_
  rintro e w' ⟨v, rfl, hO, hB⟩
  obtain ⟨g, k, rfl, h1, h2, h3, h4⟩ := own_two hO
  exact ⟨g, k, rfl, h1, h2, h3, h4, hW.trans (hB.mono hW.size), hB⟩
set_option maxHeartbeats 1600000 in
theorem size_f (a b c d : T3.Tp.Ty) (h1 : (T3.Tp.enc (.tf a b)).length ≤ 64) (h2 : (T3.Tp.enc (.tf c d)).length ≤ 64) (hs1 : ∀ W, Calls Tryz.prog 58 #[.string (T3.S (T3.Tp.enc a)), .string (T3.S (T3.Tp.enc c))] W fun e w' => e = .returned (.int .u64 1) ∧ Below W.heap.size W w')
    (hs2 : ∀ W, Calls Tryz.prog 58 #[.string (T3.S (T3.Tp.enc b)), .string (T3.S (T3.Tp.enc d))] W fun e w' => e = .returned (.int .u64 1) ∧ Below W.heap.size W w') (w : World) :
    Calls Tryz.prog 58 #[.string (T3.S (T3.Tp.enc (.tf a b))), .string (T3.S (T3.Tp.enc (.tf c d)))] w fun e w' => e = .returned (.int .u64 3) ∧ Below w.heap.size w w' := by
  have cp1 := parts_f a b h1 w
  have cp2 := parts_f c d h2 w
  have ch := T3.head_yes (.tf a b) h1
  have hh : (T3.Tp.hd (.tf a b)).toNat = 62 := rfl
  rw [hh] at ch
  have hB := Below.refl w.heap.size w
  have n1 : ((T3.S (T3.Tp.enc (.tf a b))).toList == [63]) = false := by rw [ByteArray.toList_eq]; simp [T3.S, T3.Tp.enc]
  have n2 : ((T3.S (T3.Tp.enc (.tf c d))).toList == [63]) = false := by rw [ByteArray.toList_eq]; simp [T3.S, T3.Tp.enc]
  generalize T3.S (T3.Tp.enc (.tf a b)) = s1 at *
  generalize T3.S (T3.Tp.enc (.tf c d)) = s2 at *
  generalize T3.S (T3.Tp.enc a) = sa at *
  generalize T3.S (T3.Tp.enc b) = sb at *
  generalize T3.S (T3.Tp.enc c) = sc at *
  generalize T3.S (T3.Tp.enc d) = sd at *
  go_enter Tryz.func58, Tryz.ntmps58
  go_wp2_with (first | (go_at_call 82; refine (cp2 _ hB).mono ?_; rintro e w1 ⟨g2, k2, rfl, -, hg2, d0, d1, hB, -⟩; clear cp2) | (go_at_call 82; refine (cp1 _ hB).mono ?_; rintro e w2 ⟨g1, k1, rfl, -, hg1, c0, c1, hB, hB2⟩; clear cp1))
  have HC : Aside (∀ W, Below w2.heap.size w2 W → W.cell? ⟨g1, 0, none⟩ = some (.string sa) ∧ W.cell? ⟨g1, 1, none⟩ = some (.string sb) ∧ W.cell? ⟨g2, 0, none⟩ = some (.string sc) ∧ W.cell? ⟨g2, 1, none⟩ = some (.string sd)) := fun W hW =>
    have hg2' := Nat.lt_of_lt_of_le hg2 hB2.size
    ⟨(hW.cell (p := ⟨g1, 0, none⟩) hg1).trans c0, (hW.cell (p := ⟨g1, 1, none⟩) hg1).trans c1, (hW.cell (p := ⟨g2, 0, none⟩) hg2').trans ((hB2.cell (p := ⟨g2, 0, none⟩) hg2).trans d0), (hW.cell (p := ⟨g2, 1, none⟩) hg2').trans ((hB2.cell (p := ⟨g2, 1, none⟩) hg2).trans d1)⟩
  clear c0 c1 d0 d1 hg1 hg2 hB2
  go_loopg [5, 31] 2 (fun gq v5 tq wr => ∃ k : Nat, k + gq = 2 ∧ v5 = .int .u64 (1 + (k : Int)) ∧ tq = .int .i64 (k : Int) ∧ Below w.heap.size w wr ∧ Aside (Below w2.heap.size w2 wr))
  case atStart => exact ⟨0, rfl, rfl, rfl, hB, Below.refl _ _⟩
  case round =>
    obtain ⟨k, hkg, rfl, rfl, hBr, HR⟩ := hrel
    obtain ⟨c0, c1, d0, d1⟩ := HC.out wr HR.out
    have hk3 : k = 0 ∨ k = 1 ∨ k = 2 := by omega
    rcases hk3 with rfl | rfl | rfl
    · go_wp2_with (go_at_call 58; refine (hs1 _).mono ?_; rintro e w3 ⟨rfl, hB3⟩)
      go_roundg 1
      case measure => omega
      case rel => exact ⟨1, rfl, by go_num, by go_num, hBr.trans (hB3.mono hBr.size), HR.out.trans (hB3.mono HR.out.size)⟩
    · go_wp2_with (go_at_call 58; refine (hs2 _).mono ?_; rintro e w3 ⟨rfl, hB3⟩)
      go_roundg 0
      case measure => omega
      case rel => exact ⟨2, rfl, by go_num, by go_num, hBr.trans (hB3.mono hBr.size), HR.out.trans (hB3.mono HR.out.size)⟩
    · go_wp2_with (go_at_call 83; refine (ch _).mono ?_; rintro e w3 ⟨rfl, rfl⟩)
      go_ret
      exact ⟨rfl, hBr⟩
end Go.Proofs.YtaaokecdmbmgbaaGreatDoor
namespace Go.Proofs.YtaaokecdmbmgbaaGreatDoor
open Go.RowKit Cc
set_option maxRecDepth 100000
set_option linter.unusedSimpArgs false
set_option linter.unusedVariables false
namespace Cc
/-- A node's box, of our own: its cells may be written. -/
structure Box (w : World) (g : Nat) (x : N) : Prop where
  at1 : At1 w g 0 x
  fz : ∀ o, w.frozen? ⟨g, o, none⟩ = false
  lt : g < w.heap.size
theorem Box.of_heap {w : World} {g : Nat} {x : N} {t : TypeId} (h : w.heap[g]? = some (.cells #[.int .i8 x.op, .int .i64 x.proj, .bool x.inj, .int .u8 x.head, .int .i64 x.label, .int .u8 x.frm, .int .u8 x.tto] t (0, 0))) : Box w g x :=
  ⟨⟨Lib.cell_of_heap h 0, Lib.cell_of_heap h 1, Lib.cell_of_heap h 2, Lib.cell_of_heap h 3, Lib.cell_of_heap h 4, Lib.cell_of_heap h 5, Lib.cell_of_heap h 6⟩, Lib.frozen_of_heap h, (Array.getElem?_eq_some_iff.1 h).1⟩
theorem Box.below {w w' : World} {g : Nat} {x : N} (h : Box w g x) (hB : Below w.heap.size w w') : Box w' g x :=
  ⟨h.at1.below h.lt hB, fun o => (hB.frozen (p := ⟨g, o, none⟩) h.lt).trans (h.fz o), Nat.lt_of_lt_of_le h.lt hB.size⟩
theorem Box.grown {w w' : World} {g : Nat} {x : N} {row : Option Nat} (h : Box w g x) (hg : w.grownBy w' row) (hn : some g ≠ row) : Box w' g x := by
  have hb := hg.block g h.lt hn
  have e : ∀ o, w'.cell? ⟨g, o, none⟩ = w.cell? ⟨g, o, none⟩ := fun o => World.cell?_of_block hb
  refine ⟨?_, fun o => (World.frozen?_of_block (a := ⟨g, o, none⟩) hb).trans (h.fz o), Nat.lt_of_lt_of_le h.lt hg.size⟩
  have := h.at1
  unfold At1 at this ⊢
  simp only [e]
  exact this
theorem Keep.set {w W : World} (h : Keep w W) (g o : Nat) (u : Value) (hg : w.heap.size ≤ g) : Keep w (W.setCell ⟨g, o, none⟩ u) :=
  ⟨by simpa using h.sz, fun k c t fz e n => by
    rw [Below.heap_setCell _ _ _ _ (show k ≠ g from fun he => by have := (Array.getElem?_eq_some_iff.1 e).1; omega)]
    exact h.kp k c t fz e n⟩
/-- What holds while a node's box is being filled. -/
structure Fil (w0 w W : World) (lv : Value) (l : List N) : Prop where
  own : Own w0 W lv l
  bl : Below w0.heap.size w0 W
  kp : Keep w W
  lt : w.heap.size < W.heap.size
  ne : ∀ g, lv.ownBlock = some g → g ≠ w.heap.size
  lo : w0.heap.size ≤ w.heap.size
theorem Fil.set {w0 w W : World} {lv : Value} {l : List N} (h : Fil w0 w W lv l) (o : Nat) (u : Value) : Fil w0 w (W.setCell ⟨w.heap.size, o, none⟩ u) lv l :=
  ⟨h.own.set _ _ _ h.ne, h.bl.setCell (p := ⟨w.heap.size, o, none⟩) h.lo _, h.kp.set _ _ _ (Nat.le_refl _), by simpa using h.lt, h.ne, h.lo⟩
theorem Fil.alloc {w0 w W : World} {lv : Value} {l : List N} (h : Fil w0 w W lv l) (o : Obj) : Fil w0 w (W.alloc o) lv l :=
  ⟨h.own.below ((Below.refl _ _).alloc (Nat.le_refl _) _), h.bl.alloc h.bl.size _, h.kp.alloc _, by have := h.lt; simp; omega, h.ne, h.lo⟩
theorem Fil.below {w0 w W W' : World} {lv : Value} {l : List N} (h : Fil w0 w W lv l) (hB : Below W.heap.size W W') : Fil w0 w W' lv l :=
  ⟨h.own.below hB, h.bl.trans (hB.mono h.bl.size), h.kp.trans (Keep.of hB), Nat.lt_of_lt_of_le h.lt hB.size, h.ne, h.lo⟩
theorem Fil.start {w0 w : World} {lv : Value} {l : List N} (hO : Own w0 w lv l) (hB : Below w0.heap.size w0 w) (o : Obj) : Fil w0 w (w.alloc o) lv l :=
  ⟨hO.below ((Below.refl _ _).alloc (Nat.le_refl _) _), hB.alloc hB.size _, (Keep.refl w).alloc _, by simp, fun g e => by have := (hO.blk e).2; omega, hB.size⟩
/-- The box of what was appended to is another one. -/
theorem Fil.cell {w0 w W w' : World} {lv : Value} {l : List N} (h : Fil w0 w W lv l) (hg : W.grownBy w' lv.ownBlock) (o : Nat) : w'.cell? ⟨w.heap.size, o, none⟩ = W.cell? ⟨w.heap.size, o, none⟩ :=
  World.cell?_of_block (a := ⟨w.heap.size, o, none⟩) (hg.block w.heap.size h.lt (fun e => h.ne _ e.symm rfl))
end Cc
set_option maxHeartbeats 3200000 in
theorem lay_b (c : UInt8) (hc : c = 105 ∨ c = 98) (r : Bool) (p : Int) (w0 w : World) (lv : Value) (l : List N) (hB : Below w0.heap.size w0 w) (hO : Own w0 w lv l) (hl : l.length ≤ 1000) :
    Calls Tryz.prog 59 #[lv, .string (if r then sB c else sB 63), .string (if r then sB 63 else sB c), .int .i64 p] w (ThEnd w0 w (l ++ [⟨2, if r then 0 else p, r, (c.toNat : Int), 0, 0, 0⟩])) := by
  have cg : ∀ W, Calls Tryz.prog 81 #[.string (sB c)] W fun e w' => e = .returned (.string (sB c)) ∧ Below W.heap.size W w' := ground_b c hc
  have cp : ∀ W, Calls Tryz.prog 82 #[.string (sB c)] W fun e w' => ∃ a k, e = .returned (.slice a 0 k) ∧ Below W.heap.size W w' := parts_b c hc
  have ch := head_b c hc
  have co : ∀ W, Calls Tryz.prog 84 #[.int .u8 (c.toNat : Int)] W fun e w' => e = .returned (.int .i8 2) ∧ w' = W := fun W => by
    have h := opOf_any (c.toNat : Int) W
    rwa [show opB (c.toNat : Int) = 2 by rcases hc with rfl | rfl <;> rfl] at h
  have HO : Aside (Own w0 w lv l) := hO
  have HB : Aside (Below w0.heap.size w0 w) := hB
  have HL : Aside (l.length ≤ 1000) := hl
  clear hO hB hl
  rcases hc with rfl | rfl <;> cases r <;> simp only [if_true, if_false, Bool.false_eq_true]
  all_goals
    go_enter Tryz.func59, Tryz.ntmps59
    go_wp2_with (first | (go_at_call 81; refine (cg _).mono ?_; rintro e w1 ⟨rfl, hB1⟩; have HX : Box w1 w.heap.size ⟨0, 0, false, 0, 0, 0, 0⟩ := (Box.of_heap (heap_alloc_new _ _)).below hB1; have HF : Aside (Fil w0 w w1 lv l) := (Fil.start HO.out HB.out _).below hB1; obtain ⟨⟨b0, b1, b2, b3, b4, b5, b6⟩, hfz, hlt⟩ := HX; clear hB1) | (go_at_call 83; refine (ch _).mono ?_; rintro e w2 ⟨rfl, rfl⟩) | (go_at_call 84; refine (co _).mono ?_; rintro e w3 ⟨rfl, rfl⟩) | (at_builtin; go_must (refine wpList_app rfl _ _ rfl w0 _ lv l rfl ((((HF.out.set _ _).set _ _).set _ _).alloc _).own ((((HF.out.set _ _).set _ _).set _ _).alloc _).bl ⟨w1.heap.size, 0, none⟩ 1 1 _ rfl rfl (cells_new _ _ _ _ _ _ _ _ _ _ (by simp)) (by decide) (by have := HL.out; omega) ?_); intro v' w' hO' hB' hK' hg' hf'; have HO' : Aside (Own w0 w' v' _) := hO'; have HB' : Aside (Below w0.heap.size w0 w') := hB'; have HK' : Aside (Keep w w') := ((((HF.out.set _ _).set _ _).set _ _).alloc _).kp.trans hK'; have r0 : w'.cell? ⟨w.heap.size, 0, none⟩ = some (.int .i8 2) := (((((HF.out.set _ _).set _ _).set _ _).alloc _).cell hg' 0).trans (by go_simp); have hlt' : w.heap.size < w'.heap.size := Nat.lt_of_lt_of_le ((((HF.out.set _ _).set _ _).set _ _).alloc _).lt hg'.size; clear hO' hB' hK' hg' hf' b0 b1 b2 b3 b4 b5 b6 hfz hlt) | (go_at_call 82; refine (cp _).mono ?_; rintro e w4 ⟨a4, k4, rfl, hB4⟩; have r0 := (hB4.cell (p := ⟨w.heap.size, 0, none⟩) hlt').trans r0; have hlt' := Nat.lt_of_lt_of_le hlt' hB4.size; have HO' : Aside (Own w0 w4 v' _) := HO'.out.below hB4; have HB' : Aside (Below w0.heap.size w0 w4) := HB'.out.trans (hB4.mono HB'.out.size); have HK' : Aside (Keep w w4) := HK'.out.trans (Keep.of hB4); clear hB4))
    go_ret
    exact ⟨v', rfl, HO'.out, HB'.out, HK'.out⟩
end Go.Proofs.YtaaokecdmbmgbaaGreatDoor
namespace Go.Proofs.YtaaokecdmbmgbaaGreatDoor
open Go.RowKit Cc
set_option maxRecDepth 100000
set_option linter.unusedSimpArgs false
set_option linter.unusedVariables false
namespace Cc
theorem Own.drew {w0 w : World} {v : Value} {l : List N} (h : Own w0 w v l) : Own w0 w.drew v l := ⟨h.1, h.2⟩
/-- A row of two texts, in a block of texts. -/
structure Tw2 (W : World) (g : Nat) (x y : ByteArray) : Prop where
  c0 : W.cell? ⟨g, 0, none⟩ = some (.string x)
  c1 : W.cell? ⟨g, 1, none⟩ = some (.string y)
  bk : ∃ cs, W.heap[g]? = some (Obj.cells cs 9 (0, 0))
theorem Tw2.lt {W : World} {g : Nat} {x y : ByteArray} (h : Tw2 W g x y) : g < W.heap.size := by
  obtain ⟨cs, e⟩ := h.bk
  exact (Array.getElem?_eq_some_iff.1 e).1
theorem Tw2.keep {W W' : World} {g : Nat} {x y : ByteArray} (h : Tw2 W g x y) (hk : Keep W W') : Tw2 W' g x y := by
  obtain ⟨cs, e⟩ := h.bk
  have hb := hk.kp g cs 9 (0, 0) e (by decide)
  exact ⟨(World.cell?_of_block (a := ⟨g, 0, none⟩) hb).trans h.c0, (World.cell?_of_block (a := ⟨g, 1, none⟩) hb).trans h.c1, cs, hb.trans e⟩
theorem own_two' {W : World} {B : Nat} {v : Value} {x y : List UInt8} (h : W.ownsRow B 9 1 v 2 (T3.tcells [x, y])) : ∃ g k, v = .slice (some ⟨g, 0, none⟩) 2 k ∧ Tw2 W g (T3.S x) (T3.S y) := by
  obtain ⟨g, k, e, h1, h2, h3, h4⟩ := own_two h
  rcases h.2 with ⟨_, hn⟩ | ⟨g', cap, cur, e', -, hb, -⟩
  · omega
  · rw [e] at e'
    injection e' with e' _ _
    injection e' with e'
    injection e' with e' _ _
    subst e'
    exact ⟨g, k, e, h3, h4, cur, hb⟩
end Cc
theorem parts_f2 (a b : T3.Tp.Ty) (h : (T3.Tp.enc (.tf a b)).length ≤ 64) (W : World) :
    Calls Tryz.prog 82 #[.string (T3.S (T3.Tp.enc (.tf a b)))] W fun e w' => ∃ g k, e = .returned (.slice (some ⟨g, 0, none⟩) 2 k) ∧ Tw2 w' g (T3.S (T3.Tp.enc a)) (T3.S (T3.Tp.enc b)) ∧ Below W.heap.size W w' := by
  refine (T3.parts_yes (.tf a b) h W).mono ?_
  rintro e w' ⟨v, rfl, hO, hB⟩
  obtain ⟨g, k, rfl, h1⟩ := own_two' hO
  exact ⟨g, k, rfl, h1, hB⟩
def Cc.LyC (s1 s2 : ByteArray) (p : Int) (r : List N) : Prop := ∀ (w0 W : World) (lv : Value) (l : List N), Below w0.heap.size w0 W → Own w0 W lv l → l.length ≤ 1000 → Calls Tryz.prog 59 #[lv, .string s1, .string s2, .int .i64 p] W (ThEnd w0 W (l ++ r))
set_option maxHeartbeats 6400000 in
theorem lay_f (a b c d : T3.Tp.Ty) (h1 : (T3.Tp.enc (.tf a b)).length ≤ 64) (h2 : (T3.Tp.enc (.tf c d)).length ≤ 64) (p : Int) (hp : -100 ≤ p ∧ p ≤ 100) (r1 r2 : List N) (k1 : LyC (T3.S (T3.Tp.enc c)) (T3.S (T3.Tp.enc a)) (-p) r1) (k2 : LyC (T3.S (T3.Tp.enc b)) (T3.S (T3.Tp.enc d)) p r2) (hr : r1.length ≤ 100)
    (w0 w : World) (lv : Value) (l : List N) (hB : Below w0.heap.size w0 w) (hO : Own w0 w lv l) (hl : l.length ≤ 100) :
    Calls Tryz.prog 59 #[lv, .string (T3.S (T3.Tp.enc (.tf a b))), .string (T3.S (T3.Tp.enc (.tf c d))), .int .i64 p] w (ThEnd w0 w (((l ++ [⟨3, 0, false, 62, 0, 0, 0⟩]) ++ r1) ++ r2)) := by
  have cp1 := parts_f2 a b h1
  have cp2 := parts_f2 c d h2
  have ch := T3.head_yes (.tf a b) h1
  have hh : (T3.Tp.hd (.tf a b)).toNat = 62 := rfl
  rw [hh] at ch
  have co : ∀ W, Calls Tryz.prog 84 #[.int .u8 62] W fun e w' => e = .returned (.int .i8 3) ∧ w' = W := fun W => opOf_any 62 W
  have n1 : ((T3.S (T3.Tp.enc (.tf a b))).toList == [63]) = false := by rw [ByteArray.toList_eq]; simp [T3.S, T3.Tp.enc]
  have n2 : ((T3.S (T3.Tp.enc (.tf c d))).toList == [63]) = false := by rw [ByteArray.toList_eq]; simp [T3.S, T3.Tp.enc]
  have K1 : Aside (LyC (T3.S (T3.Tp.enc c)) (T3.S (T3.Tp.enc a)) (-p) r1) := k1
  have K2 : Aside (LyC (T3.S (T3.Tp.enc b)) (T3.S (T3.Tp.enc d)) p r2) := k2
  clear hh k1 k2 h1 h2
  generalize T3.S (T3.Tp.enc (.tf a b)) = s1 at *
  generalize T3.S (T3.Tp.enc (.tf c d)) = s2 at *
  generalize T3.S (T3.Tp.enc a) = sa at *
  generalize T3.S (T3.Tp.enc b) = sb at *
  generalize T3.S (T3.Tp.enc c) = sc at *
  generalize T3.S (T3.Tp.enc d) = sd at *
  have HO : Aside (Own w0 w lv l) := hO
  have HB : Aside (Below w0.heap.size w0 w) := hB
  have HL : Aside (l.length ≤ 100 ∧ r1.length ≤ 100) := ⟨hl, hr⟩
  clear hO hB hl hr
  obtain ⟨M, hM⟩ : ∃ M, M = ((l ++ [(⟨3, 0, false, 62, 0, 0, 0⟩ : N)]) ++ r1) ++ r2 := ⟨_, rfl⟩
  rw [← hM]
  have HM : Aside (M = ((l ++ [(⟨3, 0, false, 62, 0, 0, 0⟩ : N)]) ++ r1) ++ r2) := hM
  clear hM
  obtain ⟨hp1, hp2⟩ := hp
  go_enter Tryz.func59, Tryz.ntmps59
  go_wp2_with (first | (go_at_call 83; refine (ch _).mono ?_; rintro e w2 ⟨rfl, rfl⟩) | (go_at_call 84; refine (co _).mono ?_; rintro e w3 ⟨rfl, rfl⟩) | (at_builtin; go_must (refine wpList_app rfl _ _ rfl w0 _ lv l rfl ((Fil.start HO.out HB.out _).alloc _).own ((Fil.start HO.out HB.out _).alloc _).bl ⟨w.heap.size + 1, 0, none⟩ 1 1 _ rfl rfl (cells_new _ _ _ _ _ _ _ _ _ _ (by simp)) (by decide) (by have := HL.out; omega) ?_); intro v' w' hO' hB' hK' hg' hf'; have HO' : Aside (Own w0 w' v' _) := hO'; have HB' : Aside (Below w0.heap.size w0 w') := hB'; have HK' : Aside (Keep w w') := ((Fil.start HO.out HB.out _).alloc _).kp.trans hK'; have r0 : w'.cell? ⟨w.heap.size, 0, none⟩ = some (.int .i8 3) := (((Fil.start HO.out HB.out _).alloc _).cell hg' 0).trans (by go_simp); have hlt' : w.heap.size < w'.heap.size := Nat.lt_of_lt_of_le ((Fil.start HO.out HB.out _).alloc _).lt hg'.size; clear hO' hB' hK' hg' hf') | (go_at_call 82; refine (cp1 _).mono ?_; rintro e w4 ⟨g1, k1, rfl, hT1, hB4⟩; clear cp1; have HT1 : Aside (Tw2 w4 g1 sa sb) := hT1; have r0 := (hB4.cell (p := ⟨w.heap.size, 0, none⟩) hlt').trans r0; have hlt' := Nat.lt_of_lt_of_le hlt' hB4.size; have HO' : Aside (Own w0 w4 v' _) := HO'.out.below hB4; have HB' : Aside (Below w0.heap.size w0 w4) := HB'.out.trans (hB4.mono HB'.out.size); have HK' : Aside (Keep w w4) := HK'.out.trans (Keep.of hB4); clear hB4 hT1) | (go_at_call 82; refine (cp2 _).mono ?_; rintro e w5 ⟨g2, k2, rfl, hT2, hB4⟩; clear cp2; have HT2 : Aside (Tw2 w5 g2 sc sd) := hT2; have HT1 : Aside (Tw2 w5 g1 sa sb) := HT1.out.keep (Keep.of hB4); have r0 := (hB4.cell (p := ⟨w.heap.size, 0, none⟩) hlt').trans r0; have HO' : Aside (Own w0 w5 v' _) := HO'.out.below hB4; have HB' : Aside (Below w0.heap.size w0 w5) := HB'.out.trans (hB4.mono HB'.out.size); have HK' : Aside (Keep w w5) := HK'.out.trans (Keep.of hB4); clear hB4 hT2 hlt'))
  clear r0
  have c10 := HT1.out.c0
  have c20 := HT2.out.c0
  have hmix : Tryz.prog.follows .mixedOrders = true := by kernel_rfl
  have hneg : IntKind.i64.wrap (-p) = -p := IntWalk.i64_in _ ⟨by omega, by omega⟩
  go_wp2_with fail
  go_still_tail 9, hmix
  go_wp2_with fail
  refine (K1.out w0 w5.drew v' (l ++ [(⟨3, 0, false, 62, 0, 0, 0⟩ : N)]) HB'.out.drew HO'.out.drew (by have := HL.out; simp; omega)).mono ?_
  rintro e w6 ⟨v6, rfl, hO6, hB6, hK6⟩
  have HO6 : Aside (Own w0 w6 v6 ((l ++ [⟨3, 0, false, 62, 0, 0, 0⟩]) ++ r1)) := hO6
  have HB6 : Aside (Below w0.heap.size w0 w6) := hB6
  have hK5 : Keep w5 w6 := ⟨hK6.sz, hK6.kp⟩
  have HK6 : Aside (Keep w w6) := HK'.out.trans hK5
  have c11 := (HT1.out.keep hK5).c1
  have c21 := (HT2.out.keep hK5).c1
  clear hO6 hB6 hK6 hK5 c10 c20 HO' HB' HK' HT1 HT2
  go_wp2_with fail
  go_still_tail 8, hmix
  go_wp2_with fail
  refine (K2.out w0 w6.drew v6 ((l ++ [(⟨3, 0, false, 62, 0, 0, 0⟩ : N)]) ++ r1) HB6.out.drew HO6.out.drew (by have := HL.out; simp; omega)).mono ?_
  rintro e w7 ⟨v7, rfl, hO7, hB7, hK7⟩
  have hK8 : Keep w6 w7 := ⟨hK7.sz, hK7.kp⟩
  have HE : Aside (Own w0 w7 v7 M ∧ Below w0.heap.size w0 w7 ∧ Keep w w7) := ⟨by rw [HM.out]; exact hO7, hB7, HK6.out.trans hK8⟩
  clear hO7 hB7 hK7 hK8 c11 c21
  go_wp2_with fail
  go_ret
  exact ⟨v7, rfl, HE.out.1, HE.out.2.1, HE.out.2.2⟩
end Go.Proofs.YtaaokecdmbmgbaaGreatDoor
namespace Go.Proofs.YtaaokecdmbmgbaaGreatDoor
open Go.RowKit Cc
set_option maxRecDepth 100000
set_option linter.unusedSimpArgs false
set_option linter.unusedVariables false
open T3.Tp (Ty)
theorem isTypeC_yes (t : Ty) (h : (T3.Tp.enc t).length ≤ 64) (w : World) : Calls Tryz.prog 55 #[.string (T3.S (T3.Tp.enc t))] w fun e w' => e = .returned (.bool true) ∧ w' = w := by
  have hc := T3.check_any (T3.S (T3.Tp.enc t)) w
  rw [T3.S_list, T3.Tp.chk_enc t h] at hc
  generalize T3.S (T3.Tp.enc t) = s at *
  generalize (T3.Tp.enc t).length = n at *
  go_enter Tryz.func55, Tryz.ntmps55
  go_wp2_with (go_at_call 78; refine hc.mono ?_; rintro e w1 ⟨rfl, rfl⟩)
  go_ret
  exact ⟨rfl, rfl⟩
namespace Cc
def zro : List Value := [.int .i8 0, .int .i64 0, .bool false, .int .u8 0, .int .i64 0, .int .u8 0, .int .u8 0]
end Cc
theorem mk3 (w : World) : (Instr.makeSlice 22 (.int .i64 0) (.int .u64 3)).run Tryz.prog w = .ok (.slice (some ⟨w.heap.size, 0, none⟩) 0 3) (w.alloc (.cells (zro ++ zro ++ zro).toArray 28)) := by kernel_rfl
theorem own_mk3 (w0 w : World) (hB : w0.heap.size ≤ w.heap.size) : Own w0 (w.alloc (.cells (zro ++ zro ++ zro).toArray 28)) (.slice (some ⟨w.heap.size, 0, none⟩) 0 3) [] :=
  ⟨by simp [crow], .inr ⟨w.heap.size, 3, (zro ++ zro ++ zro).toArray, rfl, hB, heap_alloc_new _ _, by decide, by decide, rfl, rfl⟩⟩
set_option maxHeartbeats 1600000 in
theorem Of_f (a b c d : Ty) (h1 : (T3.Tp.enc (.tf a b)).length ≤ 64) (h2 : (T3.Tp.enc (.tf c d)).length ≤ 64) (p : Int) (hp : -100 ≤ p ∧ p ≤ 100) (hp0 : p ≠ 0) (r1 r2 : List N) (k1 : LyC (T3.S (T3.Tp.enc c)) (T3.S (T3.Tp.enc a)) (-p) r1) (k2 : LyC (T3.S (T3.Tp.enc b)) (T3.S (T3.Tp.enc d)) p r2) (hr : r1.length ≤ 100)
    (hcns : T3.Tp.cns (.tf a b) (.tf c d) = true) (hsz : ∀ W, Calls Tryz.prog 58 #[.string (T3.S (T3.Tp.enc (.tf a b))), .string (T3.S (T3.Tp.enc (.tf c d)))] W fun e w' => e = .returned (.int .u64 3) ∧ Below W.heap.size W w') (w : World) :
    Calls Tryz.prog 22 #[.string (T3.S (T3.Tp.enc (.tf a b))), .string (T3.S (T3.Tp.enc (.tf c d))), .int .i64 p] w fun e w' => ∃ v, e = .returned (.tuple #[v, .int .i64 0]) ∧ Own w w' v ((([⟨3, 0, false, 62, 0, 0, 0⟩] : List N) ++ r1) ++ r2) ∧ Below w.heap.size w w' := by
  have ci1 := isTypeC_yes (.tf a b) h1
  have ci2 := isTypeC_yes (.tf c d) h2
  have cc : ∀ W, Calls Tryz.prog 56 #[.string (T3.S (T3.Tp.enc (.tf a b))), .string (T3.S (T3.Tp.enc (.tf c d)))] W fun e w' => e = .returned (.bool true) ∧ Below W.heap.size W w' := fun W => by
    have h := T3.consistent_yes (.tf a b) (.tf c d) h1 h2 W
    rwa [hcns] at h
  have cl : ∀ W, Calls Tryz.prog 57 #[.int .i64 p] W fun e w' => e = .returned (.bool true) ∧ w' = W := fun W => by
    have h := isLabel_any p W
    rwa [isLab_iff.2 ⟨hp0, by omega, by omega⟩] at h
  have cy : ∀ W lv, Below w.heap.size w W → Own w W lv [] → Calls Tryz.prog 59 #[lv, .string (T3.S (T3.Tp.enc (.tf a b))), .string (T3.S (T3.Tp.enc (.tf c d))), .int .i64 p] W fun e w' => ∃ v, e = .returned v ∧ Own w w' v ((([⟨3, 0, false, 62, 0, 0, 0⟩] : List N) ++ r1) ++ r2) ∧ Below w.heap.size w w' := fun W lv hB hO =>
    (lay_f a b c d h1 h2 p hp r1 r2 k1 k2 hr w W lv [] hB hO (by simp)).mono (by rintro e w' ⟨v, rfl, hO', hB', -⟩; exact ⟨v, rfl, by simpa using hO', hB'⟩)
  clear k1 k2 hcns h1 h2
  generalize T3.S (T3.Tp.enc (.tf a b)) = s1 at *
  generalize T3.S (T3.Tp.enc (.tf c d)) = s2 at *
  generalize (([⟨3, 0, false, 62, 0, 0, 0⟩] : List N) ++ r1) ++ r2 = R at *
  have m3 := mk3
  generalize hz : (zro ++ zro ++ zro).toArray = Z at *
  have HZ : Aside ((zro ++ zro ++ zro).toArray = Z) := hz
  clear hz
  go_enter Tryz.func22, Tryz.ntmps22
  go_wp2_with (first | (go_at_call 55; refine (ci1 _).mono ?_; rintro e w1 ⟨rfl, rfl⟩; clear ci1) | (go_at_call 55; refine (ci2 _).mono ?_; rintro e w2 ⟨rfl, rfl⟩; clear ci2) | (go_at_call 56; refine (cc _).mono ?_; rintro e w3 ⟨rfl, hB3⟩) | (go_at_call 57; refine (cl _).mono ?_; rintro e w4 ⟨rfl, rfl⟩) | (go_at_call 58; refine (hsz _).mono ?_; rintro e w5 ⟨rfl, hB5⟩; have hB6 := hB3.trans (hB5.mono hB3.size)) | (go_at_call 59; refine (cy _ _ (hB6.alloc hB6.size _) (by rw [← HZ.out]; exact own_mk3 _ _ hB6.size)).mono ?_; rintro e w7 ⟨v7, rfl, hO7, hB7⟩))
  go_ret2
  exact ⟨v7, rfl, hO7, hB7⟩
/-- The two casts of works. -/
theorem lyc_b (c : UInt8) (hc : c = 105 ∨ c = 98) (p : Int) : LyC (sB 63) (sB c) p [⟨2, p, false, (c.toNat : Int), 0, 0, 0⟩] ∧ LyC (sB c) (sB 63) p [⟨2, 0, true, (c.toNat : Int), 0, 0, 0⟩] :=
  ⟨fun w0 W lv l hB hO hl => lay_b c hc false p w0 W lv l hB hO hl, fun w0 W lv l hB hO hl => lay_b c hc true p w0 W lv l hB hO hl⟩
theorem Of_1 (w : World) : Calls Tryz.prog 22 #[.string ⟨#[62, 105, 105]⟩, .string ⟨#[62, 63, 63]⟩, .int .i64 5] w fun e w' => ∃ v, e = .returned (.tuple #[v, .int .i64 0]) ∧ Own w w' v [⟨3, 0, false, 62, 0, 0, 0⟩, ⟨2, -5, false, 105, 0, 0, 0⟩, ⟨2, 0, true, 105, 0, 0, 0⟩] ∧ Below w.heap.size w w' :=
  Of_f .ti .ti .tq .tq (by decide) (by decide) 5 (by decide) (by decide) _ _ (lyc_b 105 (.inl rfl) (-5)).1 (lyc_b 105 (.inl rfl) 5).2 (by decide) (by decide) (size_f .ti .ti .tq .tq (by decide) (by decide) (size_b 105 (.inl rfl) true) (size_b 105 (.inl rfl) true)) w
theorem Of_2 (w : World) : Calls Tryz.prog 22 #[.string ⟨#[62, 63, 63]⟩, .string ⟨#[62, 105, 98]⟩, .int .i64 7] w fun e w' => ∃ v, e = .returned (.tuple #[v, .int .i64 0]) ∧ Own w w' v [⟨3, 0, false, 62, 0, 0, 0⟩, ⟨2, 0, true, 105, 0, 0, 0⟩, ⟨2, 7, false, 98, 0, 0, 0⟩] ∧ Below w.heap.size w w' :=
  Of_f .tq .tq .ti .tb (by decide) (by decide) 7 (by decide) (by decide) _ _ (lyc_b 105 (.inl rfl) (-7)).2 (lyc_b 98 (.inr rfl) 7).1 (by decide) (by decide) (size_f .tq .tq .ti .tb (by decide) (by decide) (size_b 105 (.inl rfl) false) (size_b 98 (.inr rfl) false)) w
end Go.Proofs.YtaaokecdmbmgbaaGreatDoor
namespace Go.Proofs.YtaaokecdmbmgbaaGreatDoor
open Go.RowKit Cc
set_option maxRecDepth 100000
set_option linter.unusedSimpArgs false
set_option linter.unusedVariables false
namespace Cc
def l1 : List N := [⟨3, 0, false, 62, 0, 0, 0⟩, ⟨2, -5, false, 105, 0, 0, 0⟩, ⟨2, 0, true, 105, 0, 0, 0⟩]
def l2 : List N := [⟨3, 0, false, 62, 0, 0, 0⟩, ⟨2, 0, true, 105, 0, 0, 0⟩, ⟨2, 7, false, 98, 0, 0, 0⟩]
def l3 : List N := [⟨3, 0, false, 62, 0, 0, 0⟩, ⟨2, 0, false, 105, 0, 0, 0⟩, ⟨7, 0, false, 105, 7, 105, 98⟩]
def c1 : C := .tw .fn 0 false (.bs (-5) false .hi) (.bs 0 true .hi)
def c2 : C := .tw .fn 0 false (.bs 0 true .hi) (.bs 7 false .hb)
def c3 : C := .tw .fn 0 false (.bs 0 false .hi) (.fl 0 .hi 7 .hb)
theorem wh1 : whole l1 = some c1 := by decide
theorem wh2 : whole l2 = some c2 := by decide
theorem wh3 : (whole l3).isSome = true := by decide
theorem mt12 : meets c1 c2 = true := by simp [c1, c2, meets, t0, t1]
theorem th12 : thn c1 c2 = c3 := by simp [c1, c2, c3, thn, t0, t1]
theorem fl3 : flat c3 = l3 := by decide
def ts3 : List (List UInt8) := [[62], [105], (35 :: Lib.decDigits 7) ++ [105] ++ [98]]
theorem wr3 : ∀ (k : Nat) x t, l3[k]? = some x → ts3[k]? = some t → Wr x t := by
  intro k x t hx ht
  match k, hx, ht with
  | 0, hx, ht => cases hx; cases ht; exact ⟨rfl, rfl, .inl ⟨62, by decide, by decide, rfl, rfl⟩⟩
  | 1, hx, ht => cases hx; cases ht; exact ⟨rfl, rfl, .inl ⟨105, by decide, by decide, rfl, rfl⟩⟩
  | 2, hx, ht => cases hx; cases ht; exact ⟨rfl, rfl, .inr ⟨7, 105, 98, by decide, rfl, rfl, rfl, rfl, rfl⟩⟩
  | k + 3, hx, _ => simp [l3] at hx
theorem dd7 : Lib.decDigits 7 = [55] := by
  first | (unfold Lib.decDigits; simp; done) | (simp [Lib.decDigits]; done) | kernel_rfl
theorem tx3 : (⟨ts3.flatten.toArray⟩ : ByteArray) = ⟨#[62, 105, 35, 55, 105, 98]⟩ := by unfold ts3; rw [dd7]; rfl
theorem ln3 : ts3.flatten.length ≤ 10000 := by unfold ts3; rw [dd7]; decide
end Cc
set_option maxHeartbeats 1600000 in
theorem works_any (w : World) : Calls Tryz.prog 6 #[] w fun e w' => e = .returned (.bool true) ∧ Below w.heap.size w w' := by
  have hT : ∀ W v1 v2, IsCos W v1 l1 → IsCos W v2 l2 → Calls Tryz.prog 10 #[v1, v2] W fun e w' => ∃ v, e = .returned (.tuple #[v, .int .i64 0]) ∧ Own W w' v l3 ∧ Below W.heap.size W w' := fun W v1 v2 h1 h2 => by
    refine (Then_any l1 l2 v1 v2 W h1 h2 (by decide) (by decide)).mono ?_
    rintro e w' ⟨hE, hB⟩
    rw [wh1, wh2] at hE
    simp only [TnEnd] at hE
    rw [if_pos mt12, th12, fl3] at hE
    obtain ⟨v, rfl, hO⟩ := hE
    exact ⟨v, rfl, hO, hB⟩
  have hX : ∀ W v, IsCos W v l3 → Calls Tryz.prog 17 #[v] W fun e w' => e = .returned (.tuple #[.string ⟨#[62, 105, 35, 55, 105, 98]⟩, .int .i64 0]) ∧ Below W.heap.size W w' := fun W v h => by
    have := Text_any l3 ts3 v W h (by decide) rfl wr3 ln3 wh3
    rwa [tx3] at this
  have o1 := Of_1
  have o2 := Of_2
  go_enter Tryz.func6, Tryz.ntmps6
  go_wp2_with fail
  refine (o1 _).mono ?_
  rintro e w1 ⟨v1, rfl, hO1, hB1⟩
  have H1 : Aside (IsCos w1 v1 l1) := IsCos.own hO1
  clear hO1 o1
  go_wp2_with fail
  refine (o2 _).mono ?_
  rintro e w2 ⟨v2, rfl, hO2, hB2⟩
  have H2 : Aside (IsCos w2 v2 l2) := IsCos.own hO2
  have H1 : Aside (IsCos w2 v1 l1) := H1.out.below hB2
  have hB2 := hB1.trans (hB2.mono hB1.size)
  clear hO2 o2 hB1
  go_wp2_with fail
  refine (hT _ v1 v2 H1.out H2.out).mono ?_
  rintro e w3 ⟨v3, rfl, hO3, hB3⟩
  have H3 : Aside (IsCos w3 v3 l3) := IsCos.own hO3
  have hB3 := hB2.trans (hB3.mono hB2.size)
  clear hO3 hT
  go_wp2_with fail
  refine (hX _ v3 H3.out).mono ?_
  rintro e w4 ⟨rfl, hB4⟩
  have hB4 := hB3.trans (hB4.mono hB3.size)
  go_wp2_with fail
  go_ret
  exact ⟨rfl, hB4⟩
end Go.Proofs.YtaaokecdmbmgbaaGreatDoor
