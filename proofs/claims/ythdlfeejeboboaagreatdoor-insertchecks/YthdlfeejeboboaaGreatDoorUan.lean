/- What the program's Kids and Deep answer. What the program's Deep and Equal answer. What the program's Equal answers. What strings.Split answers at one blank, and the program's binds. The finder of free names: its block, its two maps, and what meet does. What Match answers, the program's and the document's. The static guarantee, plain: with annotations that are less precise a tree that is taken is taken still, with types that are less precise. Parts of a tree that is taken, plain: each has its types by itself; a part in which no name is free has them in any environment. Lists of nodes that the call owns. What the finder's walk through a part finds. The rules of layer 10 (core terms) as plain functions. Nothing of the program is named here. -/
import Derived.Test.YthdlfeejeboboaaGreatDoorUak
import Derived.Lib.IndexBytes
import Derived.Lib.SplitLaws
import Derived.Maps.AppendAt
import Derived.Test.YthdlfeejeboboaaGreatDoorUal
import Derived.Test.YthdlfeejeboboaaGreatDoorUai
import Derived.Deep.Cut
import Derived.Deep.DeepCutAuto
namespace Go.Proofs.YthdlfeejeboboaaGreatDoor
open Go.RowKit
set_option maxRecDepth 100000
set_option linter.unusedSimpArgs false

theorem own_below {w w' : World} {base e size n : Nat} {v : Value} {xs : List Value} (h : w.ownsRow base e size v n xs) (hB : Below w.heap.size w w') : w'.ownsRow base e size v n xs :=
  h.kept (row := none) (grown_of_below (grownBy_refl _ _) hB) (by by_cases h : v.ownBlock = none; · exact .inl h
                                                                  exact .inr h)
def icells (ks : List Nat) : List Value := ks.map fun (k : Nat) => Value.int .i64 (k : Int)

end Go.Proofs.YthdlfeejeboboaaGreatDoor
namespace Go.Proofs.YthdlfeejeboboaaGreatDoor
open Go.RowKit
set_option maxRecDepth 100000
set_option linter.unusedSimpArgs false

end Go.Proofs.YthdlfeejeboboaaGreatDoor
namespace Go.Proofs.YthdlfeejeboboaaGreatDoor
open Go.RowKit
set_option maxRecDepth 100000
set_option linter.unusedSimpArgs false

end Go.Proofs.YthdlfeejeboboaaGreatDoor
namespace Go.Proofs.YthdlfeejeboboaaGreatDoor
open Go.RowKit
set_option maxRecDepth 100000
set_option linter.unusedSimpArgs false

def IsTexts (w : World) (v : Value) (ps : List (List UInt8)) : Prop :=
  (ps = [] ∧ ∃ a c, v = .slice a 0 c) ∨ ∃ b o c, v = .slice (some ⟨b, o, none⟩) ps.length c ∧ ps.length ≤ c ∧ b < w.heap.size ∧ ∀ j p, ps[j]? = some p → w.cell? ⟨b, o + j, none⟩ = some (.string (S p))
theorem IsTexts.form {w : World} {v : Value} {ps : List (List UInt8)} (h : IsTexts w v ps) : ∃ a c, v = .slice a ps.length c := by
  rcases h with ⟨rfl, a, c, rfl⟩ | ⟨b, o, c, rfl, _⟩
  · exact ⟨a, c, rfl⟩
  · exact ⟨_, c, rfl⟩
theorem IsTexts.at {w : World} {a : Option Addr} {n c : Nat} {ps : List (List UInt8)} (h : IsTexts w (.slice a n c) ps) {k : Nat} {p : List UInt8} (hp : ps[k]? = some p) : ∃ b o, a = some ⟨b, o, none⟩ ∧ n ≤ c ∧ b < w.heap.size ∧ w.cell? ⟨b, o + k, none⟩ = some (.string (S p)) := by
  rcases h with ⟨rfl, _⟩ | ⟨b, o, c', h0, h1, h2, h3⟩
  · simp at hp
  · obtain ⟨rfl, rfl, rfl⟩ : a = some ⟨b, o, none⟩ ∧ n = ps.length ∧ c = c' := by simpa using h0
    exact ⟨b, o, rfl, h1, h2, h3 k p hp⟩
theorem IsTexts.own {w : World} {base : Nat} {v : Value} {ps : List (List UInt8)} (h : w.ownsRow base 9 1 v ps.length (tcells ps)) : IsTexts w v ps := by
  by_cases h0 : ps = []
  · subst h0
    obtain ⟨a, c, rfl⟩ := own_len h
    exact .inl ⟨rfl, a, c, rfl⟩
  · obtain ⟨g, cap, rfl, hc, hg, hcell⟩ := own_cells h (List.length_pos_iff.2 h0)
    have key : ∀ j p, ps[j]? = some p → w.cell? ⟨g, 0 + j, none⟩ = some (.string (S p)) := by
      intro j p hp
      have hj : j < ps.length := (List.getElem?_eq_some_iff.1 hp).1
      rw [Nat.zero_add, hcell j (by omega)]
      unfold tcells
      rw [List.getElem?_map, hp]
      rfl
    refine .inr ⟨g, 0, cap, rfl, hc, ?_, key⟩
    obtain ⟨p, r, rfl⟩ := List.exists_cons_of_ne_nil h0
    exact World.block_lt_of_cell? w _ (key 0 p rfl)

namespace Tr
end Tr

namespace Tr
end Tr

end Go.Proofs.YthdlfeejeboboaaGreatDoor
namespace Go.Proofs.YthdlfeejeboboaaGreatDoor
open Go.RowKit Go.Maps
open Go.WideMaps Go.WideElems
set_option maxRecDepth 100000
set_option linter.unusedSimpArgs false

theorem ty3 : Tryz.prog.underlying 3 = some (.int .i64) := by kernel_rfl
theorem tyCnt : Tryz.prog.underlying 79 = some (.map 9 3) := by kernel_rfl
theorem kz3 (w : World) : (zeroValue 3).run Tryz.prog w = .ok (.int .i64 0) w := by kernel_rfl

def Cnt (w : World) (b n : Nat) (f : List UInt8 → Nat) : Prop :=
  ∃ D : DataW Unit, w.ownsMap Tryz.prog 9 (plainElem Tryz.prog 3) b n D ∧ ∀ l, D.atKey (.string l) (.lit (.int .i64 0)) = .lit (.int .i64 (f l : Int))
theorem Cnt.lt {w : World} {b n : Nat} {f : List UInt8 → Nat} (h : Cnt w b n f) : b < w.heap.size := by obtain ⟨D, h, _⟩ := h; exact h.lt
theorem Cnt.kept {w w' : World} {b n : Nat} {f : List UInt8 → Nat} {r : Option Nat} (h : Cnt w b n f) (hg : w.grownBy w' r) (hne : some b ≠ r) : Cnt w' b n f := by
  obtain ⟨D, h1, h2⟩ := h; exact ⟨D, h1.kept hg hne, h2⟩
theorem Cnt.look {w : World} {b n : Nat} {f : List UInt8 → Nat} (h : Cnt w b n f) (s : ByteArray) (hs : s.size ≤ maxLen) :
    (Instr.lookup 79 (.map (some b)) (.string s) false).run Tryz.prog w = .ok (.int .i64 (f s.data.toList : Int)) w := by
  obtain ⟨D, h1, h2⟩ := h
  obtain ⟨c, hrun, hat, _⟩ := h1.lookup_int keyed9 tyCnt ty3 (kz3 w) (key := .string s) (kl := .string s.data.toList) (keyOf_string_mk ty9 hs)
  rw [h2] at hat
  rw [hrun]
  cases hat
  rfl
theorem Cnt.same {w : World} {b n : Nat} {f g : List UInt8 → Nat} (h : Cnt w b n f) (e : ∀ l, f l = g l) : Cnt w b n g := by
  obtain ⟨D, h1, h2⟩ := h; exact ⟨D, h1, fun l => by rw [h2, e]⟩
theorem Cnt.more {w : World} {b n m : Nat} {f : List UInt8 → Nat} (h : Cnt w b n f) (e : n ≤ m) : Cnt w b m f := by
  obtain ⟨D, h1, h2⟩ := h; exact ⟨D, h1.mono e, h2⟩
theorem Cnt.made (w : World) : Cnt (w.alloc (.map #[] 0)) w.heap.size 0 (fun _ => 0) := ⟨.map [], World.ownsMap_made w _ _ _, fun _ => rfl⟩

structure KF (w w' : World) (fb bm tm : Nat) (fv fv' : Value) : Prop where
  os : w'.os = w.os
  tape : w'.tape = w.tape
  output : w'.output = w.output
  size : w.heap.size ≤ w'.heap.size
  block : ∀ k, k < w.heap.size → k ≠ fb → k ≠ bm → k ≠ tm → some k ≠ fv.ownBlock → w'.heap[k]? = w.heap[k]?
  row : fv'.ownBlock = fv.ownBlock ∨ ∀ k, fv'.ownBlock = some k → w.heap.size ≤ k
theorem KF.refl (w : World) (fb bm tm : Nat) (fv : Value) : KF w w fb bm tm fv fv := ⟨rfl, rfl, rfl, Nat.le_refl _, fun _ _ _ _ _ _ => rfl, .inl rfl⟩
theorem KF.trans {w w1 w2 : World} {fb bm tm : Nat} {fv fv1 fv2 : Value} (h : KF w w1 fb bm tm fv fv1) (k : KF w1 w2 fb bm tm fv1 fv2) : KF w w2 fb bm tm fv fv2 := by
  refine ⟨k.os.trans h.os, k.tape.trans h.tape, k.output.trans h.output, Nat.le_trans h.size k.size, fun i hi a1 a2 a3 a4 => ?_, ?_⟩
  · refine (k.block i (Nat.lt_of_lt_of_le hi h.size) a1 a2 a3 ?_).trans (h.block i hi a1 a2 a3 a4)
    rcases h.row with e | e
    · rw [e]; exact a4
    · intro e2; have := e i e2.symm; omega
  · rcases k.row with e | e
    · rcases h.row with e' | e'
      · exact .inl (e.trans e')
      · exact .inr (fun j hj => e' j (by rw [← e]; exact hj))
    · exact .inr (fun j hj => Nat.le_trans h.size (e j hj))
theorem KF.grown {w w' : World} {fb bm tm : Nat} {fv : Value} {r : Option Nat} (h : w.grownBy w' r) (hr : ∀ k, some k = r → k = fb ∨ k = bm ∨ k = tm) : KF w w' fb bm tm fv fv :=
  ⟨h.os, h.tape, h.output, h.size, fun k hk a1 a2 a3 _ => h.block k hk (fun e => (hr k e).elim a1 (fun e => e.elim a2 a3)), .inl rfl⟩
theorem KF.of {w w' : World} {fb bm tm : Nat} {fv : Value} (h : Below w.heap.size w w') : KF w w' fb bm tm fv fv := ⟨h.os, h.tape, h.output, h.size, fun k hk _ _ _ _ => h.block k hk, .inl rfl⟩
theorem KF.low {w w' : World} {fb bm tm R B0 : Nat} {fv fv' : Value} (h : KF w w' fb bm tm fv fv') (hB0 : B0 ≤ fb ∧ B0 ≤ bm ∧ B0 ≤ tm ∧ B0 ≤ R) (hw : B0 ≤ w.heap.size) (hr : ∀ k, fv.ownBlock = some k → R ≤ k) : Below B0 w w' :=
  ⟨h.os, h.tape, h.output, h.size, fun k hk => h.block k (by omega) (by omega) (by omega) (by omega) (fun e => by have := hr k e.symm; omega)⟩
def Tr.met (b acc : List (List UInt8)) (n : List UInt8) : List (List UInt8) := Tr.add1 acc (if n ∈ b then none else some n)

end Go.Proofs.YthdlfeejeboboaaGreatDoor
namespace Go.Proofs.YthdlfeejeboboaaGreatDoor.T3
open Go.RowKit
set_option maxRecDepth 100000
set_option linter.unusedSimpArgs false

def mtL (t : Tp.Ty) (h : Int) : List (List UInt8) := if ((Tp.hd t).toNat : Int) = h then (Tp.kids t).map Tp.enc else if t = .tq then List.replicate (Tp.ar h).toNat [63] else []
def mtB (t : Tp.Ty) (h : Int) : Bool := decide (((Tp.hd t).toNat : Int) = h) || (decide (t = .tq) && decide (1 ≤ Tp.ar h))
theorem mt_same {t : Tp.Ty} {h : Int} (e : ((Tp.hd t).toNat : Int) = h) : mtL t h = (Tp.kids t).map Tp.enc ∧ mtB t h = true := by simp [mtL, mtB, e]
theorem mt_else {t : Tp.Ty} {h : Int} (e : ((Tp.hd t).toNat : Int) ≠ h) (q : t ≠ .tq) : mtL t h = [] ∧ mtB t h = false := by simp [mtL, mtB, e, q]
theorem mt_q {h : Int} (e : (63 : Int) ≠ h) : mtL .tq h = List.replicate (Tp.ar h).toNat [63] ∧ mtB .tq h = decide (1 ≤ Tp.ar h) := by
  have : ((Tp.hd .tq).toNat : Int) ≠ h := e
  simp [mtL, mtB, this]
theorem mtL_len (t : Tp.Ty) (h : Int) : (mtL t h).length ≤ 2 := by
  unfold mtL
  split
  · cases t <;> simp [Tp.kids]
  · split
    · have := (Tp.ar_bd h).2
      simp; omega
    · simp

theorem rcheck1 (w : World) (l : List UInt8) (W : World) (hW : W = w.alloc (.cells #[.string (S l)] 9)) (n : Nat) (hn : n = w.heap.size) : Calls Tryz.prog 111 #[.slice (some ⟨n, 0, none⟩) 1 1] W fun e w' => e = .returned (.int .i64 (Tp.firstBad [l])) ∧ w' = W := by
  subst hW hn
  exact rcheck_any _ [l] _ (texts1 w l) (by simp)
theorem own_lower {w : World} {b b' e n : Nat} {v : Value} {xs : List Value} (h : w.ownsRow b e 1 v n xs) (hb : b' ≤ b) : w.ownsRow b' e 1 v n xs := by
  obtain ⟨h1, h2 | ⟨g, cap, cur, rfl, hg, hr⟩⟩ := h
  · exact ⟨h1, .inl h2⟩
  · exact ⟨h1, .inr ⟨g, cap, cur, rfl, Nat.le_trans hb hg, hr⟩⟩
theorem own_lit2 {w W : World} {n b : Nat} (hW : W = w.alloc (.cells #[.string ⟨#[63]⟩, .string ⟨#[63]⟩] 9)) (hn : n = w.heap.size) (hb : b ≤ n) : W.ownsRow b 9 1 (.slice (some ⟨n, 0, none⟩) 2 2) 2 (tcells [[63], [63]]) := by
  subst hW hn
  exact own_lower (own_lit w (tcells [[63], [63]]) 9 (by simp [tcells, maxLen])) hb
theorem own_lit1 {w W : World} {n b : Nat} (hW : W = w.alloc (.cells #[.string ⟨#[63]⟩] 9)) (hn : n = w.heap.size) (hb : b ≤ n) : W.ownsRow b 9 1 (.slice (some ⟨n, 0, none⟩) 1 1) 1 (tcells [[63]]) := by
  subst hW hn
  exact own_lower (own_lit w (tcells [[63]]) 9 (by simp [tcells, maxLen])) hb

set_option maxHeartbeats 4000000 in
theorem match_yes (t : Tp.Ty) (h : Int) (h64 : (Tp.enc t).length ≤ 64) (w : World) :
    Calls Tryz.prog 160 #[.string (S (Tp.enc t)), .int .u8 h] w fun e w' => ∃ v, e = .returned (.tuple #[v, .bool (mtB t h)]) ∧ w'.ownsRow w.heap.size 9 1 v (mtL t h).length (tcells (mtL t h)) ∧ Below w.heap.size w w' := by
  have hg : Tp.firstBad [Tp.enc t] = 0 := by simp [Tp.firstBad, Tp.chk_enc t h64]
  have hck := fun w => rcheck1 w (Tp.enc t)
  rw [hg] at hck
  have h1 := head_yes t h64
  have hp := parts_yes t h64
  have hq := Tp.isq_S t
  by_cases e : ((Tp.hd t).toNat : Int) = h
  · have HM : Aside (mtL t h = (Tp.kids t).map Tp.enc ∧ mtB t h = true) := mt_same e
    subst e
    generalize S (Tp.enc t) = s at *
    go_enter Tryz.func160, Tryz.ntmps160
    go_wp2_with (first | (go_at_call 111; refine (hck _ _ rfl _ (by simp)).mono ?_; rintro e w' ⟨rfl, hw'⟩; replace hw' := hw'.symm; subst hw') | (go_at_call 113; refine (h1 _).mono ?_; rintro e w' ⟨rfl, hw'⟩; replace hw' := hw'.symm; subst hw') | (go_at_call 114; refine (hp _).mono ?_; rintro e w1 ⟨v, rfl, hown, hB⟩))
    go_ret2
    rw [HM.out.1, HM.out.2]
    refine ⟨v, rfl, ?_, (below_alloc _ _).trans (hB.mono (by simp))⟩
    rw [List.length_map]
    exact own_lower hown (by simp)
  · have e' : (((Tp.hd t).toNat : Int) == h) = false := by simpa using e
    by_cases hqq : t = .tq
    · subst hqq
      have hqt : (S (Tp.enc .tq)).toList = [63] := toList_S _
      have hh1 : ∀ w : World, Calls Tryz.prog 113 #[.string (S (Tp.enc .tq))] w fun e w' => e = .returned (.int .u8 63) ∧ w' = w := h1
      replace h1 := hh1
      clear hh1 hp hq hg
      have e6 : (63 : Int) ≠ h := e
      have e6' : ((63 : Int) == h) = false := by simpa using e6
      obtain ⟨m1, m2⟩ := mt_q e6
      rw [m1, m2]
      clear m1 m2 e e'
      generalize S (Tp.enc .tq) = s at *
      by_cases hh62 : h = 62
      · subst hh62
        go_enter Tryz.func160, Tryz.ntmps160
        go_wp2_with (first | (go_at_call 111; refine (hck _ _ rfl _ (by simp)).mono ?_; rintro e w' ⟨rfl, hw'⟩; replace hw' := hw'.symm; subst hw') | (go_at_call 113; refine (h1 _).mono ?_; rintro e w' ⟨rfl, hw'⟩; replace hw' := hw'.symm; subst hw'))
        go_ret2
        refine ⟨_, rfl, ?_, ((Below.refl _ _).alloc (Nat.le_refl _) _).alloc (by simp) _⟩
        exact own_lit2 rfl (by simp) (by simp)
      have d62 : (h == 62) = false := by simpa using hh62
      by_cases hh44 : h = 44
      · subst hh44
        go_enter Tryz.func160, Tryz.ntmps160
        go_wp2_with (first | (go_at_call 111; refine (hck _ _ rfl _ (by simp)).mono ?_; rintro e w' ⟨rfl, hw'⟩; replace hw' := hw'.symm; subst hw') | (go_at_call 113; refine (h1 _).mono ?_; rintro e w' ⟨rfl, hw'⟩; replace hw' := hw'.symm; subst hw'))
        go_ret2
        refine ⟨_, rfl, ?_, ((Below.refl _ _).alloc (Nat.le_refl _) _).alloc (by simp) _⟩
        exact own_lit2 rfl (by simp) (by simp)
      have d44 : (h == 44) = false := by simpa using hh44
      by_cases hh108 : h = 108
      · subst hh108
        go_enter Tryz.func160, Tryz.ntmps160
        go_wp2_with (first | (go_at_call 111; refine (hck _ _ rfl _ (by simp)).mono ?_; rintro e w' ⟨rfl, hw'⟩; replace hw' := hw'.symm; subst hw') | (go_at_call 113; refine (h1 _).mono ?_; rintro e w' ⟨rfl, hw'⟩; replace hw' := hw'.symm; subst hw'))
        go_ret2
        refine ⟨_, rfl, ?_, ((Below.refl _ _).alloc (Nat.le_refl _) _).alloc (by simp) _⟩
        exact own_lit1 rfl (by simp) (by simp)
      have d108 : (h == 108) = false := by simpa using hh108
      by_cases hh120 : h = 120
      · subst hh120
        go_enter Tryz.func160, Tryz.ntmps160
        go_wp2_with (first | (go_at_call 111; refine (hck _ _ rfl _ (by simp)).mono ?_; rintro e w' ⟨rfl, hw'⟩; replace hw' := hw'.symm; subst hw') | (go_at_call 113; refine (h1 _).mono ?_; rintro e w' ⟨rfl, hw'⟩; replace hw' := hw'.symm; subst hw'))
        go_ret2
        refine ⟨_, rfl, ?_, ((Below.refl _ _).alloc (Nat.le_refl _) _).alloc (by simp) _⟩
        exact own_lit1 rfl (by simp) (by simp)
      have d120 : (h == 120) = false := by simpa using hh120
      have ha : (Tp.ar h).toNat = 0 ∧ decide (1 ≤ Tp.ar h) = false := by
        unfold Tp.ar
        simp only [hh62, hh44, hh108, hh120, beq_iff_eq, Bool.or_eq_true, or_false, if_false]
        split <;> simp
      rw [ha.1, ha.2]
      clear hh62 hh44 hh108 hh120 ha
      go_enter Tryz.func160, Tryz.ntmps160
      go_wp2_with (first | (go_at_call 111; refine (hck _ _ rfl _ (by simp)).mono ?_; rintro e w' ⟨rfl, hw'⟩; replace hw' := hw'.symm; subst hw') | (go_at_call 113; refine (h1 _).mono ?_; rintro e w' ⟨rfl, hw'⟩; replace hw' := hw'.symm; subst hw'))
      all_goals
        go_ret2
        exact ⟨_, rfl, own_nil _ _ _ _, below_alloc _ _⟩
    · have HM : Aside (mtL t h = [] ∧ mtB t h = false) := mt_else e hqq
      rw [show Tp.isq t = false by simpa [Tp.isq] using hqq] at hq
      generalize S (Tp.enc t) = s at *
      go_enter Tryz.func160, Tryz.ntmps160
      go_wp2_with (first | (go_at_call 111; refine (hck _ _ rfl _ (by simp)).mono ?_; rintro e w' ⟨rfl, hw'⟩; replace hw' := hw'.symm; subst hw') | (go_at_call 113; refine (h1 _).mono ?_; rintro e w' ⟨rfl, hw'⟩; replace hw' := hw'.symm; subst hw'))
      go_ret2
      rw [HM.out.1, HM.out.2]
      exact ⟨_, rfl, own_nil _ _ _ _, below_alloc _ _⟩

end Go.Proofs.YthdlfeejeboboaaGreatDoor.T3
namespace Go.Proofs.YthdlfeejeboboaaGreatDoor
set_option maxRecDepth 100000
namespace Ck
open T3.Tp (Ty enc cns prc met sta met_l met_r met_best prc_trans prc_refl prc_len prc_q)
open Tr (T Nd nm cut32 flat flats)

theorem cns_mono {s t s' t' : Ty} (h : cns s t = true) (hs : prc s s' = true) (ht : prc t t' = true) : cns s' t' = true ∧ prc (met s t) (met s' t') = true :=
  met_best (prc_trans (met_l h) hs) (prc_trans (met_r h) ht)
theorem mt_mono {t t' A B : Ty} {h : UInt8} (e : mt t h = some (A, B)) (p : prc t t' = true) : ∃ A' B', mt t' h = some (A', B') ∧ prc A A' = true ∧ prc B B' = true := by
  cases t' with
  | tq => exact ⟨_, _, rfl, prc_q _, prc_q _⟩
  | ti | tb | tt => cases t <;> simp [T3.Tp.prc] at p <;> simp [mt] at e
  | tl a' | tx a' =>
    cases t <;> simp [T3.Tp.prc] at p
    simp only [mt] at e ⊢
    split at e
    · cases e; rename_i hh; rw [if_pos hh]; exact ⟨_, _, rfl, p, p⟩
    · cases e
  | tf a' b' | tp a' b' =>
    cases t <;> simp [T3.Tp.prc] at p
    simp only [mt] at e ⊢
    split at e
    · cases e; rename_i hh; rw [if_pos hh]; exact ⟨_, _, rfl, p.1, p.2⟩
    · cases e

def LoK : List (Nat × Ty) → List (Nat × Ty) → Prop
  | [], [] => True
  | a :: r, b :: s => prc a.2 b.2 = true ∧ LoK r s
  | _, _ => False
theorem LoK.get : ∀ {ks ls : List (Nat × Ty)}, LoK ks ls → ∀ {j : Nat} {k : Nat × Ty}, ks[j]? = some k → ∃ l, ls[j]? = some l ∧ prc k.2 l.2 = true
  | [], [], _, j, k, e => by simp at e
  | a :: r, b :: s, h, 0, k, e => by simp at e; subst e; exact ⟨b, rfl, h.1⟩
  | a :: r, b :: s, h, j + 1, k, e => by simp at e; have := LoK.get h.2 e; simpa using this
theorem asks_mono {u u' : Ty} (hu : prc u u' = true) : ∀ {ks ls : List (Nat × Ty)}, LoK ks ls → asks u ks = .ok () → asks u' ls = .ok ()
  | [], [], _, _ => rfl
  | a :: r, b :: s, h, e => by
    obtain ⟨p, t⟩ := a; obtain ⟨q, t'⟩ := b
    simp only [asks] at e ⊢
    split at e
    · rename_i hc; rw [if_pos (cns_mono hc h.1 hu).1]; exact asks_mono hu h.2 e
    · cases e
theorem others_mono {A A' : Ty} (hA : prc A A' = true) (kid : Nat) : ∀ {ks ls : List (Nat × Ty)} (j : Nat), LoK ks ls → others A kid j ks = .ok () → others A' kid j ls = .ok ()
  | [], [], _, _, _ => rfl
  | a :: r, b :: s, j, h, e => by
    obtain ⟨p, t⟩ := a; obtain ⟨q, t'⟩ := b
    simp only [others] at e ⊢
    by_cases hj : j = kid
    · rw [if_pos hj] at e ⊢; exact others_mono hA kid _ h.2 e
    · rw [if_neg hj] at e ⊢
      split at e
      · rename_i hc; rw [if_pos (cns_mono hc h.1 hA).1]; exact others_mono hA kid _ h.2 e
      · cases e
theorem giv_mono (g : Nat) {a b a' b' : Ty} (ha : prc a a' = true) (hb : prc b b' = true) : prc (giv g a b) (giv g a' b') = true := by
  unfold giv
  split
  · exact ha
  · split
    · exact hb
    · split
      · simpa [T3.Tp.prc] using ha
      · rfl
theorem use_mono {u : Nat × UInt8 × Nat} {ks ls : List (Nat × Ty)} {t : Ty} (h : LoK ks ls) (e : use u ks = .ok t) : ∃ t', use u ls = .ok t' ∧ prc t t' = true := by
  unfold use at e ⊢
  cases hk : ks[u.1]? with
  | none => rw [hk] at e; cases e
  | some k =>
    obtain ⟨p, s⟩ := k
    obtain ⟨⟨q, s'⟩, hl, hp⟩ := h.get hk
    rw [hk] at e; rw [hl]
    simp only at e ⊢
    cases hm : mt s u.2.1 with
    | none => rw [hm] at e; cases e
    | some m =>
      obtain ⟨A, B⟩ := m
      obtain ⟨A', B', hm', hA, hB⟩ := mt_mono hm hp
      rw [hm] at e; rw [hm']
      simp only at e ⊢
      cases ho : others A u.1 0 ks with
      | error x => rw [ho] at e; cases e
      | ok v =>
        rw [ho] at e; rw [others_mono hA u.1 0 h ho]
        cases e
        exact ⟨_, rfl, giv_mono _ hA hB⟩
theorem opr_mono {o : Ty × Ty} {ks ls : List (Nat × Ty)} {t : Ty} (h : LoK ks ls) (e : opr o ks = .ok t) : opr o ls = .ok t := by
  unfold opr at e ⊢
  cases ha : asks o.1 ks with
  | error x => rw [ha] at e; cases e
  | ok v => rw [ha] at e; rw [asks_mono (prc_refl _) h ha]; exact e
theorem meetK_mono {i i' : Nat} {a a' t : Ty} {k l : Nat × Ty} (ha : prc a a' = true) (h : prc k.2 l.2 = true) (e : meetK i a k = .ok t) : ∃ t', meetK i' a' l = .ok t' ∧ prc t t' = true := by
  unfold meetK at e ⊢
  split at e
  · rename_i hc
    obtain ⟨h1, h2⟩ := cns_mono hc ha h
    rw [if_pos h1]
    split at e
    · rename_i hz
      rw [if_pos (Nat.le_trans (prc_len h2) hz)]
      cases e
      exact ⟨_, rfl, h2⟩
    · cases e
  · cases e
theorem meets_mono {i i' : Nat} : ∀ {ks ls : List (Nat × Ty)} {a a' t : Ty}, prc a a' = true → LoK ks ls → meets i a ks = .ok t → ∃ t', meets i' a' ls = .ok t' ∧ prc t t' = true
  | [], [], a, a', t, ha, _, e => by cases e; exact ⟨_, rfl, ha⟩
  | k :: r, l :: s, a, a', t, ha, h, e => by
    simp only [meets] at e ⊢
    cases hm : meetK i a k with
    | error x => rw [hm] at e; cases e
    | ok b =>
      obtain ⟨b', hb, hp⟩ := meetK_mono (i' := i') ha h.1 hm
      rw [hm] at e; rw [hb]
      exact meets_mono hp h.2 e
theorem made_mono {i i' : Nat} {t t' u : Ty} (h : prc t t' = true) (e : made i t = .ok u) : ∃ u', made i' t' = .ok u' ∧ prc u u' = true := by
  unfold made at e ⊢
  split at e
  · rename_i hz
    rw [if_pos (Nat.le_trans (prc_len h) hz)]
    cases e
    exact ⟨_, rfl, h⟩
  · cases e

structure LoN (x y : Nd) : Prop where
  kind : y.kind = x.kind
  kids : y.kids = x.kids
  s : y.s = x.s
  t : prc (wr x.t) (wr y.t) = true
  u : prc (wr x.u) (wr y.u) = true
def RelOn (P : List UInt8 → Prop) (e f : Env) : Prop := ∀ n, P n → ∀ t, look e n = some t → ∃ t', look f n = some t' ∧ prc t t' = true
theorem RelOn.cons {P Q : List UInt8 → Prop} {e f : Env} (h : RelOn P e f) {n : List UInt8} {t t' : Ty} (ht : prc t t' = true) (hQ : ∀ m, Q m → m = n ∨ P m) : RelOn Q ((n, t) :: e) ((n, t') :: f) := by
  intro m hm u hu
  simp only [Ck.look] at hu ⊢
  by_cases hn : m = n
  · rw [if_pos hn] at hu ⊢; cases hu; exact ⟨_, rfl, ht⟩
  · rw [if_neg hn] at hu ⊢; exact h m ((hQ m hm).resolve_left hn) u hu
theorem LoN.nm {x y : Nd} (h : LoN x y) : nm y = nm x := by unfold Tr.nm; rw [h.s]
theorem LoN.fn {x y : Nd} (h : LoN x y) : prc (.tf (wr x.t) (wr x.u)) (.tf (wr y.t) (wr y.u)) = true := by simp [T3.Tp.prc, h.t, h.u]
theorem inner_mono {x y : Nd} (h : LoN x y) (j : Nat) {P : List UInt8 → Prop} {e f : Env} (he : RelOn P e f) : RelOn (fun n => n ∈ Tr.binds x j ∨ P n) (inner x j e) (inner y j f) := by
  unfold inner Tr.binds
  rw [h.kind, h.nm]
  by_cases c5 : x.kind = 5
  · simp only [if_pos c5]
    exact he.cons h.t (fun m hm => by simpa using hm)
  · simp only [if_neg c5]
    by_cases c6 : x.kind = 6
    · simp only [if_pos c6]
      refine RelOn.cons (P := fun m => m = (cut32 (Tr.nm x)).1 ∨ P m) (he.cons h.fn (fun m hm => hm)) h.t (fun m hm => ?_)
      simp at hm
      rcases hm with (h1 | h1) | h1
      · exact .inr (.inl h1)
      · exact .inl h1
      · exact .inr (.inr h1)
    · simp only [if_neg c6]
      by_cases c8 : x.kind = 8 ∧ j = 1
      · simp only [if_pos c8]
        exact he.cons h.t (fun m hm => by simpa using hm)
      · simp only [if_neg c8]
        intro m hm
        exact he m (by simpa using hm)
theorem rule_mono {P : List UInt8 → Prop} {e f : Env} {x y : Nd} {i i' : Nat} {ks ls : List (Nat × Ty)} {t : Ty} (he : RelOn P e f) (hv : x.kind = 4 → P (Tr.nm x)) (h : LoN x y) (hk : LoK ks ls) (hr : rule e x i ks = .ok t) : ∃ t', rule f y i' ls = .ok t' ∧ prc t t' = true := by
  unfold rule at hr ⊢
  rw [h.kind, h.nm]
  by_cases c4 : x.kind = 4
  · rw [if_pos c4] at hr ⊢
    cases hl : look e (Tr.nm x) with
    | none => rw [hl] at hr; cases hr
    | some u =>
      obtain ⟨t', h1, h2⟩ := he _ (hv c4) _ hl
      rw [hl] at hr; rw [h1]; cases hr
      exact ⟨_, rfl, h2⟩
  rw [if_neg c4] at hr ⊢
  by_cases c5 : x.kind = 5 ∨ x.kind = 6
  · rw [if_pos c5] at hr ⊢
    match ks, ls, hk with
    | [], _, _ => cases hr
    | k :: r, l :: s, hk =>
      simp only at hr ⊢
      split at hr
      · rename_i hc; rw [if_pos (cns_mono hc hk.1 h.u).1]; cases hr; exact ⟨_, rfl, h.fn⟩
      · cases hr
  rw [if_neg c5] at hr ⊢
  by_cases c8 : x.kind = 8
  · rw [if_pos c8] at hr ⊢
    match ks, ls, hk with
    | [], _, _ => cases hr
    | [_], _, _ => cases hr
    | k :: b :: r, l :: b' :: s, hk =>
      simp only at hr ⊢
      split at hr
      · rename_i hc; rw [if_pos (cns_mono hc hk.1 h.t).1]; cases hr; exact ⟨_, rfl, hk.2.1⟩
      · cases hr
  rw [if_neg c8] at hr ⊢
  by_cases c29 : x.kind = 29
  · rw [if_pos c29] at hr ⊢
    match ks, ls, hk with
    | [], _, _ => cases hr
    | k :: r, l :: s, hk =>
      simp only at hr ⊢
      split at hr
      · rename_i hc; rw [if_pos (cns_mono hc hk.1 h.t).1]; cases hr; exact ⟨_, rfl, h.t⟩
      · cases hr
  rw [if_neg c29] at hr ⊢
  by_cases c9 : x.kind = 9
  · rw [if_pos c9] at hr ⊢
    match ks, ls, hk with
    | [], _, _ => cases hr
    | [_], _, _ => cases hr
    | [_, _], _, _ => cases hr
    | k :: a :: b :: r, l :: a' :: b' :: s, hk =>
      simp only at hr ⊢
      split at hr
      · rename_i hc; rw [if_pos (cns_mono hc hk.1 (prc_refl _)).1]; exact meetK_mono hk.2.1 hk.2.2.1 hr
      · cases hr
  rw [if_neg c9] at hr ⊢
  by_cases c18 : x.kind = 18
  · rw [if_pos c18] at hr ⊢
    match ks, ls, hk with
    | [], _, _ => cases hr
    | [_], _, _ => cases hr
    | a :: b :: r, a' :: b' :: s, hk => exact made_mono (by simp [T3.Tp.prc, hk.1, hk.2.1]) hr
  rw [if_neg c18] at hr ⊢
  by_cases c26 : x.kind = 26
  · rw [if_pos c26] at hr ⊢
    match ks, ls, hk with
    | [], _, _ => cases hr
    | a :: r, a' :: s, hk => exact made_mono (by simp [T3.Tp.prc, hk.1]) hr
  rw [if_neg c26] at hr ⊢
  by_cases c21 : x.kind = 21
  · rw [if_pos c21] at hr ⊢
    cases hm : meets i .tq ks with
    | error e => rw [hm] at hr; cases hr
    | ok u =>
      obtain ⟨u', h1, h2⟩ := meets_mono (i' := i') (prc_refl _) hk hm
      rw [hm] at hr; rw [h1]
      exact made_mono (by simpa [T3.Tp.prc] using h2) hr
  rw [if_neg c21] at hr ⊢
  cases hu : useT x.kind with
  | some u => rw [hu] at hr; exact use_mono hk hr
  | none => rw [hu] at hr; exact ⟨t, opr_mono hk hr, prc_refl _⟩

mutual
def LoT : T → T → Prop
  | .nd x ks, .nd y ls => LoN x y ∧ LoL ks ls
def LoL : List T → List T → Prop
  | [], [] => True
  | t :: r, u :: s => LoT t u ∧ LoL r s
  | _, _ => False
end
mutual
theorem LoT.len : ∀ {t u : T}, LoT t u → (flat u).length = (flat t).length
  | .nd x ks, .nd y ls, h => by simp only [flat, List.length_cons]; rw [LoL.len h.2]
theorem LoL.len : ∀ {t u : List T}, LoL t u → (flats u).length = (flats t).length
  | [], [], _ => rfl
  | a :: r, b :: s, h => by simp only [flats, List.length_append]; rw [LoT.len h.1, LoL.len h.2]
end
def LoY : List Ty → List Ty → Prop
  | [], [] => True
  | a :: r, b :: s => prc a b = true ∧ LoY r s
  | _, _ => False
theorem LoY.app : ∀ {a b c d : List Ty}, LoY a b → LoY c d → LoY (a ++ c) (b ++ d)
  | [], [], _, _, _, h => h
  | _ :: _, _ :: _, _, _, h, k => ⟨h.1, LoY.app h.2 k⟩
theorem LoY.hd {a b : List Ty} (h : LoY a b) : prc (a.headD .tq) (b.headD .tq) = true := by
  match a, b, h with
  | [], [], _ => rfl
  | x :: a, y :: b, h => exact h.1
def LoR : List (Nat × List Ty) → List (Nat × List Ty) → Prop
  | [], [] => True
  | a :: r, b :: s => LoY a.2 b.2 ∧ LoR r s
  | _, _ => False
theorem LoR.kids : ∀ {a b : List (Nat × List Ty)}, LoR a b → LoK (a.map fun r => (r.1, r.2.headD .tq)) (b.map fun r => (r.1, r.2.headD .tq))
  | [], [], _ => trivial
  | _ :: _, _ :: _, h => ⟨h.1.hd, LoR.kids h.2⟩
theorem LoR.flat : ∀ {a b : List (Nat × List Ty)}, LoR a b → LoY (a.map Prod.snd).flatten (b.map Prod.snd).flatten
  | [], [], _ => trivial
  | a :: r, b :: s, h => by simp only [List.map_cons, List.flatten_cons]; exact h.1.app (LoR.flat h.2)
theorem ahead_mono {x y : Nd} (h : LoN x y) (e : ahead x = false) : ahead y = false := by
  unfold ahead at e ⊢
  rw [h.kind]
  cases hk : (x.kind == 5 || x.kind == 6) with
  | false => rfl
  | true =>
    rw [hk] at e
    simp only [Bool.true_and, decide_eq_false_iff_not] at e ⊢
    exact fun h' => e (Nat.lt_of_lt_of_le h' (prc_len h.fn))
mutual
def NVT (P : List UInt8 → Prop) : T → Prop
  | .nd x ks => (x.kind = 4 → P (Tr.nm x)) ∧ NVL P x 0 ks
def NVL (P : List UInt8 → Prop) (x : Nd) (j : Nat) : List T → Prop
  | [] => True
  | t :: r => NVT (fun n => n ∈ Tr.binds x j ∨ P n) t ∧ NVL P x (j + 1) r
end
set_option maxHeartbeats 4000000
mutual
theorem mono_T : ∀ (t u : T) (P : List UInt8 → Prop) (e f : Env) (i i' : Nat) (a : List Ty), LoT t u → NVT P t → RelOn P e f → ckT e t i = .ok a → ∃ b, ckT f u i' = .ok b ∧ LoY a b
  | .nd x ks, .nd y ls, P, e, f, i, i', a, h, hv, he, hc => by
    simp only [ckT] at hc ⊢
    split at hc
    · cases hc
    rename_i ha
    rw [if_neg (by rw [ahead_mono h.1 (by simpa using ha)]; simp)]
    cases hl : ckL e x 0 ks (i + 1) with
    | error v => rw [hl] at hc; cases hc
    | ok rs =>
      obtain ⟨rs', h1, h2⟩ := mono_L ks ls x y 0 P e f (i + 1) (i' + 1) rs h.1 h.2 hv.2 he hl
      rw [hl] at hc; rw [h1]
      simp only at hc ⊢
      cases hr : rule e x i (rs.map fun r => (r.1, r.2.headD .tq)) with
      | error v => rw [hr] at hc; cases hc
      | ok t =>
        obtain ⟨t', h3, h4⟩ := rule_mono (i' := i') he hv.1 h.1 h2.kids hr
        rw [hr] at hc; rw [h3]
        cases hc
        exact ⟨_, rfl, h4, h2.flat⟩
theorem mono_L : ∀ (ts us : List T) (x y : Nd) (j : Nat) (P : List UInt8 → Prop) (e f : Env) (i i' : Nat) (a : List (Nat × List Ty)), LoN x y → LoL ts us → NVL P x j ts → RelOn P e f → ckL e x j ts i = .ok a → ∃ b, ckL f y j us i' = .ok b ∧ LoR a b
  | [], [], x, y, j, P, e, f, i, i', a, _, _, _, _, hc => by simp only [ckL] at hc ⊢; cases hc; exact ⟨_, rfl, trivial⟩
  | t :: r, u :: s, x, y, j, P, e, f, i, i', a, hx, h, hv, he, hc => by
    simp only [ckL] at hc ⊢
    cases h1 : ckT (inner x j e) t i with
    | error v => rw [h1] at hc; cases hc
    | ok p =>
      obtain ⟨p', e1, e2⟩ := mono_T t u _ _ _ i i' p h.1 hv.1 (inner_mono hx j he) h1
      rw [h1] at hc; rw [e1]
      simp only at hc ⊢
      cases h2 : ckL e x (j + 1) r (i + (flat t).length) with
      | error v => rw [h2] at hc; cases hc
      | ok q =>
        obtain ⟨q', e3, e4⟩ := mono_L r s x y (j + 1) P e f _ (i' + (flat u).length) q hx h.2 hv.2 he h2
        rw [h2] at hc
        rw [e3]
        cases hc
        exact ⟨_, rfl, e2, e4⟩
end

theorem LoY.anti : ∀ {a b : List Ty}, LoY a b → LoY b a → a = b
  | [], [], _, _ => rfl
  | x :: a, y :: b, h, k => by rw [T3.Tp.prc_anti h.1 k.1, LoY.anti h.2 k.2]
theorem LoN.rfl (x : Nd) : LoN x x := ⟨Eq.refl _, Eq.refl _, Eq.refl _, prc_refl _, prc_refl _⟩
mutual
theorem lot_refl : ∀ t : T, LoT t t
  | .nd x ks => ⟨.rfl x, lol_refl ks⟩
theorem lol_refl : ∀ ts : List T, LoL ts ts
  | [] => trivial
  | t :: r => ⟨lot_refl t, lol_refl r⟩
end
theorem closed {t : T} {e f : Env} {i j : Nat} {a : List Ty} (h : NVT (fun _ => False) t) (hc : ckT e t i = .ok a) : ckT f t j = .ok a := by
  obtain ⟨b, h1, h2⟩ := mono_T t t _ e f i j a (lot_refl t) h (fun _ hf => hf.elim) hc
  obtain ⟨a', h3, h4⟩ := mono_T t t _ f e j i b (lot_refl t) h (fun _ hf => hf.elim) h1
  rw [hc] at h3
  cases h3
  rw [h1, h2.anti h4]
end Ck
end Go.Proofs.YthdlfeejeboboaaGreatDoor
namespace Go.Proofs.YthdlfeejeboboaaGreatDoor
set_option maxRecDepth 100000
namespace Ck
open T3.Tp (Ty enc cns prc met sta)
open Tr (T Nd nm cut32 flat flats wf wfs)

set_option maxHeartbeats 1000000
mutual
theorem len_T : ∀ (t : T) (e : Env) (i : Nat) (a : List Ty), ckT e t i = .ok a → a.length = (flat t).length
  | .nd x ks, e, i, a, hc => by
    simp only [ckT] at hc
    split at hc
    · cases hc
    cases hl : ckL e x 0 ks (i + 1) with
    | error v => rw [hl] at hc; cases hc
    | ok rs =>
      rw [hl] at hc
      simp only at hc
      split at hc
      · cases hc
      · cases hc
        simp only [flat, List.length_cons]
        rw [len_L ks e x 0 (i + 1) rs hl]
theorem len_L : ∀ (ts : List T) (e : Env) (x : Nd) (j i : Nat) (a : List (Nat × List Ty)), ckL e x j ts i = .ok a → (a.map Prod.snd).flatten.length = (flats ts).length
  | [], e, x, j, i, a, hc => by simp only [ckL] at hc; cases hc; rfl
  | t :: r, e, x, j, i, a, hc => by
    simp only [ckL] at hc
    cases h1 : ckT (inner x j e) t i with
    | error v => rw [h1] at hc; cases hc
    | ok p =>
      rw [h1] at hc
      simp only at hc
      cases h2 : ckL e x (j + 1) r (i + (flat t).length) with
      | error v => rw [h2] at hc; cases hc
      | ok q =>
        rw [h2] at hc
        cases hc
        simp only [List.map_cons, List.flatten_cons, List.length_append, flats]
        rw [len_T t _ i p h1, len_L r e x (j + 1) _ q h2]
end
mutual
theorem NVT.mono : ∀ {t : T} {P Q : List UInt8 → Prop}, (∀ n, P n → Q n) → NVT P t → NVT Q t
  | .nd _ _, _, _, h, hv => ⟨fun k => h _ (hv.1 k), NVL.mono h hv.2⟩
theorem NVL.mono : ∀ {ts : List T} {x : Nd} {j : Nat} {P Q : List UInt8 → Prop}, (∀ n, P n → Q n) → NVL P x j ts → NVL Q x j ts
  | [], _, _, _, _, _, _ => trivial
  | _ :: _, _, _, _, _, h, hv => ⟨NVT.mono (fun n hn => hn.elim .inl (fun k => .inr (h n k))) hv.1, NVL.mono h hv.2⟩
end
end Ck
end Go.Proofs.YthdlfeejeboboaaGreatDoor
namespace Go.Proofs.YthdlfeejeboboaaGreatDoor
open Go.RowKit
set_option maxRecDepth 100000
set_option linter.unusedSimpArgs false

namespace Tr
mutual
theorem flat_inj : ∀ (t t' : T) (r r' : List Nd), wf t → wf t' → flat t ++ r = flat t' ++ r' → t = t' ∧ r = r'
  | .nd x ks, .nd y js, r, r', h, h', e => by
    rw [wf] at h h'
    simp only [flat, List.cons_append, List.cons.injEq] at e
    obtain ⟨rfl, e⟩ := e
    have hl : ks.length = js.length := by have := h.1.symm.trans h'.1; omega
    obtain ⟨rfl, rfl⟩ := flats_inj ks js r r' hl h.2 h'.2 e
    exact ⟨rfl, rfl⟩
theorem flats_inj : ∀ (ts ts' : List T) (r r' : List Nd), ts.length = ts'.length → wfs ts → wfs ts' → flats ts ++ r = flats ts' ++ r' → ts = ts' ∧ r = r'
  | [], [], r, r', _, _, _, e => ⟨rfl, by simpa [flats] using e⟩
  | [], _ :: _, _, _, h, _, _, _ => by simp at h
  | _ :: _, [], _, _, h, _, _, _ => by simp at h
  | t :: ts, t' :: ts', r, r', h, h1, h2, e => by
    rw [wfs] at h1 h2
    rw [flats, flats, List.append_assoc, List.append_assoc] at e
    obtain ⟨e1, e2⟩ := flat_inj t t' _ _ h1.1 h2.1 e
    subst e1
    obtain ⟨rfl, rfl⟩ := flats_inj ts ts' r r' (by simpa using h) h1.2 h2.2 e2
    exact ⟨rfl, rfl⟩
end
end Tr
def nrow (l : List Tr.Nd) : List Value := (l.map Tr.ncells).flatten
theorem nrow_cons (x : Tr.Nd) (l : List Tr.Nd) : nrow (x :: l) = Tr.ncells x ++ nrow l := rfl
theorem nrow_at : ∀ (l : List Tr.Nd) (j : Nat) (x : Tr.Nd), l[j]? = some x → ∀ i u, (Tr.ncells x)[i]? = some u → (nrow l)[j * 8 + i]? = some u
  | [], j, x, h, _, _, _ => by simp at h
  | y :: l, 0, x, h, i, u, hu => by
    simp at h; subst h
    have hi : i < (Tr.ncells y).length := (List.getElem?_eq_some_iff.1 hu).1
    rw [nrow_cons, Nat.zero_mul, Nat.zero_add, List.getElem?_append_left hi]; exact hu
  | y :: l, j + 1, x, h, i, u, hu => by
    rw [nrow_cons, List.getElem?_append_right (by simp [Tr.ncells]; omega)]
    have := nrow_at l j x (by simpa using h) i u hu
    rw [← this]
    congr 1
    simp [Tr.ncells]; omega
theorem IsNodes.lit (w : World) (l : List Tr.Nd) (t : TypeId) (fr : Nat × Nat) (cap : Nat) (hcap : l.length ≤ cap) : IsNodes (w.alloc (.cells (nrow l).toArray t fr)) (.slice (some ⟨w.heap.size, 0, none⟩) l.length cap) l := by
  refine .inr ⟨_, 0, cap, rfl, hcap, by simp, fun j x hx i u hu => ?_⟩
  rw [World.cell?_alloc_mark, List.getElem?_toArray, Nat.zero_add]
  exact nrow_at l j x hx i u hu

theorem tyNodes : Tryz.prog.underlying 22 = some (.slice 72) := by kernel_rfl
theorem infoN : (Tryz.prog.info? 72).map (fun i => (i.zero, i.size, i.bytes)) = some (some (.agg #[.int .i8 0, .int .i64 0, .int .i64 0, .string ⟨#[]⟩, .string ⟨#[]⟩, .string ⟨#[]⟩, .int .i64 0, .int .i64 0]), 8, 88) := by kernel_rfl
theorem nrow_append (a b : List Tr.Nd) : nrow (a ++ b) = nrow a ++ nrow b := by simp [nrow]
theorem nrow_one (l : List Tr.Nd) : ∀ u ∈ nrow l, u.oneCell' = true := by
  intro u hu
  unfold nrow at hu
  obtain ⟨c, hc, hu⟩ := List.mem_flatten.1 hu
  obtain ⟨x, _, rfl⟩ := List.mem_map.1 hc
  simp [Tr.ncells] at hu
  rcases hu with rfl | rfl | rfl | rfl | rfl | rfl | rfl | rfl <;> rfl
theorem IsNodes.own {w : World} {base : Nat} {v : Value} {l : List Tr.Nd} (h : w.ownsRow base 72 8 v l.length (nrow l)) : IsNodes w v l := by
  by_cases h0 : l = []
  · subst h0
    obtain ⟨a, c, rfl⟩ := own_len h
    exact .inl ⟨rfl, a, c, rfl⟩
  · obtain ⟨g, cap, rfl, hc, hg, hcell⟩ := own_cells h (List.length_pos_iff.2 h0)
    have key : ∀ j x, l[j]? = some x → ∀ i u, (Tr.ncells x)[i]? = some u → w.cell? ⟨g, 0 + j * 8 + i, none⟩ = some u := by
      intro j x hx i u hu
      have hj : j < l.length := (List.getElem?_eq_some_iff.1 hx).1
      have hi : i < 8 := by have := (List.getElem?_eq_some_iff.1 hu).1; simpa [Tr.ncells] using this
      rw [Nat.zero_add, hcell (j * 8 + i) (by omega)]
      exact nrow_at l j x hx i u hu
    refine .inr ⟨g, 0, cap, rfl, hc, ?_, key⟩
    obtain ⟨x, r, rfl⟩ := List.exists_cons_of_ne_nil h0
    exact World.block_lt_of_cell? w _ (key 0 x rfl 0 _ rfl)

end Go.Proofs.YthdlfeejeboboaaGreatDoor
namespace Go.Proofs.YthdlfeejeboboaaGreatDoor
open Go.RowKit Go.Maps
open Go.WideMaps Go.WideElems
set_option maxRecDepth 100000
set_option linter.unusedSimpArgs false

def Low (v : Value) (B0 : Nat) : Prop := ∀ b o n c, v = .slice (some ⟨b, o, none⟩) n c → b < B0
theorem IsNodes.low {w w' : World} {v : Value} {l : List Tr.Nd} {B0 : Nat} (h : IsNodes w v l) (hv : Low v B0) (hB : Below B0 w w') : IsNodes w' v l := by
  rcases h with h | ⟨b, o, c, rfl, h1, h2, h3⟩
  · exact .inl h
  · exact .inr ⟨b, o, c, rfl, h1, Nat.lt_of_lt_of_le h2 hB.size, fun j x hx i u hu => (hB.cell (p := ⟨b, o + j * 8 + i, none⟩) (hv b o _ _ rfl)).trans (h3 j x hx i u hu)⟩
namespace Tr
end Tr

def Bx (w : World) (q : Nat) (x : Tr.Nd) : Prop := w.heap[q]? = some (.cells (Tr.ncells x).toArray 72 (0, 0))
theorem Bx.c {w : World} {q : Nat} {x : Tr.Nd} (h : Bx w q x) :
    w.cell? ⟨q, 0, none⟩ = some (.int .i8 x.kind) ∧ w.cell? ⟨q, 1, none⟩ = some (.int .i64 x.kids) ∧ w.cell? ⟨q, 2, none⟩ = some (.int .i64 x.n) ∧ w.cell? ⟨q, 3, none⟩ = some (.string x.s) ∧
    w.cell? ⟨q, 4, none⟩ = some (.string x.t) ∧ w.cell? ⟨q, 5, none⟩ = some (.string x.u) ∧ w.cell? ⟨q, 6, none⟩ = some (.int .i64 x.ln) ∧ w.cell? ⟨q, 7, none⟩ = some (.int .i64 x.co) := by
  unfold Bx at h; simp [World.cell?, h, Tr.ncells]
end Go.Proofs.YthdlfeejeboboaaGreatDoor
namespace Go.Proofs.YthdlfeejeboboaaGreatDoor
set_option maxRecDepth 100000
namespace Co
open T3.Tp (Ty enc cns)
open Tr (T Nd flat flats high highs)

abbrev Rs := Except (Int × Nat)
abbrev sz (t : Ty) : Nat := (enc t).length
def tyS (s : ByteArray) : Ty := Ck.tyOf s.data.toList
def goodB (s : ByteArray) : Bool := (T3.Tp.chk s.data.toList).1 == 0
theorem good_enc {s : ByteArray} (h : goodB s = true) : s.data.toList = enc (tyS s) ∧ sz (tyS s) ≤ 64 := by
  unfold goodB at h
  obtain ⟨t, h1, h2⟩ := T3.Tp.chk_dec (by simpa using h)
  unfold tyS
  rw [h1, Ck.tyOf_enc]
  exact ⟨rfl, h2⟩
def ary (k : Int) : Int :=
  if k = 1 ∨ k = 2 ∨ k = 3 ∨ k = 4 then 0
  else if k = 5 ∨ k = 6 ∨ k = 16 ∨ k = 17 ∨ k = 19 ∨ k = 20 ∨ k = 22 ∨ k = 23 ∨ k = 24 ∨ k = 26 ∨ k = 27 ∨ k = 30 then 1
  else if k = 7 ∨ k = 8 ∨ k = 10 ∨ k = 11 ∨ k = 12 ∨ k = 13 ∨ k = 14 ∨ k = 15 ∨ k = 18 ∨ k = 25 ∨ k = 28 then 2
  else if k = 9 then 3 else if k = 21 then -1 else -2
def takes (x : Nd) : Bool := if ary x.kind = -2 then false else if ary x.kind = -1 then decide (0 ≤ x.kids) else decide (x.kids = ary x.kind)
theorem ary_pos {k : Int} (h : ary k ≠ -2) (h2 : ary k ≠ -1) : 0 ≤ ary k := by
  unfold ary at h h2 ⊢
  repeat' split
  all_goals first | omega | (split at h <;> omega)
theorem takes_kids {x : Nd} (h : takes x = true) : 0 ≤ x.kids := by
  unfold takes at h
  split at h
  · simp at h
  · split at h
    · simpa using h
    · rename_i h1 h2
      have := ary_pos h1 h2
      simp at h
      omega

def shK (f : Nat → Rs (T × Nat)) : Nat → Nat → Rs (List T × Nat)
  | 0, i => .ok ([], i)
  | k + 1, i => match f i with
    | .error e => .error e
    | .ok q => match shK f k q.2 with
      | .error e => .error e
      | .ok r => .ok (q.1 :: r.1, r.2)
def shT (l : List Nd) : Nat → Nat → Rs (T × Nat)
  | 0, i => match l[i]? with
    | none => .error (18, i)
    | some x => if takes x then .error (16, i) else .error (18, i)
  | d + 1, i => match l[i]? with
    | none => .error (18, i)
    | some x => if takes x then (match shK (shT l d) x.kids.toNat (i + 1) with
        | .error e => .error e
        | .ok r => .ok (.nd x r.1, r.2)) else .error (18, i)
def shape (l : List Nd) : Rs T := match shT l 1024 0 with
  | .error e => .error e
  | .ok q => if q.2 = l.length then .ok q.1 else .error (18, q.2)

mutual
def wfC : T → Prop
  | .nd x ks => takes x = true ∧ x.kids = ks.length ∧ wfsC ks
def wfsC : List T → Prop
  | [] => True
  | t :: r => wfC t ∧ wfsC r
end
theorem wfsC_append : ∀ (a b : List T), wfsC (a ++ b) ↔ wfsC a ∧ wfsC b
  | [], b => by simp [wfsC]
  | t :: a, b => by simp [wfsC, wfsC_append a b, and_assoc]

theorem shK_ok {l : List Nd} {d : Nat} {f : Nat → Rs (T × Nat)} (hf : ∀ i t j, f i = .ok (t, j) → l.drop i = flat t ++ l.drop j ∧ wfC t ∧ j = i + (flat t).length ∧ high t ≤ d) :
    ∀ (k i : Nat) (ts : List T) (j : Nat), shK f k i = .ok (ts, j) → l.drop i = flats ts ++ l.drop j ∧ wfsC ts ∧ j = i + (flats ts).length ∧ ts.length = k ∧ highs ts ≤ d
  | 0, i, ts, j, h => by
    simp only [shK] at h
    cases h
    simp [flats, wfsC, highs]
  | k + 1, i, ts, j, h => by
    rw [shK] at h
    cases hq : f i with
    | error e => rw [hq] at h; cases h
    | ok q =>
      rw [hq] at h
      cases hr : shK f k q.2 with
      | error e => simp only [hr] at h; cases h
      | ok r =>
        simp only [hr] at h
        cases h
        obtain ⟨a1, a2, a3, a4⟩ := hf i q.1 q.2 hq
        obtain ⟨b1, b2, b3, b4, b5⟩ := shK_ok hf k q.2 r.1 r.2 hr
        refine ⟨?_, ⟨a2, b2⟩, ?_, by simp [b4], ?_⟩
        · rw [a1, flats, List.append_assoc, ← b1]
        · rw [b3, a3, flats, List.length_append]; omega
        · rw [highs]; omega
theorem shT_ok {l : List Nd} : ∀ (d i : Nat) (t : T) (j : Nat), shT l d i = .ok (t, j) → l.drop i = flat t ++ l.drop j ∧ wfC t ∧ j = i + (flat t).length ∧ high t ≤ d
  | 0, i, t, j, h => by
    rw [shT] at h
    split at h
    · cases h
    · split at h <;> cases h
  | d + 1, i, t, j, h => by
    rw [shT] at h
    split at h
    · cases h
    · rename_i x hx
      split at h
      · rename_i htk
        cases hr : shK (shT l d) x.kids.toNat (i + 1) with
        | error e => simp only [hr] at h; cases h
        | ok r =>
          simp only [hr] at h
          cases h
          obtain ⟨b1, b2, b3, b4, b5⟩ := shK_ok (l := l) (d := d) (fun i t j => shT_ok d i t j) _ _ _ _ hr
          have hi : i < l.length := (List.getElem?_eq_some_iff.1 hx).1
          have hd : l.drop i = x :: l.drop (i + 1) := by rw [List.drop_eq_getElem_cons hi, (List.getElem?_eq_some_iff.1 hx).2]
          have := takes_kids htk
          refine ⟨?_, ⟨htk, by omega, b2⟩, ?_, by rw [high]; omega⟩
          · rw [hd, b1, flat]; rfl
          · rw [b3, flat, List.length_cons]; omega
      · cases h
mutual
theorem shT_flat {l : List Nd} : ∀ (t : T) (d i : Nat) (rest : List Nd), wfC t → high t ≤ d → l.drop i = flat t ++ rest → shT l d i = .ok (t, i + (flat t).length)
  | .nd x ks, 0, i, rest, hw, hh, hd => by simp [high] at hh
  | .nd x ks, d + 1, i, rest, hw, hh, hd => by
    rw [wfC] at hw
    rw [high] at hh
    have hx : l[i]? = some x := by
      have h := congrArg (fun m => m[0]?) hd
      simp only [List.getElem?_drop, flat, List.cons_append, Nat.add_zero, List.getElem?_cons_zero] at h
      exact h
    have hd1 : l.drop (i + 1) = flats ks ++ rest := by
      have h := congrArg (List.drop 1) hd
      rw [List.drop_drop] at h
      simpa [flat] using h
    rw [shT, hx]
    simp only [hw.1, if_true]
    have := shK_flat ks d (i + 1) rest hw.2.2 (by omega) hd1
    rw [hw.2.1, Int.toNat_natCast, this]
    simp only [flat, List.length_cons]
    rw [show i + 1 + (flats ks).length = i + ((flats ks).length + 1) by omega]
theorem shK_flat {l : List Nd} : ∀ (ts : List T) (d i : Nat) (rest : List Nd), wfsC ts → highs ts ≤ d → l.drop i = flats ts ++ rest → shK (shT l d) ts.length i = .ok (ts, i + (flats ts).length)
  | [], d, i, rest, hw, hh, hd => by simp [shK, flats]
  | t :: r, d, i, rest, hw, hh, hd => by
    rw [wfsC] at hw
    rw [highs] at hh
    rw [flats, List.append_assoc] at hd
    have h1 := shT_flat t d i _ hw.1 (by omega) hd
    have hd2 : l.drop (i + (flat t).length) = flats r ++ rest := by rw [← List.drop_drop, hd, List.drop_left]
    have h2 := shK_flat r d (i + (flat t).length) rest hw.2 (by omega) hd2
    rw [List.length_cons, shK, h1]
    simp only [h2]
    rw [flats, List.length_append]
    simp only [Nat.add_assoc]
end
theorem shape_flat {t : T} (hw : wfC t) (hh : high t ≤ 1024) : shape (flat t) = .ok t := by
  have := shT_flat (l := flat t) t 1024 0 [] hw hh (by simp)
  unfold shape
  rw [this]
  simp
theorem shape_ok {l : List Nd} {t : T} (h : shape l = .ok t) : l = flat t ∧ wfC t ∧ high t ≤ 1024 := by
  unfold shape at h
  cases hr : shT l 1024 0 with
  | error e => rw [hr] at h; cases h
  | ok q =>
    rw [hr] at h
    simp only at h
    split at h
    · rename_i he
      cases h
      obtain ⟨h1, h2, h3, h4⟩ := shT_ok 1024 0 q.1 q.2 hr
      refine ⟨?_, h2, h4⟩
      rw [he, List.drop_length, List.append_nil] at h1
      simpa using h1
    · cases h

def ahd (nb : Nat) (x : Nd) (i : Nat) : Option (Int × Nat) :=
  if x.kind = 2 then (if 64 < x.s.size then some (10, i) else none)
  else if x.kind = 3 then (if x.n = 0 ∨ x.n = 1 then none else some (13, i))
  else if x.kind = 4 then (if 0 ≤ x.n ∧ x.n < nb then none else some (22, i))
  else if x.kind = 5 ∨ x.kind = 6 then (if goodB x.t && goodB x.u then (if sz (.tf (tyS x.t) (tyS x.u)) ≤ 64 then none else some (21, i)) else some (20, i))
  else if x.kind = 21 then (if goodB x.t then none else some (20, i))
  else if x.kind = 30 then (if goodB x.t && goodB x.u then (if cns (tyS x.t) (tyS x.u) then (if 1 ≤ x.n ∧ x.n ≤ 2147483647 then none else some (13, i)) else some (23, i)) else some (20, i))
  else none
def inn (x : Nd) (env : List Ty) : List Ty :=
  if x.kind = 5 then tyS x.t :: env else if x.kind = 6 then tyS x.t :: .tf (tyS x.t) (tyS x.u) :: env else env
def allT (t : Ty) (ts : List Ty) : Bool := ts.all fun a => decide (a = t)
def made (i : Nat) (t : Ty) : Rs Ty := if sz t ≤ 64 then .ok t else .error (21, i)
def opT (k : Int) : Ty × Ty := if k = 13 then (.tt, .tt) else if k = 14 ∨ k = 15 then (.ti, .tb) else if k = 17 then (.tt, .ti) else (.ti, .ti)
def rul (env : List Ty) (x : Nd) (i : Nat) (ts : List Ty) : Rs Ty :=
  if x.kind = 1 then .ok .ti else if x.kind = 2 then .ok .tt else if x.kind = 3 then .ok .tb
  else if x.kind = 4 then .ok (env[x.n.toNat]?.getD .tq)
  else if x.kind = 5 ∨ x.kind = 6 then (match ts with | [a] => if a = tyS x.u then .ok (.tf (tyS x.t) (tyS x.u)) else .error (23, i) | _ => .error (0, 0))
  else if x.kind = 7 then (match ts with | [.tf A B, a] => if a = A then .ok B else .error (23, i) | _ => .error (23, i))
  else if x.kind = 9 then (match ts with | [c, a, b] => if c = .tb then (if a = b then .ok a else .error (23, i)) else .error (23, i) | _ => .error (0, 0))
  else if x.kind = 18 then (match ts with | [a, b] => made i (.tp a b) | _ => .error (0, 0))
  else if x.kind = 19 then (match ts with | [.tp A _] => .ok A | _ => .error (23, i))
  else if x.kind = 20 then (match ts with | [.tp _ B] => .ok B | _ => .error (23, i))
  else if x.kind = 21 then (if allT (tyS x.t) ts then made i (.tl (tyS x.t)) else .error (23, i))
  else if x.kind = 22 then (match ts with | [.tl A] => .ok A | _ => .error (23, i))
  else if x.kind = 23 then (match ts with | [.tl A] => .ok (.tl A) | _ => .error (23, i))
  else if x.kind = 24 then (match ts with | [.tl _] => .ok .tb | _ => .error (23, i))
  else if x.kind = 25 then (match ts with | [a, .tl A] => if a = A then .ok (.tl A) else .error (23, i) | _ => .error (23, i))
  else if x.kind = 26 then (match ts with | [a] => made i (.tx a) | _ => .error (0, 0))
  else if x.kind = 27 then (match ts with | [.tx A] => .ok A | _ => .error (23, i))
  else if x.kind = 28 then (match ts with | [.tx A, a] => if a = A then .ok a else .error (23, i) | _ => .error (23, i))
  else if x.kind = 30 then (match ts with | [a] => if a = tyS x.t then .ok (tyS x.u) else .error (23, i) | _ => .error (0, 0))
  else (if allT (opT x.kind).1 ts then .ok (opT x.kind).2 else .error (23, i))
mutual
def tyT (env : List Ty) : T → Nat → Rs Ty
  | .nd x ks, i => match ahd env.length x i with
    | some e => .error e
    | none => if x.kind = 8 then tyB env ks (i + 1)
      else match tyL (inn x env) ks (i + 1) with
        | .error e => .error e
        | .ok ts => rul env x i ts
def tyB (env : List Ty) : List T → Nat → Rs Ty
  | [], _ => .error (0, 0)
  | a :: r, i => match tyT env a i with
    | .error e => .error e
    | .ok s => tyC (s :: env) r (i + (flat a).length)
def tyC (env : List Ty) : List T → Nat → Rs Ty
  | [], _ => .error (0, 0)
  | b :: _, i => tyT env b i
def tyL (env : List Ty) : List T → Nat → Rs (List Ty)
  | [], _ => .ok []
  | t :: r, i => match tyT env t i with
    | .error e => .error e
    | .ok a => match tyL env r (i + (flat t).length) with
      | .error e => .error e
      | .ok b => .ok (a :: b)
end
def check (l : List Nd) : Rs Ty := if 16384 < l.length then .error (17, 0) else match shape l with
  | .error e => .error e
  | .ok t => tyT [] t 0

def EnvOk (env : List Ty) : Prop := ∀ t ∈ env, sz t ≤ 64
theorem made_len {i : Nat} {t u : Ty} (h : made i t = .ok u) : sz u ≤ 64 := by
  unfold made at h
  split at h
  · rename_i hz; cases h; exact hz
  · cases h
theorem inn_ok {env : List Ty} {x : Nd} {i nb : Nat} (h : EnvOk env) (ha : ahd nb x i = none) : EnvOk (inn x env) := by
  unfold inn
  have key : x.kind = 5 ∨ x.kind = 6 → sz (tyS x.t) ≤ 64 ∧ sz (.tf (tyS x.t) (tyS x.u)) ≤ 64 := by
    intro hk
    unfold ahd at ha
    rw [if_neg (by omega), if_neg (by omega), if_neg (by omega), if_pos hk] at ha
    split at ha
    · split at ha
      · rename_i h1 h2; simp [sz, enc] at h2 ⊢; omega
      · cases ha
    · cases ha
  split
  · rename_i h5
    intro t ht
    rcases List.mem_cons.1 ht with rfl | ht
    · exact (key (.inl h5)).1
    · exact h t ht
  · split
    · rename_i h6
      intro t ht
      rcases List.mem_cons.1 ht with rfl | ht
      · exact (key (.inr h6)).1
      · rcases List.mem_cons.1 ht with rfl | ht
        · exact (key (.inr h6)).2
        · exact h t ht
    · exact h
theorem ahd_good {nb : Nat} {x : Nd} {i : Nat} (h : ahd nb x i = none) : (x.kind = 5 ∨ x.kind = 6 → goodB x.t = true ∧ goodB x.u = true ∧ sz (.tf (tyS x.t) (tyS x.u)) ≤ 64) ∧ (x.kind = 21 → goodB x.t = true) ∧ (x.kind = 30 → goodB x.t = true ∧ goodB x.u = true) ∧ (x.kind = 4 → 0 ≤ x.n ∧ x.n < nb) := by
  unfold ahd at h
  refine ⟨fun hk => ?_, fun hk => ?_, fun hk => ?_, fun hk => ?_⟩
  · rw [if_neg (by omega), if_neg (by omega), if_neg (by omega), if_pos hk] at h
    split at h
    · rename_i hg
      simp at hg
      split at h
      · exact ⟨hg.1, hg.2, by assumption⟩
      · cases h
    · cases h
  · rw [if_neg (by omega), if_neg (by omega), if_neg (by omega), if_neg (by omega), if_pos hk] at h
    split at h
    · assumption
    · cases h
  · rw [if_neg (by omega), if_neg (by omega), if_neg (by omega), if_neg (by omega), if_neg (by omega), if_pos hk] at h
    split at h
    · rename_i hg; simpa using hg
    · cases h
  · rw [if_neg (by omega), if_neg (by omega), if_pos hk] at h
    split at h
    · assumption
    · cases h
theorem rul_len {env : List Ty} {x : Nd} {i : Nat} {ts : List Ty} {t : Ty} (hE : EnvOk env) (ha : ahd env.length x i = none) (hs : ∀ a ∈ ts, sz a ≤ 64) (h : rul env x i ts = .ok t) : sz t ≤ 64 := by
  obtain ⟨a1, a2, a3, a4⟩ := ahd_good ha
  unfold rul at h
  by_cases hk1 : x.kind = 1
  · rw [if_pos hk1] at h
    cases h; decide
  rw [if_neg hk1] at h
  by_cases hk2 : x.kind = 2
  · rw [if_pos hk2] at h
    cases h; decide
  rw [if_neg hk2] at h
  by_cases hk3 : x.kind = 3
  · rw [if_pos hk3] at h
    cases h; decide
  rw [if_neg hk3] at h
  by_cases hk4 : x.kind = 4
  · rw [if_pos hk4] at h
    cases h
    obtain ⟨h0, h1⟩ := a4 hk4
    have : x.n.toNat < env.length := by omega
    rw [List.getElem?_eq_getElem this]
    exact hE _ (List.getElem_mem _)
  rw [if_neg hk4] at h
  by_cases hk5 : x.kind = 5 ∨ x.kind = 6
  · rw [if_pos hk5] at h
    have h5 := hk5
    split at h
    · split at h
      · cases h; exact (a1 h5).2.2
      · cases h
    · cases h
  rw [if_neg hk5] at h
  by_cases hk6 : x.kind = 7
  · rw [if_pos hk6] at h
    split at h
    · rename_i A B a
      split at h
      · cases h
        have := hs _ (List.mem_cons_self)
        simp [sz, enc] at this ⊢; omega
      · cases h
    · cases h
  rw [if_neg hk6] at h
  by_cases hk7 : x.kind = 9
  · rw [if_pos hk7] at h
    split at h
    · split at h
      · split at h
        · cases h; exact hs _ (by simp)
        · cases h
      · cases h
    · cases h
  rw [if_neg hk7] at h
  by_cases hk8 : x.kind = 18
  · rw [if_pos hk8] at h
    split at h
    · exact made_len h
    · cases h
  rw [if_neg hk8] at h
  by_cases hk9 : x.kind = 19
  · rw [if_pos hk9] at h
    split at h
    · cases h
      have := hs _ (List.mem_cons_self)
      simp [sz, enc] at this ⊢; omega
    · cases h
  rw [if_neg hk9] at h
  by_cases hk10 : x.kind = 20
  · rw [if_pos hk10] at h
    split at h
    · cases h
      have := hs _ (List.mem_cons_self)
      simp [sz, enc] at this ⊢; omega
    · cases h
  rw [if_neg hk10] at h
  by_cases hk11 : x.kind = 21
  · rw [if_pos hk11] at h
    split at h
    · exact made_len h
    · cases h
  rw [if_neg hk11] at h
  by_cases hk12 : x.kind = 22
  · rw [if_pos hk12] at h
    split at h
    · cases h
      have := hs _ (List.mem_cons_self)
      simp [sz, enc] at this ⊢; omega
    · cases h
  rw [if_neg hk12] at h
  by_cases hk13 : x.kind = 23
  · rw [if_pos hk13] at h
    split at h
    · cases h; exact hs _ (List.mem_cons_self)
    · cases h
  rw [if_neg hk13] at h
  by_cases hk14 : x.kind = 24
  · rw [if_pos hk14] at h
    split at h
    · cases h; decide
    · cases h
  rw [if_neg hk14] at h
  by_cases hk15 : x.kind = 25
  · rw [if_pos hk15] at h
    split at h
    · split at h
      · cases h; exact hs _ (by simp)
      · cases h
    · cases h
  rw [if_neg hk15] at h
  by_cases hk16 : x.kind = 26
  · rw [if_pos hk16] at h
    split at h
    · exact made_len h
    · cases h
  rw [if_neg hk16] at h
  by_cases hk17 : x.kind = 27
  · rw [if_pos hk17] at h
    split at h
    · cases h
      have := hs _ (List.mem_cons_self)
      simp [sz, enc] at this ⊢; omega
    · cases h
  rw [if_neg hk17] at h
  by_cases hk18 : x.kind = 28
  · rw [if_pos hk18] at h
    split at h
    · split at h
      · cases h; exact hs _ (by simp)
      · cases h
    · cases h
  rw [if_neg hk18] at h
  by_cases hk19 : x.kind = 30
  · rw [if_pos hk19] at h
    have h30 := hk19
    split at h
    · split at h
      · cases h; exact (good_enc (a3 h30).2).2
      · cases h
    · cases h
  · rw [if_neg hk19] at h
    split at h
    · cases h
      unfold opT
      repeat' split
      all_goals decide
    · cases h
mutual
theorem tyT_len : ∀ (t : T) (env : List Ty) (i : Nat) (τ : Ty), EnvOk env → tyT env t i = .ok τ → sz τ ≤ 64
  | .nd x ks, env, i, τ, hE, h => by
    rw [tyT] at h
    split at h
    · cases h
    · rename_i ha
      split at h
      · exact tyB_len ks env (i + 1) τ hE h
      · split at h
        · cases h
        · rename_i ts hts
          exact rul_len hE ha (tyL_len ks _ _ _ (inn_ok hE ha) hts) h
theorem tyB_len : ∀ (ts : List T) (env : List Ty) (i : Nat) (τ : Ty), EnvOk env → tyB env ts i = .ok τ → sz τ ≤ 64
  | [], env, i, τ, hE, h => by rw [tyB] at h; cases h
  | a :: r, env, i, τ, hE, h => by
    rw [tyB] at h
    split at h
    · cases h
    · rename_i s hs
      exact tyC_len r _ _ τ (fun t ht => by rcases List.mem_cons.1 ht with rfl | ht; exact tyT_len a env i _ hE hs; exact hE t ht) h
theorem tyC_len : ∀ (ts : List T) (env : List Ty) (i : Nat) (τ : Ty), EnvOk env → tyC env ts i = .ok τ → sz τ ≤ 64
  | [], env, i, τ, hE, h => by rw [tyC] at h; cases h
  | b :: r, env, i, τ, hE, h => by rw [tyC] at h; exact tyT_len b env i τ hE h
theorem tyL_len : ∀ (ts : List T) (env : List Ty) (i : Nat) (us : List Ty), EnvOk env → tyL env ts i = .ok us → ∀ a ∈ us, sz a ≤ 64
  | [], env, i, us, hE, h => by rw [tyL] at h; cases h; simp
  | t :: r, env, i, us, hE, h => by
    rw [tyL] at h
    split at h
    · cases h
    · rename_i a ha
      split at h
      · cases h
      · rename_i b hb
        cases h
        intro c hc
        rcases List.mem_cons.1 hc with rfl | hc
        · exact tyT_len t env i _ hE ha
        · exact tyL_len r env _ b hE hb c hc
end
end Co
end Go.Proofs.YthdlfeejeboboaaGreatDoor
