/- The document's Shape. The document's Consistent and part. The document's part and ahead. -/
import Derived.Test.YtnhihajhhlilfaaMgao
import Derived.BigQuiet
import Derived.Test.YtnhihajhhlilfaaMgaf
namespace Go.Proofs.Ytnhihajhhlilfaa
open Go.RowKit Co
open Tr (T flat flats)
set_option maxRecDepth 100000
set_option linter.unusedSimpArgs false
set_option linter.unusedVariables false

theorem dsh_any (wb : Nat) (tv av : Value) (l : List Tr.Nd) (hl : l.length ≤ 100000) (hf : FitC l) : ∀ (d i : Nat) (w : World), d ≤ 1024 → i ≤ l.length → Dw w wb tv av l i →
    Calls Try.prog 67 #[.pointer (some ⟨wb, 0, none⟩), .int .i64 (1025 - (d : Int))] w (DsEnd w wb tv av (shT l d i))
  | 0, i, w, hd, hi, h => dsh_step wb tv av l hl hf 0 i w (fun d' e => by omega) hd hi h
  | d + 1, i, w, hd, hi, h => dsh_step wb tv av l hl hf (d + 1) i w (fun d' e i' w' h1 h2 => by
      obtain rfl : d = d' := by omega
      exact dsh_any wb tv av l hl hf d i' w' (by omega) h1 h2) hd hi h

/-- What is wrong with a list's shape: the error and its node; 0 and 0: nothing. -/
def shp (l : List Tr.Nd) : Int × Nat := if 16384 < l.length then (17, 0) else match Co.shape l with
  | .error q => q
  | .ok _ => (0, 0)
theorem below_of_new {w w' : World} {o : Obj} (h : (w.alloc o).grownBy w' (some w.heap.size)) : Below w.heap.size w w' := by
  have h1 : w.heap.size ≤ w'.heap.size := by have := h.size; simp at this; omega
  refine ⟨h.os, h.tape, h.output, h1, fun i hi => ?_⟩
  rw [h.block i (by simp; omega) (by simp; omega)]
  exact Below.heap_alloc _ _ _ hi

set_option maxHeartbeats 4000000 in
theorem dShape_any (l : List Tr.Nd) (hl : l.length ≤ 100000) (hf : FitC l) (v : Value) (w : World) (hv : IsNodes w v l) :
    Calls Try.prog 57 #[v] w fun e w' => e = .returned (.tuple #[.int .i64 (shp l).1, .int .i64 ((shp l).2 : Int)]) ∧ Below w.heap.size w w' := by
  obtain ⟨va, vc, rfl⟩ := hv.form
  by_cases hm : 16384 < l.length
  · have hm' : (16384 : Int) < (l.length : Int) := by omega
    have hr : shp l = (17, 0) := by unfold shp; rw [if_pos hm]
    rw [hr]
    clear hr hv
    go_enter Try.func57, Try.ntmps57
    go_wp2_with fail
    go_ret2
    exact ⟨rfl, Below.refl _ _⟩
  · have hm' : decide ((16384 : Int) < (l.length : Int)) = false := by simp; omega
    obtain ⟨W1, hW1⟩ : ∃ W1, W1 = w.alloc (.cells #[.slice va l.length vc, .int .i64 0, .int .i64 0, .int .i64 0, .slice none 0 0] 76) := ⟨_, rfl⟩
    have hk1 : IsWk W1 w.heap.size (.slice va l.length vc) (.slice none 0 0) ((0 : Nat) : Int) 0 0 := by rw [hW1]; exact heap_alloc_new _ _
    have hB1 : Below w.heap.size w W1 := by rw [hW1]; exact (Below.refl _ _).alloc (Nat.le_refl _) _
    have HB : Aside (∀ w', W1.grownBy w' (some w.heap.size) → Below w.heap.size w w') := fun w' h => by rw [hW1] at h; exact below_of_new h
    have hof : l ≠ [] → Off (.slice va l.length vc) (some w.heap.size) := fun hne b o n c he hb => by
      rcases hv with ⟨h, _⟩ | ⟨b', o', c', h1, _, h2, _⟩
      · exact hne h
      · rw [h1] at he; cases he; simp at hb; omega
    have hC := dsh_any w.heap.size (.slice va l.length vc) (.slice none 0 0) l hl hf 1024 0 W1 (Nat.le_refl _) (by omega) ⟨hk1, hv.below hB1, hof⟩
    have hp : shp l = match Co.shape l with | .error q => q | .ok _ => (0, 0) := by unfold shp; rw [if_neg hm]
    unfold Co.shape at hp
    clear hv hk1 hB1 hof
    obtain ⟨n, hn⟩ : ∃ n, n = w.heap.size := ⟨_, rfl⟩
    cases hr : shT l 1024 0 with
    | error q =>
      rw [hr] at hp hC
      have hq0 : (q.1 == 0) = false := by rcases shT_err 1024 0 q hr with h | h <;> rw [h] <;> rfl
      simp only at hp
      rw [hp]
      clear hp hr
      go_enter Try.func57, Try.ntmps57
      go_wp2_with fail
      rw [← hW1]
      refine hC.mono ?_
      rintro e w3 ⟨rfl, hg3, a, hk3⟩
      have hB3 := HB.out _ hg3
      have m2 := (block_cells hk3).1 2
      have m3 := (block_cells hk3).1 3
      clear hC hg3 hk3 HB hW1
      go_upto_region 7 with fail
      go_quiet (fail)
      go_wp2_with fail
      go_ret2
      exact ⟨rfl, by first | exact hB3 | exact below_drewN hB3 _⟩
    | ok q =>
      rw [hr] at hp hC
      have hq2 : q.2 ≤ l.length := by
        obtain ⟨h1, h2, h3, h4⟩ := shT_ok 1024 0 q.1 q.2 hr
        have := congrArg List.length h1
        simp at this
        omega
      simp only at hp
      by_cases hql : q.2 = l.length
      · rw [if_pos hql] at hp
        simp only at hp
        rw [hp]
        have hqq : ¬ q.2 < l.length := by omega
        clear hp hr hql
        go_enter Try.func57, Try.ntmps57
        go_wp2_with fail
        rw [← hW1]
        refine hC.mono ?_
        rintro e w3 ⟨rfl, hg3, hk3⟩
        have hB3 := HB.out _ hg3
        have m1 := (block_cells hk3).1 1
        have m2 := (block_cells hk3).1 2
        have m3 := (block_cells hk3).1 3
        clear hC hg3 hk3 HB hW1
        go_upto_region 7 with fail
        go_quiet (fail)
        go_wp2_with fail
        go_ret2
        exact ⟨rfl, by first | exact hB3 | exact below_drewN hB3 _⟩
      · rw [if_neg hql] at hp
        simp only at hp
        rw [hp]
        have hqq : q.2 < l.length := by omega
        clear hp hr hql
        go_enter Try.func57, Try.ntmps57
        go_wp2_with fail
        rw [← hW1]
        refine hC.mono ?_
        rintro e w3 ⟨rfl, hg3, hk3⟩
        have m1 := (block_cells hk3).1 1
        have m2 := (block_cells hk3).1 2
        have hfa := fail0_any hk3 18 (q.2 : Int)
        clear hC hk3
        go_wp2_with fail
        refine hfa.mono ?_
        rintro e w4 ⟨rfl, hg4, hk4⟩
        have hB3 := HB.out _ (grownBy_trans hg3 hg4)
        have n2 := (block_cells hk4).1 2
        have n3 := (block_cells hk4).1 3
        clear hfa hg3 hg4 hk4 HB hW1 m1 m2
        go_upto_region 7 with fail
        go_quiet (fail)
        go_wp2_with fail
        go_ret2
        exact ⟨rfl, by first | exact hB3 | exact below_drewN hB3 _⟩
end Go.Proofs.Ytnhihajhhlilfaa
namespace Go.Proofs.Ytnhihajhhlilfaa.T3
open Go.RowKit
set_option maxRecDepth 100000
set_option linter.unusedSimpArgs false
set_option linter.unusedVariables false

theorem hd_q (a : Tp.Ty) : (((Tp.hd a).toNat : Int) == 63) = Tp.isq a := by cases a <;> rfl
theorem hd_ne {a b : Tp.Ty} (h : Tp.hd a ≠ Tp.hd b) : (((Tp.hd a).toNat : Int) != ((Tp.hd b).toNat : Int)) = true := by
  simp only [bne_iff_ne, ne_eq]
  intro e
  exact h (UInt8.toNat_inj.1 (by omega))
theorem hd_eq {a b : Tp.Ty} (h : Tp.hd a = Tp.hd b) : (((Tp.hd a).toNat : Int) != ((Tp.hd b).toNat : Int)) = false := by rw [h]; simp

/-- The document's Part of a type. -/
theorem part_kid (t : Tp.Ty) (h64 : (Tp.enc t).length ≤ 64) (k : Nat) (x : Tp.Ty) (hx : (Tp.kids t)[k]? = some x) (w : World) :
    Calls Try.prog 98 #[.string (S (Tp.enc t)), .int .i64 (k : Int)] w fun e w' => e = .returned (.string (S (Tp.enc x))) ∧ w' = w := by
  have one : ∀ (a : Tp.Ty) (c : UInt8), (c :: Tp.enc a).length ≤ 64 → [a][k]? = some x → Calls Try.prog 98 #[.string (S (c :: Tp.enc a)), .int .i64 (k : Int)] w fun e w' => e = .returned (.string (S (Tp.enc x))) ∧ w' = w := fun a c h hx => by
    match k, hx with
    | 0, hx =>
      have e : x = a := (Option.some.inj hx).symm
      rw [e]; exact part0_any _ a c [] (by simp) (by simpa using h) w
  have two : ∀ (a b : Tp.Ty) (c : UInt8), (c :: (Tp.enc a ++ Tp.enc b)).length ≤ 64 → [a, b][k]? = some x → Calls Try.prog 98 #[.string (S (c :: (Tp.enc a ++ Tp.enc b))), .int .i64 (k : Int)] w fun e w' => e = .returned (.string (S (Tp.enc x))) ∧ w' = w := fun a b c h hx => by
    match k, hx with
    | 0, hx =>
      have e : x = a := (Option.some.inj hx).symm
      rw [e]; exact part0_any _ a c (Tp.enc b) rfl h w
    | 1, hx =>
      have e : x = b := (Option.some.inj hx).symm
      rw [e]; exact part1_any _ a b c rfl h w
  cases t with
  | ti => simp [Tp.kids] at hx
  | tb => simp [Tp.kids] at hx
  | tt => simp [Tp.kids] at hx
  | tq => simp [Tp.kids] at hx
  | tl a => exact one a 108 h64 hx
  | tx a => exact one a 120 h64 hx
  | tf a b => exact two a b 62 h64 hx
  | tp a b => exact two a b 44 h64 hx
theorem parts_hd (t : Tp.Ty) (w : World) : Calls Try.prog 97 #[.int .u8 (Tp.hd t).toNat] w fun e w' => e = .returned (.int .i64 ((Tp.kids t).length : Nat)) ∧ w' = w := by
  have := parts4_any ((Tp.hd t).toNat : Int) w
  rw [npt_ar _ (by rw [Tp.ar_hd t]; omega), Tp.ar_hd t] at this
  exact this

set_option maxHeartbeats 4000000 in
theorem dcons_yes (n : Nat) : ∀ (a b : Tp.Ty) (w : World), (Tp.enc a).length ≤ n → (Tp.enc a).length ≤ 64 → (Tp.enc b).length ≤ 64 →
    Calls Try.prog 90 #[.string (S (Tp.enc a)), .string (S (Tp.enc b))] w fun e w' => e = .returned (.bool (Tp.cns a b)) ∧ Below w.heap.size w w' := by
  induction n with
  | zero => intro a b w h; have := Tp.enc_pos a; omega
  | succ n ih =>
    intro a b w hn ha hb
    obtain ⟨hpa, hha⟩ := S_head a
    obtain ⟨hpb, hhb⟩ := S_head b
    have hpa' : (0 : Int) < ((S (Tp.enc a)).size : Int) := by omega
    have hpb' : (0 : Int) < ((S (Tp.enc b)).size : Int) := by omega
    have hha' := hha hpa
    have hhb' := hhb hpb
    clear hha hhb
    have hR := Tp.cns_eq a b
    have q1 := hd_q a
    have q2 := hd_q b
    have p0 := parts_hd a
    have p1 := part_kid a ha
    have p2 := part_kid b hb
    have hkl := Tp.kid_len a
    have hklb := Tp.kid_len b
    cases hqa : Tp.isq a with
    | true =>
      rw [hqa] at hR q1
      rw [hR]
      clear hR p0 p1 p2 ih
      generalize S (Tp.enc a) = s at *
      generalize S (Tp.enc b) = t at *
      go_enter Try.func90, Try.ntmps90
      go_wp2_with fail
      go_ret
      exact ⟨rfl, Below.refl _ _⟩
    | false =>
      cases hqb : Tp.isq b with
      | true =>
        rw [hqa, hqb] at hR
        rw [hqa] at q1
        rw [hqb] at q2
        rw [hR]
        clear hR p0 p1 p2 ih
        generalize S (Tp.enc a) = s at *
        generalize S (Tp.enc b) = t at *
        go_enter Try.func90, Try.ntmps90
        go_wp2_with fail
        go_ret
        exact ⟨rfl, Below.refl _ _⟩
      | false =>
        rw [hqa, hqb] at hR
        rw [hqa] at q1
        rw [hqb] at q2
        by_cases hh : Tp.hd a = Tp.hd b
        · have d1 := hd_eq hh
          have HL : Aside ((Tp.kids a).length = (Tp.kids b).length) := Tp.hd_kids hh
          have HR : Aside (Tp.cns a b = Tp.all2 Tp.cns (Tp.kids a) (Tp.kids b)) := by show _ = _; rw [hR, show decide (Tp.hd a = Tp.hd b) = true by simpa using hh]; rfl
          have hk2 : (Tp.kids a).length ≤ 2 := by cases a <;> simp [Tp.kids]
          clear hR hh
          generalize hsa : S (Tp.enc a) = s at *
          generalize hsb : S (Tp.enc b) = t at *
          go_enter Try.func90, Try.ntmps90
          go_wp2_with fail
          go_quiet (fail)
          go_wp2_with fail
          go_loopg [5] (Tp.kids a).length (fun g t wr => ∃ k : Nat, k + g = (Tp.kids a).length ∧ t = .int .i64 k ∧ Below w.heap.size w wr ∧ Aside (Tp.all2 Tp.cns ((Tp.kids a).take k) ((Tp.kids b).take k) = true))
          case atStart => exact ⟨0, by omega, rfl, by first | exact Below.refl _ _ | exact below_drewN (Below.refl _ _) _ | exact (Below.refl _ _).drew, rfl⟩
          case round =>
            obtain ⟨k, hkg, rfl, hB, HA⟩ := hrel
            by_cases hk : k < (Tp.kids a).length
            · have hk' : (k : Int) < ((Tp.kids a).length : Int) := by omega
              have hk0 : (0 : Int) ≤ (k : Int) := by omega
              have hkb : k < (Tp.kids b).length := by rw [← HL.out]; exact hk
              have ga := List.getElem?_eq_getElem hk
              have gb := List.getElem?_eq_getElem hkb
              have ma := hkl _ (List.getElem_mem hk)
              have mb := hklb _ (List.getElem_mem hkb)
              generalize (Tp.kids a)[k] = x at *
              generalize (Tp.kids b)[k] = y at *
              have p1 := p1 k x ga
              have p2 := p2 k y gb
              have hrec := fun w => ih x y w (by omega) (by omega) (by omega)
              have HT : Aside (Tp.all2 Tp.cns ((Tp.kids a).take (k + 1)) ((Tp.kids b).take (k + 1)) = Tp.cns x y) := by show _ = _; rw [Tp.all2_take Tp.cns ga gb, HA.out]; rfl
              have HZ : Aside (Tp.cns x y = false → Tp.all2 Tp.cns (Tp.kids a) (Tp.kids b) = false) := Tp.all2_false Tp.cns ga gb
              clear ga gb ih
              cases hxy : Tp.cns x y with
              | true =>
                rw [hxy] at hrec HT
                generalize hsx : S (Tp.enc x) = sx at *
                generalize hsy : S (Tp.enc y) = sy at *
                go_wp2_with fail
                refine (p0 _).mono ?_
                rintro e w1 ⟨rfl, hw1⟩
                replace hw1 := hw1.symm
                subst hw1
                go_wp2_with fail
                refine (p1 _).mono ?_
                rintro e w1 ⟨rfl, hw1⟩
                replace hw1 := hw1.symm
                subst hw1
                go_wp2_with fail
                refine (p2 _).mono ?_
                rintro e w1 ⟨rfl, hw1⟩
                replace hw1 := hw1.symm
                subst hw1
                go_wp2_with fail
                refine (hrec _).mono ?_
                rintro e w3 ⟨rfl, hB3⟩
                go_wp2_with fail
                go_roundg (gk - 1)
                case measure => omega
                case rel => exact ⟨k + 1, by omega, by go_num, hB.trans (hB3.mono hB.size), HT⟩
              | false =>
                rw [hxy] at hrec
                have HN : Aside (Tp.cns a b = false) := by show _ = _; rw [HR.out]; exact HZ.out hxy
                generalize hsx : S (Tp.enc x) = sx at *
                generalize hsy : S (Tp.enc y) = sy at *
                go_wp2_with fail
                refine (p0 _).mono ?_
                rintro e w1 ⟨rfl, hw1⟩
                replace hw1 := hw1.symm
                subst hw1
                go_wp2_with fail
                refine (p1 _).mono ?_
                rintro e w1 ⟨rfl, hw1⟩
                replace hw1 := hw1.symm
                subst hw1
                go_wp2_with fail
                refine (p2 _).mono ?_
                rintro e w1 ⟨rfl, hw1⟩
                replace hw1 := hw1.symm
                subst hw1
                go_wp2_with fail
                refine (hrec _).mono ?_
                rintro e w3 ⟨rfl, hB3⟩
                go_wp2_with fail
                go_ret
                rw [HN.out]
                exact ⟨rfl, hB.trans (hB3.mono hB.size)⟩
            · have hk' : decide ((k : Int) < ((Tp.kids a).length : Int)) = false := by simp; omega
              obtain rfl : k = (Tp.kids a).length := by omega
              rw [List.take_length, HL.out, List.take_length] at HA
              go_wp2_with fail
              refine (p0 _).mono ?_
              rintro e w1 ⟨rfl, hw1⟩
              replace hw1 := hw1.symm
              subst hw1
              go_wp2_with fail
              go_ret
              rw [HR.out, HA.out]
              exact ⟨rfl, hB⟩
        · have d1 := hd_ne hh
          rw [show decide (Tp.hd a = Tp.hd b) = false by simpa using hh] at hR
          rw [hR]
          clear hR p0 p1 p2 ih
          generalize S (Tp.enc a) = s at *
          generalize S (Tp.enc b) = t at *
          go_enter Try.func90, Try.ntmps90
          go_wp2_with fail
          go_quiet (fail)
          go_wp2_with fail
          go_ret
          exact ⟨rfl, by first | exact Below.refl _ _ | exact below_drewN (Below.refl _ _) _ | exact (Below.refl _ _).drew⟩
end Go.Proofs.Ytnhihajhhlilfaa.T3
namespace Go.Proofs.Ytnhihajhhlilfaa
open Go.RowKit Co
open T3.Tp (Ty enc cns)
set_option maxRecDepth 100000
set_option linter.unusedSimpArgs false
set_option linter.unusedVariables false

theorem S_ne (t : Ty) : ((S (enc t)).toList == []) = false := by
  have := T3.Tp.enc_pos t
  rw [show (S (enc t)).toList = enc t from by simp [S]]
  cases h : enc t with
  | nil => rw [h] at this; simp at this
  | cons a b => rfl
set_option maxHeartbeats 2000000 in
theorem dpart_no (t : Ty) (c : Int) (k : Int) (hc : (((T3.Tp.hd t).toNat : Int) != c) = true) (w : World) :
    Calls Try.prog 92 #[.string (S (enc t)), .int .u8 c, .int .i64 k] w fun e w' => e = .returned (.string ⟨#[110, 111, 110, 101]⟩) ∧ w' = w := by
  obtain ⟨hpa, hha⟩ := T3.S_head t
  have hpa' : (0 : Int) < ((T3.S (enc t)).size : Int) := by omega
  have hha' := hha hpa
  have h0 := S_ne t
  clear hha
  rw [show S (enc t) = T3.S (enc t) from rfl] at h0 ⊢
  generalize T3.S (enc t) = s at *
  go_enter Try.func92, Try.ntmps92
  go_wp2_with fail
  go_ret
  exact ⟨rfl, rfl⟩
set_option maxHeartbeats 2000000 in
theorem dpart_yes (t : Ty) (h64 : (enc t).length ≤ 64) (c : Int) (k : Nat) (x : Ty) (hc : (((T3.Tp.hd t).toNat : Int) != c) = false) (hx : (T3.Tp.kids t)[k]? = some x) (w : World) :
    Calls Try.prog 92 #[.string (S (enc t)), .int .u8 c, .int .i64 (k : Int)] w fun e w' => e = .returned (.string (S (enc x))) ∧ w' = w := by
  obtain ⟨hpa, hha⟩ := T3.S_head t
  have hpa' : (0 : Int) < ((T3.S (enc t)).size : Int) := by omega
  have hha' := hha hpa
  have h0 := S_ne t
  have hp := T3.part_kid t h64 k x hx
  clear hha hx
  rw [show S (enc t) = T3.S (enc t) from rfl] at h0 ⊢
  rw [show S (enc x) = T3.S (enc x) from rfl]
  generalize T3.S (enc t) = s at *
  generalize T3.S (enc x) = u at *
  go_enter Try.func92, Try.ntmps92
  go_wp2_with fail
  refine (hp _).mono ?_
  rintro e w1 ⟨rfl, rfl⟩
  go_wp2_with fail
  go_ret
  exact ⟨rfl, rfl⟩
end Go.Proofs.Ytnhihajhhlilfaa
