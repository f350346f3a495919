/- The document's rule: the operations, First, Second, Head, Tail, Empty, Box, Get. -/
import Derived.Test.YtnhihajhhlilfaaMgbf
namespace Go.Proofs.Ytnhihajhhlilfaa
open Go.RowKit Co
open T3.Tp (Ty enc cns)
set_option maxRecDepth 100000
set_option linter.unusedSimpArgs false
set_option linter.unusedVariables false

/-- How rule, function, one and typed end. -/
def DrEnd (w : World) (wb : Nat) (tv av : Value) (a : Int) (r : Rs Ty) (e : Ending) (w' : World) : Prop := w.grownBy w' (some wb) ∧ match r with
  | .error q => (∃ s, e = .returned (.string s)) ∧ IsWk w' wb tv av a q.1 (q.2 : Int)
  | .ok t => e = .returned (.string (S (enc t))) ∧ IsWk w' wb tv av a 0 0
theorem Sc_eq (t u : Ty) : ((S (enc t)).toList == enc u) = decide (t = u) := by
  have h := Sx_eq t u
  rw [show (S (enc u)).toList = enc u from T3.toList_S _] at h
  exact h
/-- Texts of a row that is kept. -/
structure Rt (w W1 : World) (wb : Nat) (tv av : Value) (a : Int) (x : Tr.Nd) (b o : Nat) (ts : List Ty) : Prop where
  ah : Ah w W1 wb tv av a x
  tx : ∀ j t, ts[j]? = some t → W1.cell? ⟨b, o + j, none⟩ = some (.string (S (enc t)))
  ne : b ≠ wb
theorem Rt.mk' {w : World} {wb : Nat} {tv av : Value} {a : Int} (x : Tr.Nd) {b o : Nat} {ts : List Ty} (h : IsWk w wb tv av a 0 0) (hb : b < w.heap.size) (ht : ∀ j t, ts[j]? = some t → w.cell? ⟨b, o + j, none⟩ = some (.string (S (enc t)))) (hne : b ≠ wb) : Rt w (w.alloc (.cells (ndA x) 44)) wb tv av a x b o ts :=
  ⟨Ah.mk' x h, fun j t hj => (((Below.refl w.heap.size w).alloc (Nat.le_refl _) _).cell (p := ⟨b, o + j, none⟩) hb).trans (ht j t hj), hne⟩
theorem Rt.bad {w W1 : World} {wb : Nat} {tv av : Value} {a : Int} {x : Tr.Nd} {b o : Nat} {ts : List Ty} (h : Rt w W1 wb tv av a x b o ts) {r : Rs Ty} {c : Int} {i : Nat} (hr : r = .error (c, i)) : ∀ w' s, Fld W1 wb tv av a c (i : Int) w' → DrEnd w wb tv av a r (.returned (.string s)) w' := fun w' s hF => by
  rw [hr]; exact ⟨grownBy_trans h.ah.g hF.1, ⟨s, rfl⟩, hF.2⟩
theorem Rt.good {w W1 : World} {wb : Nat} {tv av : Value} {a : Int} {x : Tr.Nd} {b o : Nat} {ts : List Ty} (h : Rt w W1 wb tv av a x b o ts) {r : Rs Ty} {t : Ty} (hr : r = .ok t) {s : ByteArray} (hs : s = S (enc t)) : DrEnd w wb tv av a r (.returned (.string s)) W1 := by
  rw [hr, hs]; exact ⟨h.ah.g, rfl, h.ah.k⟩

set_option maxHeartbeats 2000000 in
theorem dru10 {w : World} {wb : Nat} {tv av : Value} {a : Int} (x : Tr.Nd) (i : Nat) (env : List Ty) (b o c : Nat) (t0 t1 : Ty) (z0 : (enc t0).length ≤ 64) (z1 : (enc t1).length ≤ 64) (hc : 2 ≤ c) (h : IsWk w wb tv av a 0 0) (hb : b < w.heap.size) (ht : ∀ j t, [t0, t1][j]? = some t → w.cell? ⟨b, o + j, none⟩ = some (.string (S (enc t)))) (hne : b ≠ wb) (hκ : x.kind = 10) :
    Calls Try.prog 82 #[.pointer (some ⟨wb, 0, none⟩), .agg (ndA x), .slice (some ⟨b, o, none⟩) 2 c, .int .i64 (i : Int)] w (DrEnd w wb tv av a (rul env x i [t0, t1])) := by
  have hR := Rt.mk' x h hb ht hne
  obtain ⟨W1, hW1⟩ : ∃ W1, W1 = w.alloc (.cells (ndA x) 44) := ⟨_, rfl⟩
  rw [← hW1] at hR
  have k0 : W1.cell? ⟨w.heap.size, 0, none⟩ = some (.int .i8 x.kind) := (block_cells hR.ah.n).1 0
  have k4 : W1.cell? ⟨w.heap.size, 4, none⟩ = some (.string x.t) := (block_cells hR.ah.n).1 4
  rw [hκ] at k0
  have p0 : W1.cell? ⟨b, o, none⟩ = some (.string (S (enc t0))) := hR.tx 0 t0 rfl
  have p1 : W1.cell? ⟨b, o + 1, none⟩ = some (.string (S (enc t1))) := hR.tx 1 t1 rfl
  have hw0 := fun k => want0_any (w := W1) wb k
  have hw1 := want1_any hR.ah.k (i : Int)
  have s0 : ((S (enc t0)).toList == [105]) = decide (t0 = .ti) := Sc_eq t0 .ti
  have s1 : ((S (enc t1)).toList == [105]) = decide (t1 = .ti) := Sc_eq t1 .ti
  have hrul : rul env x i [t0, t1] = if allT .ti [t0, t1] then .ok .ti else .error (23, i) := by unfold rul; simp [hκ, opT]
  by_cases e0 : t0 = .ti
  · rw [show decide (t0 = .ti) = true by simpa using e0] at s0
    by_cases e1 : t1 = .ti
    · rw [show decide (t1 = .ti) = true by simpa using e1] at s1
      have hr : rul env x i [t0, t1] = .ok .ti := by rw [hrul]; simp [allT, e0, e1]
      have HE : Aside (DrEnd w wb tv av a (rul env x i [t0, t1]) (.returned (.string (S (enc .ti)))) W1) := hR.good hr rfl
      clear hr hrul hR h ht hκ hw1 e0 e1
      generalize S (enc t0) = u0 at *
      generalize S (enc t1) = u1 at *
      go_enter Try.func82, Try.ntmps82
      go_upto_region 1 with fail
      try rw [← hW1]
      clear hW1
      go_wp2_with fail
      refine (hw0 _).mono ?_
      rintro e w1 ⟨rfl, rfl⟩
      go_wp2_with fail
      go_ret
      exact HE.out
    · rw [show decide (t1 = .ti) = false by simpa using e1] at s1
      have hr : rul env x i [t0, t1] = .error (23, i) := by rw [hrul]; simp [allT, e1]
      have HB := hR.bad hr
      clear hr hrul hR h ht hκ hw0 e0 e1
      generalize S (enc t0) = u0 at *
      generalize S (enc t1) = u1 at *
      go_enter Try.func82, Try.ntmps82
      go_upto_region 1 with fail
      try rw [← hW1]
      clear hW1
      go_wp2_with fail
      refine hw1.mono ?_
      rintro e w1 ⟨rfl, hF⟩
      have hE := fun s => HB w1 s hF
      clear HB hF
      go_wp2_with fail
      go_ret
      exact hE _
  · rw [show decide (t0 = .ti) = false by simpa using e0] at s0
    have hr : rul env x i [t0, t1] = .error (23, i) := by rw [hrul]; simp [allT, e0]
    have HB := hR.bad hr
    clear hr hrul hR h ht hκ hw0 e0 s1
    generalize S (enc t0) = u0 at *
    generalize S (enc t1) = u1 at *
    go_enter Try.func82, Try.ntmps82
    go_upto_region 1 with fail
    try rw [← hW1]
    clear hW1
    go_wp2_with fail
    refine hw1.mono ?_
    rintro e w1 ⟨rfl, hF⟩
    have hE := fun s => HB w1 s hF
    clear HB hF
    go_wp2_with fail
    go_ret
    exact hE _

set_option maxHeartbeats 2000000 in
theorem dru11 {w : World} {wb : Nat} {tv av : Value} {a : Int} (x : Tr.Nd) (i : Nat) (env : List Ty) (b o c : Nat) (t0 t1 : Ty) (z0 : (enc t0).length ≤ 64) (z1 : (enc t1).length ≤ 64) (hc : 2 ≤ c) (h : IsWk w wb tv av a 0 0) (hb : b < w.heap.size) (ht : ∀ j t, [t0, t1][j]? = some t → w.cell? ⟨b, o + j, none⟩ = some (.string (S (enc t)))) (hne : b ≠ wb) (hκ : x.kind = 11) :
    Calls Try.prog 82 #[.pointer (some ⟨wb, 0, none⟩), .agg (ndA x), .slice (some ⟨b, o, none⟩) 2 c, .int .i64 (i : Int)] w (DrEnd w wb tv av a (rul env x i [t0, t1])) := by
  have hR := Rt.mk' x h hb ht hne
  obtain ⟨W1, hW1⟩ : ∃ W1, W1 = w.alloc (.cells (ndA x) 44) := ⟨_, rfl⟩
  rw [← hW1] at hR
  have k0 : W1.cell? ⟨w.heap.size, 0, none⟩ = some (.int .i8 x.kind) := (block_cells hR.ah.n).1 0
  have k4 : W1.cell? ⟨w.heap.size, 4, none⟩ = some (.string x.t) := (block_cells hR.ah.n).1 4
  rw [hκ] at k0
  have p0 : W1.cell? ⟨b, o, none⟩ = some (.string (S (enc t0))) := hR.tx 0 t0 rfl
  have p1 : W1.cell? ⟨b, o + 1, none⟩ = some (.string (S (enc t1))) := hR.tx 1 t1 rfl
  have hw0 := fun k => want0_any (w := W1) wb k
  have hw1 := want1_any hR.ah.k (i : Int)
  have s0 : ((S (enc t0)).toList == [105]) = decide (t0 = .ti) := Sc_eq t0 .ti
  have s1 : ((S (enc t1)).toList == [105]) = decide (t1 = .ti) := Sc_eq t1 .ti
  have hrul : rul env x i [t0, t1] = if allT .ti [t0, t1] then .ok .ti else .error (23, i) := by unfold rul; simp [hκ, opT]
  by_cases e0 : t0 = .ti
  · rw [show decide (t0 = .ti) = true by simpa using e0] at s0
    by_cases e1 : t1 = .ti
    · rw [show decide (t1 = .ti) = true by simpa using e1] at s1
      have hr : rul env x i [t0, t1] = .ok .ti := by rw [hrul]; simp [allT, e0, e1]
      have HE : Aside (DrEnd w wb tv av a (rul env x i [t0, t1]) (.returned (.string (S (enc .ti)))) W1) := hR.good hr rfl
      clear hr hrul hR h ht hκ hw1 e0 e1
      generalize S (enc t0) = u0 at *
      generalize S (enc t1) = u1 at *
      go_enter Try.func82, Try.ntmps82
      go_upto_region 1 with fail
      try rw [← hW1]
      clear hW1
      go_wp2_with fail
      refine (hw0 _).mono ?_
      rintro e w1 ⟨rfl, rfl⟩
      go_wp2_with fail
      go_ret
      exact HE.out
    · rw [show decide (t1 = .ti) = false by simpa using e1] at s1
      have hr : rul env x i [t0, t1] = .error (23, i) := by rw [hrul]; simp [allT, e1]
      have HB := hR.bad hr
      clear hr hrul hR h ht hκ hw0 e0 e1
      generalize S (enc t0) = u0 at *
      generalize S (enc t1) = u1 at *
      go_enter Try.func82, Try.ntmps82
      go_upto_region 1 with fail
      try rw [← hW1]
      clear hW1
      go_wp2_with fail
      refine hw1.mono ?_
      rintro e w1 ⟨rfl, hF⟩
      have hE := fun s => HB w1 s hF
      clear HB hF
      go_wp2_with fail
      go_ret
      exact hE _
  · rw [show decide (t0 = .ti) = false by simpa using e0] at s0
    have hr : rul env x i [t0, t1] = .error (23, i) := by rw [hrul]; simp [allT, e0]
    have HB := hR.bad hr
    clear hr hrul hR h ht hκ hw0 e0 s1
    generalize S (enc t0) = u0 at *
    generalize S (enc t1) = u1 at *
    go_enter Try.func82, Try.ntmps82
    go_upto_region 1 with fail
    try rw [← hW1]
    clear hW1
    go_wp2_with fail
    refine hw1.mono ?_
    rintro e w1 ⟨rfl, hF⟩
    have hE := fun s => HB w1 s hF
    clear HB hF
    go_wp2_with fail
    go_ret
    exact hE _

set_option maxHeartbeats 2000000 in
theorem dru12 {w : World} {wb : Nat} {tv av : Value} {a : Int} (x : Tr.Nd) (i : Nat) (env : List Ty) (b o c : Nat) (t0 t1 : Ty) (z0 : (enc t0).length ≤ 64) (z1 : (enc t1).length ≤ 64) (hc : 2 ≤ c) (h : IsWk w wb tv av a 0 0) (hb : b < w.heap.size) (ht : ∀ j t, [t0, t1][j]? = some t → w.cell? ⟨b, o + j, none⟩ = some (.string (S (enc t)))) (hne : b ≠ wb) (hκ : x.kind = 12) :
    Calls Try.prog 82 #[.pointer (some ⟨wb, 0, none⟩), .agg (ndA x), .slice (some ⟨b, o, none⟩) 2 c, .int .i64 (i : Int)] w (DrEnd w wb tv av a (rul env x i [t0, t1])) := by
  have hR := Rt.mk' x h hb ht hne
  obtain ⟨W1, hW1⟩ : ∃ W1, W1 = w.alloc (.cells (ndA x) 44) := ⟨_, rfl⟩
  rw [← hW1] at hR
  have k0 : W1.cell? ⟨w.heap.size, 0, none⟩ = some (.int .i8 x.kind) := (block_cells hR.ah.n).1 0
  have k4 : W1.cell? ⟨w.heap.size, 4, none⟩ = some (.string x.t) := (block_cells hR.ah.n).1 4
  rw [hκ] at k0
  have p0 : W1.cell? ⟨b, o, none⟩ = some (.string (S (enc t0))) := hR.tx 0 t0 rfl
  have p1 : W1.cell? ⟨b, o + 1, none⟩ = some (.string (S (enc t1))) := hR.tx 1 t1 rfl
  have hw0 := fun k => want0_any (w := W1) wb k
  have hw1 := want1_any hR.ah.k (i : Int)
  have s0 : ((S (enc t0)).toList == [105]) = decide (t0 = .ti) := Sc_eq t0 .ti
  have s1 : ((S (enc t1)).toList == [105]) = decide (t1 = .ti) := Sc_eq t1 .ti
  have hrul : rul env x i [t0, t1] = if allT .ti [t0, t1] then .ok .ti else .error (23, i) := by unfold rul; simp [hκ, opT]
  by_cases e0 : t0 = .ti
  · rw [show decide (t0 = .ti) = true by simpa using e0] at s0
    by_cases e1 : t1 = .ti
    · rw [show decide (t1 = .ti) = true by simpa using e1] at s1
      have hr : rul env x i [t0, t1] = .ok .ti := by rw [hrul]; simp [allT, e0, e1]
      have HE : Aside (DrEnd w wb tv av a (rul env x i [t0, t1]) (.returned (.string (S (enc .ti)))) W1) := hR.good hr rfl
      clear hr hrul hR h ht hκ hw1 e0 e1
      generalize S (enc t0) = u0 at *
      generalize S (enc t1) = u1 at *
      go_enter Try.func82, Try.ntmps82
      go_upto_region 1 with fail
      try rw [← hW1]
      clear hW1
      go_wp2_with fail
      refine (hw0 _).mono ?_
      rintro e w1 ⟨rfl, rfl⟩
      go_wp2_with fail
      go_ret
      exact HE.out
    · rw [show decide (t1 = .ti) = false by simpa using e1] at s1
      have hr : rul env x i [t0, t1] = .error (23, i) := by rw [hrul]; simp [allT, e1]
      have HB := hR.bad hr
      clear hr hrul hR h ht hκ hw0 e0 e1
      generalize S (enc t0) = u0 at *
      generalize S (enc t1) = u1 at *
      go_enter Try.func82, Try.ntmps82
      go_upto_region 1 with fail
      try rw [← hW1]
      clear hW1
      go_wp2_with fail
      refine hw1.mono ?_
      rintro e w1 ⟨rfl, hF⟩
      have hE := fun s => HB w1 s hF
      clear HB hF
      go_wp2_with fail
      go_ret
      exact hE _
  · rw [show decide (t0 = .ti) = false by simpa using e0] at s0
    have hr : rul env x i [t0, t1] = .error (23, i) := by rw [hrul]; simp [allT, e0]
    have HB := hR.bad hr
    clear hr hrul hR h ht hκ hw0 e0 s1
    generalize S (enc t0) = u0 at *
    generalize S (enc t1) = u1 at *
    go_enter Try.func82, Try.ntmps82
    go_upto_region 1 with fail
    try rw [← hW1]
    clear hW1
    go_wp2_with fail
    refine hw1.mono ?_
    rintro e w1 ⟨rfl, hF⟩
    have hE := fun s => HB w1 s hF
    clear HB hF
    go_wp2_with fail
    go_ret
    exact hE _

set_option maxHeartbeats 2000000 in
theorem dru13 {w : World} {wb : Nat} {tv av : Value} {a : Int} (x : Tr.Nd) (i : Nat) (env : List Ty) (b o c : Nat) (t0 t1 : Ty) (z0 : (enc t0).length ≤ 64) (z1 : (enc t1).length ≤ 64) (hc : 2 ≤ c) (h : IsWk w wb tv av a 0 0) (hb : b < w.heap.size) (ht : ∀ j t, [t0, t1][j]? = some t → w.cell? ⟨b, o + j, none⟩ = some (.string (S (enc t)))) (hne : b ≠ wb) (hκ : x.kind = 13) :
    Calls Try.prog 82 #[.pointer (some ⟨wb, 0, none⟩), .agg (ndA x), .slice (some ⟨b, o, none⟩) 2 c, .int .i64 (i : Int)] w (DrEnd w wb tv av a (rul env x i [t0, t1])) := by
  have hR := Rt.mk' x h hb ht hne
  obtain ⟨W1, hW1⟩ : ∃ W1, W1 = w.alloc (.cells (ndA x) 44) := ⟨_, rfl⟩
  rw [← hW1] at hR
  have k0 : W1.cell? ⟨w.heap.size, 0, none⟩ = some (.int .i8 x.kind) := (block_cells hR.ah.n).1 0
  have k4 : W1.cell? ⟨w.heap.size, 4, none⟩ = some (.string x.t) := (block_cells hR.ah.n).1 4
  rw [hκ] at k0
  have p0 : W1.cell? ⟨b, o, none⟩ = some (.string (S (enc t0))) := hR.tx 0 t0 rfl
  have p1 : W1.cell? ⟨b, o + 1, none⟩ = some (.string (S (enc t1))) := hR.tx 1 t1 rfl
  have hw0 := fun k => want0_any (w := W1) wb k
  have hw1 := want1_any hR.ah.k (i : Int)
  have s0 : ((S (enc t0)).toList == [116]) = decide (t0 = .tt) := Sc_eq t0 .tt
  have s1 : ((S (enc t1)).toList == [116]) = decide (t1 = .tt) := Sc_eq t1 .tt
  have hrul : rul env x i [t0, t1] = if allT .tt [t0, t1] then .ok .tt else .error (23, i) := by unfold rul; simp [hκ, opT]
  by_cases e0 : t0 = .tt
  · rw [show decide (t0 = .tt) = true by simpa using e0] at s0
    by_cases e1 : t1 = .tt
    · rw [show decide (t1 = .tt) = true by simpa using e1] at s1
      have hr : rul env x i [t0, t1] = .ok .tt := by rw [hrul]; simp [allT, e0, e1]
      have HE : Aside (DrEnd w wb tv av a (rul env x i [t0, t1]) (.returned (.string (S (enc .tt)))) W1) := hR.good hr rfl
      clear hr hrul hR h ht hκ hw1 e0 e1
      generalize S (enc t0) = u0 at *
      generalize S (enc t1) = u1 at *
      go_enter Try.func82, Try.ntmps82
      go_upto_region 1 with fail
      try rw [← hW1]
      clear hW1
      go_wp2_with fail
      refine (hw0 _).mono ?_
      rintro e w1 ⟨rfl, rfl⟩
      go_wp2_with fail
      go_ret
      exact HE.out
    · rw [show decide (t1 = .tt) = false by simpa using e1] at s1
      have hr : rul env x i [t0, t1] = .error (23, i) := by rw [hrul]; simp [allT, e1]
      have HB := hR.bad hr
      clear hr hrul hR h ht hκ hw0 e0 e1
      generalize S (enc t0) = u0 at *
      generalize S (enc t1) = u1 at *
      go_enter Try.func82, Try.ntmps82
      go_upto_region 1 with fail
      try rw [← hW1]
      clear hW1
      go_wp2_with fail
      refine hw1.mono ?_
      rintro e w1 ⟨rfl, hF⟩
      have hE := fun s => HB w1 s hF
      clear HB hF
      go_wp2_with fail
      go_ret
      exact hE _
  · rw [show decide (t0 = .tt) = false by simpa using e0] at s0
    have hr : rul env x i [t0, t1] = .error (23, i) := by rw [hrul]; simp [allT, e0]
    have HB := hR.bad hr
    clear hr hrul hR h ht hκ hw0 e0 s1
    generalize S (enc t0) = u0 at *
    generalize S (enc t1) = u1 at *
    go_enter Try.func82, Try.ntmps82
    go_upto_region 1 with fail
    try rw [← hW1]
    clear hW1
    go_wp2_with fail
    refine hw1.mono ?_
    rintro e w1 ⟨rfl, hF⟩
    have hE := fun s => HB w1 s hF
    clear HB hF
    go_wp2_with fail
    go_ret
    exact hE _

set_option maxHeartbeats 2000000 in
theorem dru14 {w : World} {wb : Nat} {tv av : Value} {a : Int} (x : Tr.Nd) (i : Nat) (env : List Ty) (b o c : Nat) (t0 t1 : Ty) (z0 : (enc t0).length ≤ 64) (z1 : (enc t1).length ≤ 64) (hc : 2 ≤ c) (h : IsWk w wb tv av a 0 0) (hb : b < w.heap.size) (ht : ∀ j t, [t0, t1][j]? = some t → w.cell? ⟨b, o + j, none⟩ = some (.string (S (enc t)))) (hne : b ≠ wb) (hκ : x.kind = 14) :
    Calls Try.prog 82 #[.pointer (some ⟨wb, 0, none⟩), .agg (ndA x), .slice (some ⟨b, o, none⟩) 2 c, .int .i64 (i : Int)] w (DrEnd w wb tv av a (rul env x i [t0, t1])) := by
  have hR := Rt.mk' x h hb ht hne
  obtain ⟨W1, hW1⟩ : ∃ W1, W1 = w.alloc (.cells (ndA x) 44) := ⟨_, rfl⟩
  rw [← hW1] at hR
  have k0 : W1.cell? ⟨w.heap.size, 0, none⟩ = some (.int .i8 x.kind) := (block_cells hR.ah.n).1 0
  have k4 : W1.cell? ⟨w.heap.size, 4, none⟩ = some (.string x.t) := (block_cells hR.ah.n).1 4
  rw [hκ] at k0
  have p0 : W1.cell? ⟨b, o, none⟩ = some (.string (S (enc t0))) := hR.tx 0 t0 rfl
  have p1 : W1.cell? ⟨b, o + 1, none⟩ = some (.string (S (enc t1))) := hR.tx 1 t1 rfl
  have hw0 := fun k => want0_any (w := W1) wb k
  have hw1 := want1_any hR.ah.k (i : Int)
  have s0 : ((S (enc t0)).toList == [105]) = decide (t0 = .ti) := Sc_eq t0 .ti
  have s1 : ((S (enc t1)).toList == [105]) = decide (t1 = .ti) := Sc_eq t1 .ti
  have hrul : rul env x i [t0, t1] = if allT .ti [t0, t1] then .ok .tb else .error (23, i) := by unfold rul; simp [hκ, opT]
  by_cases e0 : t0 = .ti
  · rw [show decide (t0 = .ti) = true by simpa using e0] at s0
    by_cases e1 : t1 = .ti
    · rw [show decide (t1 = .ti) = true by simpa using e1] at s1
      have hr : rul env x i [t0, t1] = .ok .tb := by rw [hrul]; simp [allT, e0, e1]
      have HE : Aside (DrEnd w wb tv av a (rul env x i [t0, t1]) (.returned (.string (S (enc .tb)))) W1) := hR.good hr rfl
      clear hr hrul hR h ht hκ hw1 e0 e1
      generalize S (enc t0) = u0 at *
      generalize S (enc t1) = u1 at *
      go_enter Try.func82, Try.ntmps82
      go_upto_region 1 with fail
      try rw [← hW1]
      clear hW1
      go_wp2_with fail
      refine (hw0 _).mono ?_
      rintro e w1 ⟨rfl, rfl⟩
      go_wp2_with fail
      go_ret
      exact HE.out
    · rw [show decide (t1 = .ti) = false by simpa using e1] at s1
      have hr : rul env x i [t0, t1] = .error (23, i) := by rw [hrul]; simp [allT, e1]
      have HB := hR.bad hr
      clear hr hrul hR h ht hκ hw0 e0 e1
      generalize S (enc t0) = u0 at *
      generalize S (enc t1) = u1 at *
      go_enter Try.func82, Try.ntmps82
      go_upto_region 1 with fail
      try rw [← hW1]
      clear hW1
      go_wp2_with fail
      refine hw1.mono ?_
      rintro e w1 ⟨rfl, hF⟩
      have hE := fun s => HB w1 s hF
      clear HB hF
      go_wp2_with fail
      go_ret
      exact hE _
  · rw [show decide (t0 = .ti) = false by simpa using e0] at s0
    have hr : rul env x i [t0, t1] = .error (23, i) := by rw [hrul]; simp [allT, e0]
    have HB := hR.bad hr
    clear hr hrul hR h ht hκ hw0 e0 s1
    generalize S (enc t0) = u0 at *
    generalize S (enc t1) = u1 at *
    go_enter Try.func82, Try.ntmps82
    go_upto_region 1 with fail
    try rw [← hW1]
    clear hW1
    go_wp2_with fail
    refine hw1.mono ?_
    rintro e w1 ⟨rfl, hF⟩
    have hE := fun s => HB w1 s hF
    clear HB hF
    go_wp2_with fail
    go_ret
    exact hE _

set_option maxHeartbeats 2000000 in
theorem dru15 {w : World} {wb : Nat} {tv av : Value} {a : Int} (x : Tr.Nd) (i : Nat) (env : List Ty) (b o c : Nat) (t0 t1 : Ty) (z0 : (enc t0).length ≤ 64) (z1 : (enc t1).length ≤ 64) (hc : 2 ≤ c) (h : IsWk w wb tv av a 0 0) (hb : b < w.heap.size) (ht : ∀ j t, [t0, t1][j]? = some t → w.cell? ⟨b, o + j, none⟩ = some (.string (S (enc t)))) (hne : b ≠ wb) (hκ : x.kind = 15) :
    Calls Try.prog 82 #[.pointer (some ⟨wb, 0, none⟩), .agg (ndA x), .slice (some ⟨b, o, none⟩) 2 c, .int .i64 (i : Int)] w (DrEnd w wb tv av a (rul env x i [t0, t1])) := by
  have hR := Rt.mk' x h hb ht hne
  obtain ⟨W1, hW1⟩ : ∃ W1, W1 = w.alloc (.cells (ndA x) 44) := ⟨_, rfl⟩
  rw [← hW1] at hR
  have k0 : W1.cell? ⟨w.heap.size, 0, none⟩ = some (.int .i8 x.kind) := (block_cells hR.ah.n).1 0
  have k4 : W1.cell? ⟨w.heap.size, 4, none⟩ = some (.string x.t) := (block_cells hR.ah.n).1 4
  rw [hκ] at k0
  have p0 : W1.cell? ⟨b, o, none⟩ = some (.string (S (enc t0))) := hR.tx 0 t0 rfl
  have p1 : W1.cell? ⟨b, o + 1, none⟩ = some (.string (S (enc t1))) := hR.tx 1 t1 rfl
  have hw0 := fun k => want0_any (w := W1) wb k
  have hw1 := want1_any hR.ah.k (i : Int)
  have s0 : ((S (enc t0)).toList == [105]) = decide (t0 = .ti) := Sc_eq t0 .ti
  have s1 : ((S (enc t1)).toList == [105]) = decide (t1 = .ti) := Sc_eq t1 .ti
  have hrul : rul env x i [t0, t1] = if allT .ti [t0, t1] then .ok .tb else .error (23, i) := by unfold rul; simp [hκ, opT]
  by_cases e0 : t0 = .ti
  · rw [show decide (t0 = .ti) = true by simpa using e0] at s0
    by_cases e1 : t1 = .ti
    · rw [show decide (t1 = .ti) = true by simpa using e1] at s1
      have hr : rul env x i [t0, t1] = .ok .tb := by rw [hrul]; simp [allT, e0, e1]
      have HE : Aside (DrEnd w wb tv av a (rul env x i [t0, t1]) (.returned (.string (S (enc .tb)))) W1) := hR.good hr rfl
      clear hr hrul hR h ht hκ hw1 e0 e1
      generalize S (enc t0) = u0 at *
      generalize S (enc t1) = u1 at *
      go_enter Try.func82, Try.ntmps82
      go_upto_region 1 with fail
      try rw [← hW1]
      clear hW1
      go_wp2_with fail
      refine (hw0 _).mono ?_
      rintro e w1 ⟨rfl, rfl⟩
      go_wp2_with fail
      go_ret
      exact HE.out
    · rw [show decide (t1 = .ti) = false by simpa using e1] at s1
      have hr : rul env x i [t0, t1] = .error (23, i) := by rw [hrul]; simp [allT, e1]
      have HB := hR.bad hr
      clear hr hrul hR h ht hκ hw0 e0 e1
      generalize S (enc t0) = u0 at *
      generalize S (enc t1) = u1 at *
      go_enter Try.func82, Try.ntmps82
      go_upto_region 1 with fail
      try rw [← hW1]
      clear hW1
      go_wp2_with fail
      refine hw1.mono ?_
      rintro e w1 ⟨rfl, hF⟩
      have hE := fun s => HB w1 s hF
      clear HB hF
      go_wp2_with fail
      go_ret
      exact hE _
  · rw [show decide (t0 = .ti) = false by simpa using e0] at s0
    have hr : rul env x i [t0, t1] = .error (23, i) := by rw [hrul]; simp [allT, e0]
    have HB := hR.bad hr
    clear hr hrul hR h ht hκ hw0 e0 s1
    generalize S (enc t0) = u0 at *
    generalize S (enc t1) = u1 at *
    go_enter Try.func82, Try.ntmps82
    go_upto_region 1 with fail
    try rw [← hW1]
    clear hW1
    go_wp2_with fail
    refine hw1.mono ?_
    rintro e w1 ⟨rfl, hF⟩
    have hE := fun s => HB w1 s hF
    clear HB hF
    go_wp2_with fail
    go_ret
    exact hE _

set_option maxHeartbeats 2000000 in
theorem dru16 {w : World} {wb : Nat} {tv av : Value} {a : Int} (x : Tr.Nd) (i : Nat) (env : List Ty) (b o c : Nat) (t0 : Ty) (z0 : (enc t0).length ≤ 64) (hc : 1 ≤ c) (h : IsWk w wb tv av a 0 0) (hb : b < w.heap.size) (ht : ∀ j t, [t0][j]? = some t → w.cell? ⟨b, o + j, none⟩ = some (.string (S (enc t)))) (hne : b ≠ wb) (hκ : x.kind = 16) :
    Calls Try.prog 82 #[.pointer (some ⟨wb, 0, none⟩), .agg (ndA x), .slice (some ⟨b, o, none⟩) 1 c, .int .i64 (i : Int)] w (DrEnd w wb tv av a (rul env x i [t0])) := by
  have hR := Rt.mk' x h hb ht hne
  obtain ⟨W1, hW1⟩ : ∃ W1, W1 = w.alloc (.cells (ndA x) 44) := ⟨_, rfl⟩
  rw [← hW1] at hR
  have k0 : W1.cell? ⟨w.heap.size, 0, none⟩ = some (.int .i8 x.kind) := (block_cells hR.ah.n).1 0
  have k4 : W1.cell? ⟨w.heap.size, 4, none⟩ = some (.string x.t) := (block_cells hR.ah.n).1 4
  rw [hκ] at k0
  have p0 : W1.cell? ⟨b, o, none⟩ = some (.string (S (enc t0))) := hR.tx 0 t0 rfl
  have hw0 := fun k => want0_any (w := W1) wb k
  have hw1 := want1_any hR.ah.k (i : Int)
  have s0 : ((S (enc t0)).toList == [105]) = decide (t0 = .ti) := Sc_eq t0 .ti
  have hrul : rul env x i [t0] = if allT .ti [t0] then .ok .ti else .error (23, i) := by unfold rul; simp [hκ, opT]
  by_cases e0 : t0 = .ti
  · rw [show decide (t0 = .ti) = true by simpa using e0] at s0
    have hr : rul env x i [t0] = .ok .ti := by rw [hrul]; simp [allT, e0]
    have HE : Aside (DrEnd w wb tv av a (rul env x i [t0]) (.returned (.string (S (enc .ti)))) W1) := hR.good hr rfl
    clear hr hrul hR h ht hκ hw1 e0
    generalize S (enc t0) = u0 at *
    go_enter Try.func82, Try.ntmps82
    go_upto_region 1 with fail
    try rw [← hW1]
    clear hW1
    go_wp2_with fail
    refine (hw0 _).mono ?_
    rintro e w1 ⟨rfl, rfl⟩
    go_wp2_with fail
    go_ret
    exact HE.out
  · rw [show decide (t0 = .ti) = false by simpa using e0] at s0
    have hr : rul env x i [t0] = .error (23, i) := by rw [hrul]; simp [allT, e0]
    have HB := hR.bad hr
    clear hr hrul hR h ht hκ hw0 e0
    generalize S (enc t0) = u0 at *
    go_enter Try.func82, Try.ntmps82
    go_upto_region 1 with fail
    try rw [← hW1]
    clear hW1
    go_wp2_with fail
    refine hw1.mono ?_
    rintro e w1 ⟨rfl, hF⟩
    have hE := fun s => HB w1 s hF
    clear HB hF
    go_wp2_with fail
    go_ret
    exact hE _

set_option maxHeartbeats 2000000 in
theorem dru17 {w : World} {wb : Nat} {tv av : Value} {a : Int} (x : Tr.Nd) (i : Nat) (env : List Ty) (b o c : Nat) (t0 : Ty) (z0 : (enc t0).length ≤ 64) (hc : 1 ≤ c) (h : IsWk w wb tv av a 0 0) (hb : b < w.heap.size) (ht : ∀ j t, [t0][j]? = some t → w.cell? ⟨b, o + j, none⟩ = some (.string (S (enc t)))) (hne : b ≠ wb) (hκ : x.kind = 17) :
    Calls Try.prog 82 #[.pointer (some ⟨wb, 0, none⟩), .agg (ndA x), .slice (some ⟨b, o, none⟩) 1 c, .int .i64 (i : Int)] w (DrEnd w wb tv av a (rul env x i [t0])) := by
  have hR := Rt.mk' x h hb ht hne
  obtain ⟨W1, hW1⟩ : ∃ W1, W1 = w.alloc (.cells (ndA x) 44) := ⟨_, rfl⟩
  rw [← hW1] at hR
  have k0 : W1.cell? ⟨w.heap.size, 0, none⟩ = some (.int .i8 x.kind) := (block_cells hR.ah.n).1 0
  have k4 : W1.cell? ⟨w.heap.size, 4, none⟩ = some (.string x.t) := (block_cells hR.ah.n).1 4
  rw [hκ] at k0
  have p0 : W1.cell? ⟨b, o, none⟩ = some (.string (S (enc t0))) := hR.tx 0 t0 rfl
  have hw0 := fun k => want0_any (w := W1) wb k
  have hw1 := want1_any hR.ah.k (i : Int)
  have s0 : ((S (enc t0)).toList == [116]) = decide (t0 = .tt) := Sc_eq t0 .tt
  have hrul : rul env x i [t0] = if allT .tt [t0] then .ok .ti else .error (23, i) := by unfold rul; simp [hκ, opT]
  by_cases e0 : t0 = .tt
  · rw [show decide (t0 = .tt) = true by simpa using e0] at s0
    have hr : rul env x i [t0] = .ok .ti := by rw [hrul]; simp [allT, e0]
    have HE : Aside (DrEnd w wb tv av a (rul env x i [t0]) (.returned (.string (S (enc .ti)))) W1) := hR.good hr rfl
    clear hr hrul hR h ht hκ hw1 e0
    generalize S (enc t0) = u0 at *
    go_enter Try.func82, Try.ntmps82
    go_upto_region 1 with fail
    try rw [← hW1]
    clear hW1
    go_wp2_with fail
    refine (hw0 _).mono ?_
    rintro e w1 ⟨rfl, rfl⟩
    go_wp2_with fail
    go_ret
    exact HE.out
  · rw [show decide (t0 = .tt) = false by simpa using e0] at s0
    have hr : rul env x i [t0] = .error (23, i) := by rw [hrul]; simp [allT, e0]
    have HB := hR.bad hr
    clear hr hrul hR h ht hκ hw0 e0
    generalize S (enc t0) = u0 at *
    go_enter Try.func82, Try.ntmps82
    go_upto_region 1 with fail
    try rw [← hW1]
    clear hW1
    go_wp2_with fail
    refine hw1.mono ?_
    rintro e w1 ⟨rfl, hF⟩
    have hE := fun s => HB w1 s hF
    clear HB hF
    go_wp2_with fail
    go_ret
    exact hE _

set_option maxHeartbeats 2000000 in
theorem dru19 {w : World} {wb : Nat} {tv av : Value} {a : Int} (x : Tr.Nd) (i : Nat) (env : List Ty) (b o c : Nat) (t0 : Ty) (z0 : (enc t0).length ≤ 64) (hc : 1 ≤ c) (h : IsWk w wb tv av a 0 0) (hb : b < w.heap.size) (ht : ∀ j t, [t0][j]? = some t → w.cell? ⟨b, o + j, none⟩ = some (.string (S (enc t)))) (hne : b ≠ wb) (hκ : x.kind = 19) :
    Calls Try.prog 82 #[.pointer (some ⟨wb, 0, none⟩), .agg (ndA x), .slice (some ⟨b, o, none⟩) 1 c, .int .i64 (i : Int)] w (DrEnd w wb tv av a (rul env x i [t0])) := by
  have hR := Rt.mk' x h hb ht hne
  obtain ⟨W1, hW1⟩ : ∃ W1, W1 = w.alloc (.cells (ndA x) 44) := ⟨_, rfl⟩
  rw [← hW1] at hR
  have k0 : W1.cell? ⟨w.heap.size, 0, none⟩ = some (.int .i8 x.kind) := (block_cells hR.ah.n).1 0
  have k4 : W1.cell? ⟨w.heap.size, 4, none⟩ = some (.string x.t) := (block_cells hR.ah.n).1 4
  rw [hκ] at k0
  have p0 : W1.cell? ⟨b, o, none⟩ = some (.string (S (enc t0))) := hR.tx 0 t0 rfl
  have hw0 := fun k => want0_any (w := W1) wb k
  have hw1 := want1_any hR.ah.k (i : Int)
  obtain ⟨hpa, hha⟩ := T3.S_head t0
  have hpa' : (0 : Int) < ((T3.S (enc t0)).size : Int) := by omega
  have hha' := hha hpa
  clear hha
  have hcs : (∃ A B : Ty, t0 = .tp A B) ∨ ((((T3.Tp.hd t0).toNat : Int) == 44) = false ∧ rul env x i [t0] = .error (23, i)) := by
    cases t0 <;> first | (left; exact ⟨_, rfl⟩) | (left; exact ⟨_, _, rfl⟩) | (right; refine ⟨rfl, ?_⟩; unfold rul; simp [hκ])
  rcases hcs with ⟨A, B, ht0⟩ | ⟨hd0, hr⟩
  · have hd0 : (((T3.Tp.hd t0).toNat : Int) == 44) = true := by rw [ht0]; rfl
    have hr : rul env x i [t0] = .ok (A) := by rw [ht0]; unfold rul; simp [hκ]
    have HE : Aside (DrEnd w wb tv av a (rul env x i [t0]) (.returned (.string (S (enc (A))))) W1) := hR.good hr rfl
    have hp := dpart_yes t0 z0 44 0 (A) (by rw [ht0]; rfl) (by rw [ht0]; rfl)
    clear hr hR h ht hκ hw1 ht0 z0
    rw [show S (enc t0) = T3.S (enc t0) from rfl] at *
    generalize T3.S (enc t0) = u0 at *
    go_enter Try.func82, Try.ntmps82
    go_upto_region 1 with fail
    try rw [← hW1]
    clear hW1
    go_wp2_with fail
    refine (hw0 _).mono ?_
    rintro e w1 ⟨rfl, rfl⟩
    go_wp2_with fail
    refine (hp _).mono ?_
    rintro e w2 ⟨rfl, rfl⟩
    clear hp
    go_wp2_with fail
    go_ret
    exact HE.out

  · have HB := hR.bad hr
    have HP : Aside (∀ w1, Fld W1 wb tv av a 23 (i : Int) w1 → w1.cell? ⟨b, o, none⟩ = some (.string (S (enc t0)))) := fun w1 hF => hF.1.cell p0 (by simp; exact hne)
    have hp := fun w => dpart_no t0 44 0 (by simpa using hd0) w
    clear hr hR h ht hκ hw0 z0
    rw [show S (enc t0) = T3.S (enc t0) from rfl] at *
    generalize T3.S (enc t0) = u0 at *
    go_enter Try.func82, Try.ntmps82
    go_upto_region 1 with fail
    try rw [← hW1]
    clear hW1
    go_wp2_with fail
    refine hw1.mono ?_
    rintro e w1 ⟨rfl, hF⟩
    have hE := fun s => HB w1 s hF
    have p0' := HP.out w1 hF
    clear HB hF HP p0 hw1
    go_wp2_with fail
    refine (hp _).mono ?_
    rintro e w2 ⟨rfl, rfl⟩
    clear hp
    go_wp2_with fail
    go_ret
    exact hE _

set_option maxHeartbeats 2000000 in
theorem dru20 {w : World} {wb : Nat} {tv av : Value} {a : Int} (x : Tr.Nd) (i : Nat) (env : List Ty) (b o c : Nat) (t0 : Ty) (z0 : (enc t0).length ≤ 64) (hc : 1 ≤ c) (h : IsWk w wb tv av a 0 0) (hb : b < w.heap.size) (ht : ∀ j t, [t0][j]? = some t → w.cell? ⟨b, o + j, none⟩ = some (.string (S (enc t)))) (hne : b ≠ wb) (hκ : x.kind = 20) :
    Calls Try.prog 82 #[.pointer (some ⟨wb, 0, none⟩), .agg (ndA x), .slice (some ⟨b, o, none⟩) 1 c, .int .i64 (i : Int)] w (DrEnd w wb tv av a (rul env x i [t0])) := by
  have hR := Rt.mk' x h hb ht hne
  obtain ⟨W1, hW1⟩ : ∃ W1, W1 = w.alloc (.cells (ndA x) 44) := ⟨_, rfl⟩
  rw [← hW1] at hR
  have k0 : W1.cell? ⟨w.heap.size, 0, none⟩ = some (.int .i8 x.kind) := (block_cells hR.ah.n).1 0
  have k4 : W1.cell? ⟨w.heap.size, 4, none⟩ = some (.string x.t) := (block_cells hR.ah.n).1 4
  rw [hκ] at k0
  have p0 : W1.cell? ⟨b, o, none⟩ = some (.string (S (enc t0))) := hR.tx 0 t0 rfl
  have hw0 := fun k => want0_any (w := W1) wb k
  have hw1 := want1_any hR.ah.k (i : Int)
  obtain ⟨hpa, hha⟩ := T3.S_head t0
  have hpa' : (0 : Int) < ((T3.S (enc t0)).size : Int) := by omega
  have hha' := hha hpa
  clear hha
  have hcs : (∃ A B : Ty, t0 = .tp A B) ∨ ((((T3.Tp.hd t0).toNat : Int) == 44) = false ∧ rul env x i [t0] = .error (23, i)) := by
    cases t0 <;> first | (left; exact ⟨_, rfl⟩) | (left; exact ⟨_, _, rfl⟩) | (right; refine ⟨rfl, ?_⟩; unfold rul; simp [hκ])
  rcases hcs with ⟨A, B, ht0⟩ | ⟨hd0, hr⟩
  · have hd0 : (((T3.Tp.hd t0).toNat : Int) == 44) = true := by rw [ht0]; rfl
    have hr : rul env x i [t0] = .ok (B) := by rw [ht0]; unfold rul; simp [hκ]
    have HE : Aside (DrEnd w wb tv av a (rul env x i [t0]) (.returned (.string (S (enc (B))))) W1) := hR.good hr rfl
    have hp := dpart_yes t0 z0 44 1 (B) (by rw [ht0]; rfl) (by rw [ht0]; rfl)
    clear hr hR h ht hκ hw1 ht0 z0
    rw [show S (enc t0) = T3.S (enc t0) from rfl] at *
    generalize T3.S (enc t0) = u0 at *
    go_enter Try.func82, Try.ntmps82
    go_upto_region 1 with fail
    try rw [← hW1]
    clear hW1
    go_wp2_with fail
    refine (hw0 _).mono ?_
    rintro e w1 ⟨rfl, rfl⟩
    go_wp2_with fail
    refine (hp _).mono ?_
    rintro e w2 ⟨rfl, rfl⟩
    clear hp
    go_wp2_with fail
    go_ret
    exact HE.out

  · have HB := hR.bad hr
    have HP : Aside (∀ w1, Fld W1 wb tv av a 23 (i : Int) w1 → w1.cell? ⟨b, o, none⟩ = some (.string (S (enc t0)))) := fun w1 hF => hF.1.cell p0 (by simp; exact hne)
    have hp := fun w => dpart_no t0 44 1 (by simpa using hd0) w
    clear hr hR h ht hκ hw0 z0
    rw [show S (enc t0) = T3.S (enc t0) from rfl] at *
    generalize T3.S (enc t0) = u0 at *
    go_enter Try.func82, Try.ntmps82
    go_upto_region 1 with fail
    try rw [← hW1]
    clear hW1
    go_wp2_with fail
    refine hw1.mono ?_
    rintro e w1 ⟨rfl, hF⟩
    have hE := fun s => HB w1 s hF
    have p0' := HP.out w1 hF
    clear HB hF HP p0 hw1
    go_wp2_with fail
    refine (hp _).mono ?_
    rintro e w2 ⟨rfl, rfl⟩
    clear hp
    go_wp2_with fail
    go_ret
    exact hE _

set_option maxHeartbeats 2000000 in
theorem dru22 {w : World} {wb : Nat} {tv av : Value} {a : Int} (x : Tr.Nd) (i : Nat) (env : List Ty) (b o c : Nat) (t0 : Ty) (z0 : (enc t0).length ≤ 64) (hc : 1 ≤ c) (h : IsWk w wb tv av a 0 0) (hb : b < w.heap.size) (ht : ∀ j t, [t0][j]? = some t → w.cell? ⟨b, o + j, none⟩ = some (.string (S (enc t)))) (hne : b ≠ wb) (hκ : x.kind = 22) :
    Calls Try.prog 82 #[.pointer (some ⟨wb, 0, none⟩), .agg (ndA x), .slice (some ⟨b, o, none⟩) 1 c, .int .i64 (i : Int)] w (DrEnd w wb tv av a (rul env x i [t0])) := by
  have hR := Rt.mk' x h hb ht hne
  obtain ⟨W1, hW1⟩ : ∃ W1, W1 = w.alloc (.cells (ndA x) 44) := ⟨_, rfl⟩
  rw [← hW1] at hR
  have k0 : W1.cell? ⟨w.heap.size, 0, none⟩ = some (.int .i8 x.kind) := (block_cells hR.ah.n).1 0
  have k4 : W1.cell? ⟨w.heap.size, 4, none⟩ = some (.string x.t) := (block_cells hR.ah.n).1 4
  rw [hκ] at k0
  have p0 : W1.cell? ⟨b, o, none⟩ = some (.string (S (enc t0))) := hR.tx 0 t0 rfl
  have hw0 := fun k => want0_any (w := W1) wb k
  have hw1 := want1_any hR.ah.k (i : Int)
  obtain ⟨hpa, hha⟩ := T3.S_head t0
  have hpa' : (0 : Int) < ((T3.S (enc t0)).size : Int) := by omega
  have hha' := hha hpa
  clear hha
  have hcs : (∃ A : Ty, t0 = .tl A) ∨ ((((T3.Tp.hd t0).toNat : Int) == 108) = false ∧ rul env x i [t0] = .error (23, i)) := by
    cases t0 <;> first | (left; exact ⟨_, rfl⟩) | (left; exact ⟨_, _, rfl⟩) | (right; refine ⟨rfl, ?_⟩; unfold rul; simp [hκ])
  rcases hcs with ⟨A, ht0⟩ | ⟨hd0, hr⟩
  · have hd0 : (((T3.Tp.hd t0).toNat : Int) == 108) = true := by rw [ht0]; rfl
    have hr : rul env x i [t0] = .ok (A) := by rw [ht0]; unfold rul; simp [hκ]
    have HE : Aside (DrEnd w wb tv av a (rul env x i [t0]) (.returned (.string (S (enc (A))))) W1) := hR.good hr rfl
    have hp := dpart_yes t0 z0 108 0 (A) (by rw [ht0]; rfl) (by rw [ht0]; rfl)
    clear hr hR h ht hκ hw1 ht0 z0
    rw [show S (enc t0) = T3.S (enc t0) from rfl] at *
    generalize T3.S (enc t0) = u0 at *
    go_enter Try.func82, Try.ntmps82
    go_upto_region 1 with fail
    try rw [← hW1]
    clear hW1
    go_wp2_with fail
    refine (hw0 _).mono ?_
    rintro e w1 ⟨rfl, rfl⟩
    go_wp2_with fail
    refine (hp _).mono ?_
    rintro e w2 ⟨rfl, rfl⟩
    clear hp
    go_wp2_with fail
    go_ret
    exact HE.out

  · have HB := hR.bad hr
    have HP : Aside (∀ w1, Fld W1 wb tv av a 23 (i : Int) w1 → w1.cell? ⟨b, o, none⟩ = some (.string (S (enc t0)))) := fun w1 hF => hF.1.cell p0 (by simp; exact hne)
    have hp := fun w => dpart_no t0 108 0 (by simpa using hd0) w
    clear hr hR h ht hκ hw0 z0
    rw [show S (enc t0) = T3.S (enc t0) from rfl] at *
    generalize T3.S (enc t0) = u0 at *
    go_enter Try.func82, Try.ntmps82
    go_upto_region 1 with fail
    try rw [← hW1]
    clear hW1
    go_wp2_with fail
    refine hw1.mono ?_
    rintro e w1 ⟨rfl, hF⟩
    have hE := fun s => HB w1 s hF
    have p0' := HP.out w1 hF
    clear HB hF HP p0 hw1
    go_wp2_with fail
    refine (hp _).mono ?_
    rintro e w2 ⟨rfl, rfl⟩
    clear hp
    go_wp2_with fail
    go_ret
    exact hE _

set_option maxHeartbeats 2000000 in
theorem dru23 {w : World} {wb : Nat} {tv av : Value} {a : Int} (x : Tr.Nd) (i : Nat) (env : List Ty) (b o c : Nat) (t0 : Ty) (z0 : (enc t0).length ≤ 64) (hc : 1 ≤ c) (h : IsWk w wb tv av a 0 0) (hb : b < w.heap.size) (ht : ∀ j t, [t0][j]? = some t → w.cell? ⟨b, o + j, none⟩ = some (.string (S (enc t)))) (hne : b ≠ wb) (hκ : x.kind = 23) :
    Calls Try.prog 82 #[.pointer (some ⟨wb, 0, none⟩), .agg (ndA x), .slice (some ⟨b, o, none⟩) 1 c, .int .i64 (i : Int)] w (DrEnd w wb tv av a (rul env x i [t0])) := by
  have hR := Rt.mk' x h hb ht hne
  obtain ⟨W1, hW1⟩ : ∃ W1, W1 = w.alloc (.cells (ndA x) 44) := ⟨_, rfl⟩
  rw [← hW1] at hR
  have k0 : W1.cell? ⟨w.heap.size, 0, none⟩ = some (.int .i8 x.kind) := (block_cells hR.ah.n).1 0
  have k4 : W1.cell? ⟨w.heap.size, 4, none⟩ = some (.string x.t) := (block_cells hR.ah.n).1 4
  rw [hκ] at k0
  have p0 : W1.cell? ⟨b, o, none⟩ = some (.string (S (enc t0))) := hR.tx 0 t0 rfl
  have hw0 := fun k => want0_any (w := W1) wb k
  have hw1 := want1_any hR.ah.k (i : Int)
  obtain ⟨hpa, hha⟩ := T3.S_head t0
  have hpa' : (0 : Int) < ((T3.S (enc t0)).size : Int) := by omega
  have hha' := hha hpa
  clear hha
  have hcs : (∃ A : Ty, t0 = .tl A) ∨ ((((T3.Tp.hd t0).toNat : Int) == 108) = false ∧ rul env x i [t0] = .error (23, i)) := by
    cases t0 <;> first | (left; exact ⟨_, rfl⟩) | (left; exact ⟨_, _, rfl⟩) | (right; refine ⟨rfl, ?_⟩; unfold rul; simp [hκ])
  rcases hcs with ⟨A, ht0⟩ | ⟨hd0, hr⟩
  · have hd0 : (((T3.Tp.hd t0).toNat : Int) == 108) = true := by rw [ht0]; rfl
    have hr : rul env x i [t0] = .ok (.tl A) := by rw [ht0]; unfold rul; simp [hκ]
    have HE : Aside (DrEnd w wb tv av a (rul env x i [t0]) (.returned (.string (S (enc (.tl A))))) W1) := hR.good hr rfl
    rw [← ht0] at HE
    clear hr hR h ht hκ hw1 ht0 z0
    rw [show S (enc t0) = T3.S (enc t0) from rfl] at *
    generalize T3.S (enc t0) = u0 at *
    go_enter Try.func82, Try.ntmps82
    go_upto_region 1 with fail
    try rw [← hW1]
    clear hW1
    go_wp2_with fail
    refine (hw0 _).mono ?_
    rintro e w1 ⟨rfl, rfl⟩
    go_wp2_with fail
    go_ret
    exact HE.out

  · have HB := hR.bad hr
    have HP : Aside (∀ w1, Fld W1 wb tv av a 23 (i : Int) w1 → w1.cell? ⟨b, o, none⟩ = some (.string (S (enc t0)))) := fun w1 hF => hF.1.cell p0 (by simp; exact hne)

    clear hr hR h ht hκ hw0 z0
    rw [show S (enc t0) = T3.S (enc t0) from rfl] at *
    generalize T3.S (enc t0) = u0 at *
    go_enter Try.func82, Try.ntmps82
    go_upto_region 1 with fail
    try rw [← hW1]
    clear hW1
    go_wp2_with fail
    refine hw1.mono ?_
    rintro e w1 ⟨rfl, hF⟩
    have hE := fun s => HB w1 s hF
    have p0' := HP.out w1 hF
    clear HB hF HP p0 hw1
    go_wp2_with fail
    go_ret
    exact hE _

set_option maxHeartbeats 2000000 in
theorem dru24 {w : World} {wb : Nat} {tv av : Value} {a : Int} (x : Tr.Nd) (i : Nat) (env : List Ty) (b o c : Nat) (t0 : Ty) (z0 : (enc t0).length ≤ 64) (hc : 1 ≤ c) (h : IsWk w wb tv av a 0 0) (hb : b < w.heap.size) (ht : ∀ j t, [t0][j]? = some t → w.cell? ⟨b, o + j, none⟩ = some (.string (S (enc t)))) (hne : b ≠ wb) (hκ : x.kind = 24) :
    Calls Try.prog 82 #[.pointer (some ⟨wb, 0, none⟩), .agg (ndA x), .slice (some ⟨b, o, none⟩) 1 c, .int .i64 (i : Int)] w (DrEnd w wb tv av a (rul env x i [t0])) := by
  have hR := Rt.mk' x h hb ht hne
  obtain ⟨W1, hW1⟩ : ∃ W1, W1 = w.alloc (.cells (ndA x) 44) := ⟨_, rfl⟩
  rw [← hW1] at hR
  have k0 : W1.cell? ⟨w.heap.size, 0, none⟩ = some (.int .i8 x.kind) := (block_cells hR.ah.n).1 0
  have k4 : W1.cell? ⟨w.heap.size, 4, none⟩ = some (.string x.t) := (block_cells hR.ah.n).1 4
  rw [hκ] at k0
  have p0 : W1.cell? ⟨b, o, none⟩ = some (.string (S (enc t0))) := hR.tx 0 t0 rfl
  have hw0 := fun k => want0_any (w := W1) wb k
  have hw1 := want1_any hR.ah.k (i : Int)
  obtain ⟨hpa, hha⟩ := T3.S_head t0
  have hpa' : (0 : Int) < ((T3.S (enc t0)).size : Int) := by omega
  have hha' := hha hpa
  clear hha
  have hcs : (∃ A : Ty, t0 = .tl A) ∨ ((((T3.Tp.hd t0).toNat : Int) == 108) = false ∧ rul env x i [t0] = .error (23, i)) := by
    cases t0 <;> first | (left; exact ⟨_, rfl⟩) | (left; exact ⟨_, _, rfl⟩) | (right; refine ⟨rfl, ?_⟩; unfold rul; simp [hκ])
  rcases hcs with ⟨A, ht0⟩ | ⟨hd0, hr⟩
  · have hd0 : (((T3.Tp.hd t0).toNat : Int) == 108) = true := by rw [ht0]; rfl
    have hr : rul env x i [t0] = .ok (.tb) := by rw [ht0]; unfold rul; simp [hκ]
    have HE : Aside (DrEnd w wb tv av a (rul env x i [t0]) (.returned (.string (S (enc (.tb))))) W1) := hR.good hr rfl

    clear hr hR h ht hκ hw1 ht0 z0
    rw [show S (enc t0) = T3.S (enc t0) from rfl] at *
    generalize T3.S (enc t0) = u0 at *
    go_enter Try.func82, Try.ntmps82
    go_upto_region 1 with fail
    try rw [← hW1]
    clear hW1
    go_wp2_with fail
    refine (hw0 _).mono ?_
    rintro e w1 ⟨rfl, rfl⟩
    go_wp2_with fail
    go_ret
    exact HE.out

  · have HB := hR.bad hr
    have HP : Aside (∀ w1, Fld W1 wb tv av a 23 (i : Int) w1 → w1.cell? ⟨b, o, none⟩ = some (.string (S (enc t0)))) := fun w1 hF => hF.1.cell p0 (by simp; exact hne)

    clear hr hR h ht hκ hw0 z0
    rw [show S (enc t0) = T3.S (enc t0) from rfl] at *
    generalize T3.S (enc t0) = u0 at *
    go_enter Try.func82, Try.ntmps82
    go_upto_region 1 with fail
    try rw [← hW1]
    clear hW1
    go_wp2_with fail
    refine hw1.mono ?_
    rintro e w1 ⟨rfl, hF⟩
    have hE := fun s => HB w1 s hF
    have p0' := HP.out w1 hF
    clear HB hF HP p0 hw1
    go_wp2_with fail
    go_ret
    exact hE _

set_option maxHeartbeats 2000000 in
theorem dru27 {w : World} {wb : Nat} {tv av : Value} {a : Int} (x : Tr.Nd) (i : Nat) (env : List Ty) (b o c : Nat) (t0 : Ty) (z0 : (enc t0).length ≤ 64) (hc : 1 ≤ c) (h : IsWk w wb tv av a 0 0) (hb : b < w.heap.size) (ht : ∀ j t, [t0][j]? = some t → w.cell? ⟨b, o + j, none⟩ = some (.string (S (enc t)))) (hne : b ≠ wb) (hκ : x.kind = 27) :
    Calls Try.prog 82 #[.pointer (some ⟨wb, 0, none⟩), .agg (ndA x), .slice (some ⟨b, o, none⟩) 1 c, .int .i64 (i : Int)] w (DrEnd w wb tv av a (rul env x i [t0])) := by
  have hR := Rt.mk' x h hb ht hne
  obtain ⟨W1, hW1⟩ : ∃ W1, W1 = w.alloc (.cells (ndA x) 44) := ⟨_, rfl⟩
  rw [← hW1] at hR
  have k0 : W1.cell? ⟨w.heap.size, 0, none⟩ = some (.int .i8 x.kind) := (block_cells hR.ah.n).1 0
  have k4 : W1.cell? ⟨w.heap.size, 4, none⟩ = some (.string x.t) := (block_cells hR.ah.n).1 4
  rw [hκ] at k0
  have p0 : W1.cell? ⟨b, o, none⟩ = some (.string (S (enc t0))) := hR.tx 0 t0 rfl
  have hw0 := fun k => want0_any (w := W1) wb k
  have hw1 := want1_any hR.ah.k (i : Int)
  obtain ⟨hpa, hha⟩ := T3.S_head t0
  have hpa' : (0 : Int) < ((T3.S (enc t0)).size : Int) := by omega
  have hha' := hha hpa
  clear hha
  have hcs : (∃ A : Ty, t0 = .tx A) ∨ ((((T3.Tp.hd t0).toNat : Int) == 120) = false ∧ rul env x i [t0] = .error (23, i)) := by
    cases t0 <;> first | (left; exact ⟨_, rfl⟩) | (left; exact ⟨_, _, rfl⟩) | (right; refine ⟨rfl, ?_⟩; unfold rul; simp [hκ])
  rcases hcs with ⟨A, ht0⟩ | ⟨hd0, hr⟩
  · have hd0 : (((T3.Tp.hd t0).toNat : Int) == 120) = true := by rw [ht0]; rfl
    have hr : rul env x i [t0] = .ok (A) := by rw [ht0]; unfold rul; simp [hκ]
    have HE : Aside (DrEnd w wb tv av a (rul env x i [t0]) (.returned (.string (S (enc (A))))) W1) := hR.good hr rfl
    have hp := dpart_yes t0 z0 120 0 (A) (by rw [ht0]; rfl) (by rw [ht0]; rfl)
    clear hr hR h ht hκ hw1 ht0 z0
    rw [show S (enc t0) = T3.S (enc t0) from rfl] at *
    generalize T3.S (enc t0) = u0 at *
    go_enter Try.func82, Try.ntmps82
    go_upto_region 1 with fail
    try rw [← hW1]
    clear hW1
    go_wp2_with fail
    refine (hw0 _).mono ?_
    rintro e w1 ⟨rfl, rfl⟩
    go_wp2_with fail
    refine (hp _).mono ?_
    rintro e w2 ⟨rfl, rfl⟩
    clear hp
    go_wp2_with fail
    go_ret
    exact HE.out

  · have HB := hR.bad hr
    have HP : Aside (∀ w1, Fld W1 wb tv av a 23 (i : Int) w1 → w1.cell? ⟨b, o, none⟩ = some (.string (S (enc t0)))) := fun w1 hF => hF.1.cell p0 (by simp; exact hne)
    have hp := fun w => dpart_no t0 120 0 (by simpa using hd0) w
    clear hr hR h ht hκ hw0 z0
    rw [show S (enc t0) = T3.S (enc t0) from rfl] at *
    generalize T3.S (enc t0) = u0 at *
    go_enter Try.func82, Try.ntmps82
    go_upto_region 1 with fail
    try rw [← hW1]
    clear hW1
    go_wp2_with fail
    refine hw1.mono ?_
    rintro e w1 ⟨rfl, hF⟩
    have hE := fun s => HB w1 s hF
    have p0' := HP.out w1 hF
    clear HB hF HP p0 hw1
    go_wp2_with fail
    refine (hp _).mono ?_
    rintro e w2 ⟨rfl, rfl⟩
    clear hp
    go_wp2_with fail
    go_ret
    exact hE _

end Go.Proofs.Ytnhihajhhlilfaa
