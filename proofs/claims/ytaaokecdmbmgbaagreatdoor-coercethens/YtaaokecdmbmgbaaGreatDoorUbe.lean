/- The document's Meets, plain: its questions in their order. The document's Meets: its frame. -/
import Derived.Test.YtaaokecdmbmgbaaGreatDoorUbc
import Derived.Test.YtaaokecdmbmgbaaGreatDoorUbd
import Derived.StillTailTactics
namespace Go.Proofs.YtaaokecdmbmgbaaGreatDoor
open Go.RowKit Cc
set_option maxRecDepth 100000
set_option linter.unusedSimpArgs false
set_option linter.unusedVariables false
namespace Cc
def fin0 (x : N) : Bool := decide (x.op = 1) || x.inj
def begN (x : N) : Bool := (x.proj != 0) || decide (x.op = 1)
def kidsMeet : C → C → Bool
  | .ls _ _ a, .ls _ _ c => meets a c
  | .tw k _ _ a b, .tw m _ _ c d => if k = m then (if t0 k then meets c a else meets a c) && (if t1 k then meets d b else meets b d) else true
  | _, _ => true
/-- Meets, as the document goes through its questions. -/
def meetQ (s t : C) : Bool :=
    if (nod s).op = 7 then true
    else if (nod s).op = 1 ∨ (nod t).op = 1 then fin0 (nod s) && begN (nod t)
    else if fin0 (nod s) ≠ begN (nod t) then false
    else if (nod s).head ≠ (nod t).head then fin0 (nod s)
    else if (nod t).op = 7 then true
    else kidsMeet s t
theorem hB_eq {a b : H} : (hB a = hB b) = (a = b) := by
  apply propext
  exact ⟨hB_inj, fun h => by rw [h]⟩
theorem ne_tw {h : H} (g : h = .hi ∨ h = .hb ∨ h = .ht) (k : K) : h ≠ .tw k := by rcases g with rfl | rfl | rfl <;> simp
theorem ne_ls {h : H} (g : h = .hi ∨ h = .hb ∨ h = .ht) : h ≠ .ls := by rcases g with rfl | rfl | rfl <;> simp
theorem hB108 {h : H} : (hB h = 108) = (h = .ls) := (hB_eq (a := h) (b := .ls))
theorem opK_ne (k : K) : opK k ≠ 7 ∧ opK k ≠ 1 := by cases k <;> simp [opK]
theorem bb (j : Bool) (q : Int) (A : Bool) : (if ¬ (j = (q != 0)) then false else A) = ((j == (q != 0)) && A) := by
  cases j <;> cases (q != 0) <;> cases A <;> rfl
theorem meets_nod {s t : C} (hs : gr s) (ht : gr t) : meets s t = meetQ s t := by
  unfold meetQ
  cases s with
  | any =>
    have h : meets .any t = beg t := by cases t <;> simp [meets, beg, proj]
    rw [h, beg_nod t, show nod C.any = ⟨1, 0, false, 0, 0, 0, 0⟩ from rfl]
    generalize nod t = y
    simp [fin0, begN, Bool.beq_eq_decide_eq]
  | fl p h l u => simp [nod, sh, shN, fl_meets]
  | bs p j h =>
    cases t with
    | any => simp [nod, sh, shN, fin0, begN, meets, fin, inj]
    | bs q i g =>
      simp only [nod, sh, shN, fin0, begN, meets, kidsMeet, hB_eq, ne_eq]
      by_cases e : h = g <;> cases j <;> cases hq : (q != 0) <;> simp [e]
    | fl q g l u =>
      simp only [nod, sh, shN, fin0, begN, meets, kidsMeet, hB_eq, ne_eq]
      by_cases e : h = g <;> cases j <;> cases hq : (q != 0) <;> simp [e]
    | ls q i c =>
      have e := ne_ls hs
      simp only [nod, sh, shN, fin0, begN, meets, kidsMeet, hB108, ne_eq, e]
      cases j <;> cases hq : (q != 0) <;> simp
    | tw m q i c d =>
      have e := ne_tw hs m
      have o := opK_ne m
      simp only [nod, sh, shN, fin0, begN, meets, kidsMeet, hB_eq, ne_eq, e, o.1, o.2]
      cases j <;> cases hq : (q != 0) <;> simp
  | ls p j a =>
    cases t with
    | any => simp [nod, sh, shN, fin0, begN, meets, fin, inj]
    | bs q i g =>
      have e : ¬ ((108 : Int) = hB g) := fun h => ne_ls ht (hB_inj (a := g) (b := .ls) h.symm)
      simp only [nod, sh, shN, fin0, begN, meets, kidsMeet, ne_eq, e]
      cases j <;> cases hq : (q != 0) <;> simp
    | fl q g l u =>
      have e : ((108 : Int) = hB g) = (g = .ls) := by
        apply propext
        exact ⟨fun h => hB_inj (a := g) (b := .ls) h.symm, fun h => by rw [h]; rfl⟩
      simp only [nod, sh, shN, fin0, begN, meets, kidsMeet, ne_eq, e]
      by_cases e2 : g = .ls <;> cases j <;> cases hq : (q != 0) <;> simp [e2]
    | ls q i c =>
      simp only [nod, sh, shN, fin0, begN, meets, kidsMeet, ne_eq]
      cases j <;> cases hq : (q != 0) <;> simp
    | tw m q i c d =>
      have o := opK_ne m
      have e : ¬ ((108 : Int) = hB (.tw m)) := by cases m <;> simp [hB]
      simp only [nod, sh, shN, fin0, begN, meets, kidsMeet, ne_eq, e, o.1, o.2]
      cases j <;> cases hq : (q != 0) <;> simp
  | tw k p j a b =>
    have o := opK_ne k
    cases t with
    | any => simp [nod, sh, shN, fin0, begN, meets, fin, inj, o.1, o.2]
    | bs q i g =>
      have e : ¬ (H.tw k = g) := fun h => ne_tw ht k h.symm
      simp only [nod, sh, shN, fin0, begN, meets, kidsMeet, hB_eq, ne_eq, e, o.1, o.2]
      cases j <;> cases hq : (q != 0) <;> simp
    | fl q g l u =>
      have e : (H.tw k = g) = (g = .tw k) := propext ⟨Eq.symm, Eq.symm⟩
      simp only [nod, sh, shN, fin0, begN, meets, kidsMeet, hB_eq, ne_eq, e, o.1, o.2]
      by_cases e2 : g = .tw k <;> cases j <;> cases hq : (q != 0) <;> simp [e2]
    | ls q i c =>
      have e : ¬ (hB (.tw k) = 108) := by cases k <;> simp [hB]
      simp only [nod, sh, shN, fin0, begN, meets, kidsMeet, ne_eq, e, o.1, o.2]
      cases j <;> cases hq : (q != 0) <;> simp
    | tw m q i c d =>
      have o2 := opK_ne m
      have e : (H.tw k = H.tw m) = (k = m) := propext ⟨fun h => by injection h, fun h => by rw [h]⟩
      simp only [nod, sh, shN, fin0, begN, meets, kidsMeet, hB_eq, ne_eq, e, o.1, o.2, o2.1, o2.2]
      by_cases e2 : k = m <;> cases j <;> cases hq : (q != 0) <;> simp [e2]
end Cc
end Go.Proofs.YtaaokecdmbmgbaaGreatDoor
namespace Go.Proofs.YtaaokecdmbmgbaaGreatDoor
open Go.RowKit Cc
set_option maxRecDepth 100000
set_option linter.unusedSimpArgs false
set_option linter.unusedVariables false
namespace Cc
/-- Two trees in memory. -/
structure DT2 (w : World) (s t : C) (vs vt : Value) : Prop where
  hs : ∃ lo hi, DT w lo hi s vs ∧ hi ≤ w.heap.size
  ht : ∃ lo hi, DT w lo hi t vt ∧ hi ≤ w.heap.size
theorem DT2.below {w w' : World} {s t : C} {vs vt : Value} (h : DT2 w s t vs vt) (hB : Below w.heap.size w w') : DT2 w' s t vs vt := by
  obtain ⟨⟨lo, hi, h1, h2⟩, ⟨lo', hi', h3, h4⟩⟩ := h
  exact ⟨⟨lo, hi, h1.below h2 hB, Nat.le_trans h2 hB.size⟩, ⟨lo', hi', h3.below h4 hB, Nat.le_trans h4 hB.size⟩⟩
theorem DT.form {w : World} {lo hi : Nat} {c : C} {v : Value} (h : DT w lo hi c v) : ∃ a n k, v = .slice a n k := by
  obtain ⟨a, k, ks, e, -⟩ := h.row
  exact ⟨a, _, k, e⟩
def MeC (n : Nat) : Prop := ∀ (s t : C) (vs vt : Value) (w : World), size s + size t ≤ n → gr s → gr t → DT2 w s t vs vt →
  Calls Tryz.prog 9 #[tree (nod s) vs, tree (nod t) vt] w fun e w' => e = .returned (.bool (meets s t)) ∧ Below w.heap.size w w'
theorem begN_nod (t : C) : begN (nod t) = beg t := by
  rw [beg_nod]
  generalize nod t = y
  unfold begN
  congr 1
end Cc
set_option maxHeartbeats 6400000 in
theorem me_early (s t : C) (vs vt : Value) (w : World) (gs : gr s) (gt : gr t) (h2 : DT2 w s t vs vt)
    (he : (nod s).op = 7 ∨ ((nod s).op = 1 ∨ (nod t).op = 1) ∨ fin0 (nod s) ≠ begN (nod t) ∨ (nod s).head ≠ (nod t).head ∨ (nod t).op = 7) :
    Calls Tryz.prog 9 #[tree (nod s) vs, tree (nod t) vt] w fun e w' => e = .returned (.bool (meets s t)) ∧ Below w.heap.size w w' := by
  obtain ⟨⟨lo, hi, hds, -⟩, ⟨lo', hi', hdt, -⟩⟩ := h2
  obtain ⟨sa, sn, sc, rfl⟩ := hds.form
  obtain ⟨ta, tn, tc, rfl⟩ := hdt.form
  have ce := dends_any s sa sn sc
  have cb := dbegins_any t ta tn tc
  have HM : Aside (meets s t = meetQ s t) := meets_nod gs gt
  have HQ : Aside (meetQ s t = _) := meetQ.eq_def s t
  rw [← begN_nod] at cb
  rw [show ((decide ((nod s).op = 1) || (nod s).inj) = fin0 (nod s)) from rfl] at ce
  rw [show meets s t = meetQ s t from HM.out]
  have HQ2 : Aside (meetQ s t = _) := HQ
  clear hds hdt HM HQ
  have HQ : Aside (meetQ s t = if (nod s).op = 7 then true else if (nod s).op = 1 ∨ (nod t).op = 1 then fin0 (nod s) && begN (nod t) else if fin0 (nod s) ≠ begN (nod t) then false else if (nod s).head ≠ (nod t).head then fin0 (nod s) else if (nod t).op = 7 then true else kidsMeet s t) := rfl
  clear HQ2
  generalize meetQ s t = M at *
  generalize kidsMeet s t = KM at *
  obtain ⟨EN, hEN⟩ : ∃ EN, EN = fin0 (nod s) := ⟨_, rfl⟩
  obtain ⟨BN, hBN⟩ : ∃ BN, BN = begN (nod t) := ⟨_, rfl⟩
  rw [← hEN] at ce HQ he
  rw [← hBN] at cb HQ he
  clear hEN hBN
  generalize nod s = x at *
  generalize nod t = y at *
  by_cases h7 : x.op = 7
  · have HE : Aside (M = true) := by rw [Aside, HQ.out, if_pos h7]
    have h7' : (x.op == 7) = true := by simpa using h7
    clear HQ he h7 ce cb
    go_enter Tryz.func9, Tryz.ntmps9
    go_upto_region 1 with fail
    obtain ⟨W0, hW0⟩ : ∃ W0, W0 = (w.alloc (.cells #[.int .i8 x.op, .int .i64 x.proj, .bool x.inj, .int .u8 x.head, .int .i64 x.label, .int .u8 x.frm, .int .u8 x.tto, .slice sa sn sc] 31)).alloc (.cells #[.int .i8 y.op, .int .i64 y.proj, .bool y.inj, .int .u8 y.head, .int .i64 y.label, .int .u8 y.frm, .int .u8 y.tto, .slice ta tn tc] 31) := ⟨_, rfl⟩
    have hB0 : Below w.heap.size w W0 := by rw [hW0]; exact below_al (below_al (Below.refl _ _) (Nat.le_refl _) _) (by simp) _
    have HT : Aside (∀ W, Below W0.heap.size W0 W → (W.cell? ⟨w.heap.size, 0, none⟩ = some (.int .i8 x.op) ∧ W.cell? ⟨w.heap.size, 1, none⟩ = some (.int .i64 x.proj) ∧ W.cell? ⟨w.heap.size, 2, none⟩ = some (.bool x.inj) ∧ W.cell? ⟨w.heap.size, 3, none⟩ = some (.int .u8 x.head) ∧ W.cell? ⟨w.heap.size, 4, none⟩ = some (.int .i64 x.label) ∧ W.cell? ⟨w.heap.size, 5, none⟩ = some (.int .u8 x.frm) ∧ W.cell? ⟨w.heap.size, 6, none⟩ = some (.int .u8 x.tto) ∧ W.cell? ⟨w.heap.size, 7, none⟩ = some (.slice sa sn sc) ∧ W.cell? ⟨w.heap.size + 1, 0, none⟩ = some (.int .i8 y.op) ∧ W.cell? ⟨w.heap.size + 1, 1, none⟩ = some (.int .i64 y.proj) ∧ W.cell? ⟨w.heap.size + 1, 2, none⟩ = some (.bool y.inj) ∧ W.cell? ⟨w.heap.size + 1, 3, none⟩ = some (.int .u8 y.head) ∧ W.cell? ⟨w.heap.size + 1, 4, none⟩ = some (.int .i64 y.label) ∧ W.cell? ⟨w.heap.size + 1, 5, none⟩ = some (.int .u8 y.frm) ∧ W.cell? ⟨w.heap.size + 1, 6, none⟩ = some (.int .u8 y.tto) ∧ W.cell? ⟨w.heap.size + 1, 7, none⟩ = some (.slice ta tn tc))) := fun W h => by
      have e0 : ∀ o, W.cell? ⟨w.heap.size, o, none⟩ = W0.cell? ⟨w.heap.size, o, none⟩ := fun o => h.cell (p := ⟨w.heap.size, o, none⟩) (by rw [hW0]; simp; omega)
      have e1 : ∀ o, W.cell? ⟨w.heap.size + 1, o, none⟩ = W0.cell? ⟨w.heap.size + 1, o, none⟩ := fun o => h.cell (p := ⟨w.heap.size + 1, o, none⟩) (by rw [hW0]; simp)
      simp only [e0, e1]
      rw [hW0]; simp
    rw [← hW0]
    clear hW0
    obtain ⟨K1, hK1⟩ : ∃ K1, K1 = w.heap.size + 1 := ⟨_, rfl⟩
    rw [← hK1] at HT ⊢
    obtain ⟨K0, hK0⟩ : ∃ K0, K0 = w.heap.size := ⟨_, rfl⟩
    rw [← hK0] at HT
    rw [← hK0]
    have HB0 : Aside (Below w.heap.size w W0) := hB0
    clear hB0 hK0 hK1
    obtain ⟨s0, s1, s2, s3, s4, s5, s6, s7, t0, t1, t2, t3, t4, t5, t6, t7⟩ := HT.out W0 (Below.refl _ _)
    go_wp2_with fail
    go_ret
    exact ⟨ret_b HE.out.symm, HB0.out⟩
  have h7' : (x.op == 7) = false := by simpa using h7
  by_cases h1 : x.op = 1 ∨ y.op = 1
  · have HE : Aside (M = (EN && BN)) := by rw [Aside, HQ.out, if_neg h7, if_pos h1]
    have H1 : Aside (x.op = 1 ∨ y.op = 1) := h1
    clear HQ he h7 h1
    go_enter Tryz.func9, Tryz.ntmps9
    go_upto_region 1 with fail
    obtain ⟨W0, hW0⟩ : ∃ W0, W0 = (w.alloc (.cells #[.int .i8 x.op, .int .i64 x.proj, .bool x.inj, .int .u8 x.head, .int .i64 x.label, .int .u8 x.frm, .int .u8 x.tto, .slice sa sn sc] 31)).alloc (.cells #[.int .i8 y.op, .int .i64 y.proj, .bool y.inj, .int .u8 y.head, .int .i64 y.label, .int .u8 y.frm, .int .u8 y.tto, .slice ta tn tc] 31) := ⟨_, rfl⟩
    have hB0 : Below w.heap.size w W0 := by rw [hW0]; exact below_al (below_al (Below.refl _ _) (Nat.le_refl _) _) (by simp) _
    have HT : Aside (∀ W, Below W0.heap.size W0 W → (W.cell? ⟨w.heap.size, 0, none⟩ = some (.int .i8 x.op) ∧ W.cell? ⟨w.heap.size, 1, none⟩ = some (.int .i64 x.proj) ∧ W.cell? ⟨w.heap.size, 2, none⟩ = some (.bool x.inj) ∧ W.cell? ⟨w.heap.size, 3, none⟩ = some (.int .u8 x.head) ∧ W.cell? ⟨w.heap.size, 4, none⟩ = some (.int .i64 x.label) ∧ W.cell? ⟨w.heap.size, 5, none⟩ = some (.int .u8 x.frm) ∧ W.cell? ⟨w.heap.size, 6, none⟩ = some (.int .u8 x.tto) ∧ W.cell? ⟨w.heap.size, 7, none⟩ = some (.slice sa sn sc) ∧ W.cell? ⟨w.heap.size + 1, 0, none⟩ = some (.int .i8 y.op) ∧ W.cell? ⟨w.heap.size + 1, 1, none⟩ = some (.int .i64 y.proj) ∧ W.cell? ⟨w.heap.size + 1, 2, none⟩ = some (.bool y.inj) ∧ W.cell? ⟨w.heap.size + 1, 3, none⟩ = some (.int .u8 y.head) ∧ W.cell? ⟨w.heap.size + 1, 4, none⟩ = some (.int .i64 y.label) ∧ W.cell? ⟨w.heap.size + 1, 5, none⟩ = some (.int .u8 y.frm) ∧ W.cell? ⟨w.heap.size + 1, 6, none⟩ = some (.int .u8 y.tto) ∧ W.cell? ⟨w.heap.size + 1, 7, none⟩ = some (.slice ta tn tc))) := fun W h => by
      have e0 : ∀ o, W.cell? ⟨w.heap.size, o, none⟩ = W0.cell? ⟨w.heap.size, o, none⟩ := fun o => h.cell (p := ⟨w.heap.size, o, none⟩) (by rw [hW0]; simp; omega)
      have e1 : ∀ o, W.cell? ⟨w.heap.size + 1, o, none⟩ = W0.cell? ⟨w.heap.size + 1, o, none⟩ := fun o => h.cell (p := ⟨w.heap.size + 1, o, none⟩) (by rw [hW0]; simp)
      simp only [e0, e1]
      rw [hW0]; simp
    rw [← hW0]
    clear hW0
    obtain ⟨K1, hK1⟩ : ∃ K1, K1 = w.heap.size + 1 := ⟨_, rfl⟩
    rw [← hK1] at HT ⊢
    obtain ⟨K0, hK0⟩ : ∃ K0, K0 = w.heap.size := ⟨_, rfl⟩
    rw [← hK0] at HT
    rw [← hK0]
    have HB0 : Aside (Below w.heap.size w W0) := hB0
    clear hB0 hK0 hK1
    obtain ⟨s0, s1, s2, s3, s4, s5, s6, s7, t0, t1, t2, t3, t4, t5, t6, t7⟩ := HT.out W0 (Below.refl _ _)
    by_cases hx : x.op = 1
    · have hx' : (x.op == 1) = true := by simpa using hx
      clear hx
      cases EN
      · go_wp2_with (go_at_call 25; refine (ce _).mono ?_; rintro e w2 ⟨rfl, hB2⟩)
        go_ret
        exact ⟨ret_b (by rw [HE.out]; rfl), HB0.out.trans (hB2.mono HB0.out.size)⟩
      · go_wp2_with (first | (go_at_call 25; refine (ce _).mono ?_; rintro e w2 ⟨rfl, hB2⟩; clear s0 s1 s2 s3 s4 s5 s6 s7 t0 t1 t2 t3 t4 t5 t6 t7; obtain ⟨s0, s1, s2, s3, s4, s5, s6, s7, t0, t1, t2, t3, t4, t5, t6, t7⟩ := HT.out w2 hB2) | (go_at_call 26; refine (cb _).mono ?_; rintro e w3 ⟨rfl, hB3⟩))
        go_ret
        exact ⟨ret_b (by rw [HE.out]; rfl), HB0.out.trans ((hB2.trans (hB3.mono hB2.size)).mono HB0.out.size)⟩
    · have hx' : (x.op == 1) = false := by simpa using hx
      have hy' : (y.op == 1) = true := by rcases H1.out with h | h; exact absurd h hx; simpa using h
      clear hx
      cases EN
      · go_wp2_with (go_at_call 25; refine (ce _).mono ?_; rintro e w2 ⟨rfl, hB2⟩)
        go_ret
        exact ⟨ret_b (by rw [HE.out]; rfl), HB0.out.trans (hB2.mono HB0.out.size)⟩
      · go_wp2_with (first | (go_at_call 25; refine (ce _).mono ?_; rintro e w2 ⟨rfl, hB2⟩; clear s0 s1 s2 s3 s4 s5 s6 s7 t0 t1 t2 t3 t4 t5 t6 t7; obtain ⟨s0, s1, s2, s3, s4, s5, s6, s7, t0, t1, t2, t3, t4, t5, t6, t7⟩ := HT.out w2 hB2) | (go_at_call 26; refine (cb _).mono ?_; rintro e w3 ⟨rfl, hB3⟩))
        go_ret
        exact ⟨ret_b (by rw [HE.out]; rfl), HB0.out.trans ((hB2.trans (hB3.mono hB2.size)).mono HB0.out.size)⟩
  have hx' : (x.op == 1) = false := by simpa using fun h => h1 (.inl h)
  have hy' : (y.op == 1) = false := by simpa using fun h => h1 (.inr h)
  by_cases hE : EN = BN
  · subst hE
    by_cases hh : x.head = y.head
    · have hy7 : y.op = 7 := by
        rcases he with h | h | h | h | h
        · exact absurd h h7
        · exact absurd h h1
        · exact absurd rfl h
        · exact absurd hh h
        · exact h
      have HE : Aside (M = true) := by rw [Aside, HQ.out, if_neg h7, if_neg h1, if_neg (by simp), if_neg (by simp [hh]), if_pos hy7]
      have hy7' : (y.op == 7) = true := by simpa using hy7
      have hh' : (x.head != y.head) = false := by simpa using hh
      clear HQ he h7 h1 hy7 hh
      go_enter Tryz.func9, Tryz.ntmps9
      go_upto_region 1 with fail
      obtain ⟨W0, hW0⟩ : ∃ W0, W0 = (w.alloc (.cells #[.int .i8 x.op, .int .i64 x.proj, .bool x.inj, .int .u8 x.head, .int .i64 x.label, .int .u8 x.frm, .int .u8 x.tto, .slice sa sn sc] 31)).alloc (.cells #[.int .i8 y.op, .int .i64 y.proj, .bool y.inj, .int .u8 y.head, .int .i64 y.label, .int .u8 y.frm, .int .u8 y.tto, .slice ta tn tc] 31) := ⟨_, rfl⟩
      have hB0 : Below w.heap.size w W0 := by rw [hW0]; exact below_al (below_al (Below.refl _ _) (Nat.le_refl _) _) (by simp) _
      have HT : Aside (∀ W, Below W0.heap.size W0 W → (W.cell? ⟨w.heap.size, 0, none⟩ = some (.int .i8 x.op) ∧ W.cell? ⟨w.heap.size, 1, none⟩ = some (.int .i64 x.proj) ∧ W.cell? ⟨w.heap.size, 2, none⟩ = some (.bool x.inj) ∧ W.cell? ⟨w.heap.size, 3, none⟩ = some (.int .u8 x.head) ∧ W.cell? ⟨w.heap.size, 4, none⟩ = some (.int .i64 x.label) ∧ W.cell? ⟨w.heap.size, 5, none⟩ = some (.int .u8 x.frm) ∧ W.cell? ⟨w.heap.size, 6, none⟩ = some (.int .u8 x.tto) ∧ W.cell? ⟨w.heap.size, 7, none⟩ = some (.slice sa sn sc) ∧ W.cell? ⟨w.heap.size + 1, 0, none⟩ = some (.int .i8 y.op) ∧ W.cell? ⟨w.heap.size + 1, 1, none⟩ = some (.int .i64 y.proj) ∧ W.cell? ⟨w.heap.size + 1, 2, none⟩ = some (.bool y.inj) ∧ W.cell? ⟨w.heap.size + 1, 3, none⟩ = some (.int .u8 y.head) ∧ W.cell? ⟨w.heap.size + 1, 4, none⟩ = some (.int .i64 y.label) ∧ W.cell? ⟨w.heap.size + 1, 5, none⟩ = some (.int .u8 y.frm) ∧ W.cell? ⟨w.heap.size + 1, 6, none⟩ = some (.int .u8 y.tto) ∧ W.cell? ⟨w.heap.size + 1, 7, none⟩ = some (.slice ta tn tc))) := fun W h => by
        have e0 : ∀ o, W.cell? ⟨w.heap.size, o, none⟩ = W0.cell? ⟨w.heap.size, o, none⟩ := fun o => h.cell (p := ⟨w.heap.size, o, none⟩) (by rw [hW0]; simp; omega)
        have e1 : ∀ o, W.cell? ⟨w.heap.size + 1, o, none⟩ = W0.cell? ⟨w.heap.size + 1, o, none⟩ := fun o => h.cell (p := ⟨w.heap.size + 1, o, none⟩) (by rw [hW0]; simp)
        simp only [e0, e1]
        rw [hW0]; simp
      rw [← hW0]
      clear hW0
      obtain ⟨K1, hK1⟩ : ∃ K1, K1 = w.heap.size + 1 := ⟨_, rfl⟩
      rw [← hK1] at HT ⊢
      obtain ⟨K0, hK0⟩ : ∃ K0, K0 = w.heap.size := ⟨_, rfl⟩
      rw [← hK0] at HT
      rw [← hK0]
      have HB0 : Aside (Below w.heap.size w W0) := hB0
      clear hB0 hK0 hK1
      obtain ⟨s0, s1, s2, s3, s4, s5, s6, s7, t0, t1, t2, t3, t4, t5, t6, t7⟩ := HT.out W0 (Below.refl _ _)
      obtain ⟨BN, hBN⟩ : ∃ BN, BN = EN := ⟨_, rfl⟩
      rw [← hBN] at cb
      have hmix : Tryz.prog.follows .mixedOrders = true := by kernel_rfl
      have ceS : ∀ W, Below W0.heap.size W0 W → Calls Tryz.prog 25 #[tree x (.slice sa sn sc)] W fun e w' => e = .returned (.bool EN) ∧ Below W0.heap.size W0 w' := fun W hW => (ce W).mono (by rintro e w' ⟨rfl, h⟩; exact ⟨rfl, hW.trans (h.mono hW.size)⟩)
      have cbT : ∀ W, Below W0.heap.size W0 W → Calls Tryz.prog 26 #[tree y (.slice ta tn tc)] W fun e w' => e = .returned (.bool BN) ∧ Below W0.heap.size W0 w' := fun W hW => (cb W).mono (by rintro e w' ⟨rfl, h⟩; exact ⟨rfl, hW.trans (h.mono hW.size)⟩)
      go_upto_region 5 with fail
      clear s0 s1 s2 s3 s4 s5 s6 s7 t0 t1 t2 t3 t4 t5 t6 t7
      have x0 : ∀ z : Cls (fun W => Below W0.heap.size W0 W), z.w.cell? ⟨K0, 0, none⟩ = some (.int .i8 x.op) := fun z => (HT.out z.w z.h).1
      have x1 : ∀ z : Cls (fun W => Below W0.heap.size W0 W), z.w.cell? ⟨K0, 1, none⟩ = some (.int .i64 x.proj) := fun z => (HT.out z.w z.h).2.1
      have x2 : ∀ z : Cls (fun W => Below W0.heap.size W0 W), z.w.cell? ⟨K0, 2, none⟩ = some (.bool x.inj) := fun z => (HT.out z.w z.h).2.2.1
      have x3 : ∀ z : Cls (fun W => Below W0.heap.size W0 W), z.w.cell? ⟨K0, 3, none⟩ = some (.int .u8 x.head) := fun z => (HT.out z.w z.h).2.2.2.1
      have x4 : ∀ z : Cls (fun W => Below W0.heap.size W0 W), z.w.cell? ⟨K0, 4, none⟩ = some (.int .i64 x.label) := fun z => (HT.out z.w z.h).2.2.2.2.1
      have x5 : ∀ z : Cls (fun W => Below W0.heap.size W0 W), z.w.cell? ⟨K0, 5, none⟩ = some (.int .u8 x.frm) := fun z => (HT.out z.w z.h).2.2.2.2.2.1
      have x6 : ∀ z : Cls (fun W => Below W0.heap.size W0 W), z.w.cell? ⟨K0, 6, none⟩ = some (.int .u8 x.tto) := fun z => (HT.out z.w z.h).2.2.2.2.2.2.1
      have x7 : ∀ z : Cls (fun W => Below W0.heap.size W0 W), z.w.cell? ⟨K0, 7, none⟩ = some (.slice sa sn sc) := fun z => (HT.out z.w z.h).2.2.2.2.2.2.2.1
      have x8 : ∀ z : Cls (fun W => Below W0.heap.size W0 W), z.w.cell? ⟨K1, 0, none⟩ = some (.int .i8 y.op) := fun z => (HT.out z.w z.h).2.2.2.2.2.2.2.2.1
      have x9 : ∀ z : Cls (fun W => Below W0.heap.size W0 W), z.w.cell? ⟨K1, 1, none⟩ = some (.int .i64 y.proj) := fun z => (HT.out z.w z.h).2.2.2.2.2.2.2.2.2.1
      have x10 : ∀ z : Cls (fun W => Below W0.heap.size W0 W), z.w.cell? ⟨K1, 2, none⟩ = some (.bool y.inj) := fun z => (HT.out z.w z.h).2.2.2.2.2.2.2.2.2.2.1
      have x11 : ∀ z : Cls (fun W => Below W0.heap.size W0 W), z.w.cell? ⟨K1, 3, none⟩ = some (.int .u8 y.head) := fun z => (HT.out z.w z.h).2.2.2.2.2.2.2.2.2.2.2.1
      have x12 : ∀ z : Cls (fun W => Below W0.heap.size W0 W), z.w.cell? ⟨K1, 4, none⟩ = some (.int .i64 y.label) := fun z => (HT.out z.w z.h).2.2.2.2.2.2.2.2.2.2.2.2.1
      have x13 : ∀ z : Cls (fun W => Below W0.heap.size W0 W), z.w.cell? ⟨K1, 5, none⟩ = some (.int .u8 y.frm) := fun z => (HT.out z.w z.h).2.2.2.2.2.2.2.2.2.2.2.2.2.1
      have x14 : ∀ z : Cls (fun W => Below W0.heap.size W0 W), z.w.cell? ⟨K1, 6, none⟩ = some (.int .u8 y.tto) := fun z => (HT.out z.w z.h).2.2.2.2.2.2.2.2.2.2.2.2.2.2.1
      have x15 : ∀ z : Cls (fun W => Below W0.heap.size W0 W), z.w.cell? ⟨K1, 7, none⟩ = some (.slice ta tn tc) := fun z => (HT.out z.w z.h).2.2.2.2.2.2.2.2.2.2.2.2.2.2.2
      have hne9 : Nonempty (Cls (fun W => Below W0.heap.size W0 W)) := ⟨⟨W0, Below.refl _ _⟩⟩
      refine wp_region_calm (fun W => Below W0.heap.size W0 W) hmix (by kernel_rfl) (Below.refl _ _).drew ?_
      repeat (go_big_quiet_step (first | (go_at_call 25; with_reducible exact calls_calm (ceS _ (Cls.h _))) | (go_at_call 26; with_reducible exact calls_calm (cbT _ (Cls.h _)))))
      refine wpQuiet_nil ?_
      rintro _ ⟨x9, rfl⟩
      have hB5 := x9.h
      generalize x9.w = w5 at *
      clear x0 x1 x2 x3 x4 x5 x6 x7 x8 x9 x10 x11 x12 x13 x14 x15 hne9
      obtain ⟨s0, s1, s2, s3, s4, s5, s6, s7, t0, t1, t2, t3, t4, t5, t6, t7⟩ := HT.out w5 hB5
      subst hBN
      cases BN
      all_goals
        go_wp2_with fail
        go_ret
        exact ⟨ret_b HE.out.symm, HB0.out.trans (hB5.mono HB0.out.size)⟩
    · have HE : Aside (M = EN) := by rw [Aside, HQ.out, if_neg h7, if_neg h1, if_neg (by simp), if_pos hh]
      have hh' : (x.head != y.head) = true := by simpa using hh
      clear HQ he h7 h1 hh
      go_enter Tryz.func9, Tryz.ntmps9
      go_upto_region 1 with fail
      obtain ⟨W0, hW0⟩ : ∃ W0, W0 = (w.alloc (.cells #[.int .i8 x.op, .int .i64 x.proj, .bool x.inj, .int .u8 x.head, .int .i64 x.label, .int .u8 x.frm, .int .u8 x.tto, .slice sa sn sc] 31)).alloc (.cells #[.int .i8 y.op, .int .i64 y.proj, .bool y.inj, .int .u8 y.head, .int .i64 y.label, .int .u8 y.frm, .int .u8 y.tto, .slice ta tn tc] 31) := ⟨_, rfl⟩
      have hB0 : Below w.heap.size w W0 := by rw [hW0]; exact below_al (below_al (Below.refl _ _) (Nat.le_refl _) _) (by simp) _
      have HT : Aside (∀ W, Below W0.heap.size W0 W → (W.cell? ⟨w.heap.size, 0, none⟩ = some (.int .i8 x.op) ∧ W.cell? ⟨w.heap.size, 1, none⟩ = some (.int .i64 x.proj) ∧ W.cell? ⟨w.heap.size, 2, none⟩ = some (.bool x.inj) ∧ W.cell? ⟨w.heap.size, 3, none⟩ = some (.int .u8 x.head) ∧ W.cell? ⟨w.heap.size, 4, none⟩ = some (.int .i64 x.label) ∧ W.cell? ⟨w.heap.size, 5, none⟩ = some (.int .u8 x.frm) ∧ W.cell? ⟨w.heap.size, 6, none⟩ = some (.int .u8 x.tto) ∧ W.cell? ⟨w.heap.size, 7, none⟩ = some (.slice sa sn sc) ∧ W.cell? ⟨w.heap.size + 1, 0, none⟩ = some (.int .i8 y.op) ∧ W.cell? ⟨w.heap.size + 1, 1, none⟩ = some (.int .i64 y.proj) ∧ W.cell? ⟨w.heap.size + 1, 2, none⟩ = some (.bool y.inj) ∧ W.cell? ⟨w.heap.size + 1, 3, none⟩ = some (.int .u8 y.head) ∧ W.cell? ⟨w.heap.size + 1, 4, none⟩ = some (.int .i64 y.label) ∧ W.cell? ⟨w.heap.size + 1, 5, none⟩ = some (.int .u8 y.frm) ∧ W.cell? ⟨w.heap.size + 1, 6, none⟩ = some (.int .u8 y.tto) ∧ W.cell? ⟨w.heap.size + 1, 7, none⟩ = some (.slice ta tn tc))) := fun W h => by
        have e0 : ∀ o, W.cell? ⟨w.heap.size, o, none⟩ = W0.cell? ⟨w.heap.size, o, none⟩ := fun o => h.cell (p := ⟨w.heap.size, o, none⟩) (by rw [hW0]; simp; omega)
        have e1 : ∀ o, W.cell? ⟨w.heap.size + 1, o, none⟩ = W0.cell? ⟨w.heap.size + 1, o, none⟩ := fun o => h.cell (p := ⟨w.heap.size + 1, o, none⟩) (by rw [hW0]; simp)
        simp only [e0, e1]
        rw [hW0]; simp
      rw [← hW0]
      clear hW0
      obtain ⟨K1, hK1⟩ : ∃ K1, K1 = w.heap.size + 1 := ⟨_, rfl⟩
      rw [← hK1] at HT ⊢
      obtain ⟨K0, hK0⟩ : ∃ K0, K0 = w.heap.size := ⟨_, rfl⟩
      rw [← hK0] at HT
      rw [← hK0]
      have HB0 : Aside (Below w.heap.size w W0) := hB0
      clear hB0 hK0 hK1
      obtain ⟨s0, s1, s2, s3, s4, s5, s6, s7, t0, t1, t2, t3, t4, t5, t6, t7⟩ := HT.out W0 (Below.refl _ _)
      obtain ⟨BN, hBN⟩ : ∃ BN, BN = EN := ⟨_, rfl⟩
      rw [← hBN] at cb
      have hmix : Tryz.prog.follows .mixedOrders = true := by kernel_rfl
      have ceS : ∀ W, Below W0.heap.size W0 W → Calls Tryz.prog 25 #[tree x (.slice sa sn sc)] W fun e w' => e = .returned (.bool EN) ∧ Below W0.heap.size W0 w' := fun W hW => (ce W).mono (by rintro e w' ⟨rfl, h⟩; exact ⟨rfl, hW.trans (h.mono hW.size)⟩)
      have cbT : ∀ W, Below W0.heap.size W0 W → Calls Tryz.prog 26 #[tree y (.slice ta tn tc)] W fun e w' => e = .returned (.bool BN) ∧ Below W0.heap.size W0 w' := fun W hW => (cb W).mono (by rintro e w' ⟨rfl, h⟩; exact ⟨rfl, hW.trans (h.mono hW.size)⟩)
      go_upto_region 5 with fail
      clear s0 s1 s2 s3 s4 s5 s6 s7 t0 t1 t2 t3 t4 t5 t6 t7
      have x0 : ∀ z : Cls (fun W => Below W0.heap.size W0 W), z.w.cell? ⟨K0, 0, none⟩ = some (.int .i8 x.op) := fun z => (HT.out z.w z.h).1
      have x1 : ∀ z : Cls (fun W => Below W0.heap.size W0 W), z.w.cell? ⟨K0, 1, none⟩ = some (.int .i64 x.proj) := fun z => (HT.out z.w z.h).2.1
      have x2 : ∀ z : Cls (fun W => Below W0.heap.size W0 W), z.w.cell? ⟨K0, 2, none⟩ = some (.bool x.inj) := fun z => (HT.out z.w z.h).2.2.1
      have x3 : ∀ z : Cls (fun W => Below W0.heap.size W0 W), z.w.cell? ⟨K0, 3, none⟩ = some (.int .u8 x.head) := fun z => (HT.out z.w z.h).2.2.2.1
      have x4 : ∀ z : Cls (fun W => Below W0.heap.size W0 W), z.w.cell? ⟨K0, 4, none⟩ = some (.int .i64 x.label) := fun z => (HT.out z.w z.h).2.2.2.2.1
      have x5 : ∀ z : Cls (fun W => Below W0.heap.size W0 W), z.w.cell? ⟨K0, 5, none⟩ = some (.int .u8 x.frm) := fun z => (HT.out z.w z.h).2.2.2.2.2.1
      have x6 : ∀ z : Cls (fun W => Below W0.heap.size W0 W), z.w.cell? ⟨K0, 6, none⟩ = some (.int .u8 x.tto) := fun z => (HT.out z.w z.h).2.2.2.2.2.2.1
      have x7 : ∀ z : Cls (fun W => Below W0.heap.size W0 W), z.w.cell? ⟨K0, 7, none⟩ = some (.slice sa sn sc) := fun z => (HT.out z.w z.h).2.2.2.2.2.2.2.1
      have x8 : ∀ z : Cls (fun W => Below W0.heap.size W0 W), z.w.cell? ⟨K1, 0, none⟩ = some (.int .i8 y.op) := fun z => (HT.out z.w z.h).2.2.2.2.2.2.2.2.1
      have x9 : ∀ z : Cls (fun W => Below W0.heap.size W0 W), z.w.cell? ⟨K1, 1, none⟩ = some (.int .i64 y.proj) := fun z => (HT.out z.w z.h).2.2.2.2.2.2.2.2.2.1
      have x10 : ∀ z : Cls (fun W => Below W0.heap.size W0 W), z.w.cell? ⟨K1, 2, none⟩ = some (.bool y.inj) := fun z => (HT.out z.w z.h).2.2.2.2.2.2.2.2.2.2.1
      have x11 : ∀ z : Cls (fun W => Below W0.heap.size W0 W), z.w.cell? ⟨K1, 3, none⟩ = some (.int .u8 y.head) := fun z => (HT.out z.w z.h).2.2.2.2.2.2.2.2.2.2.2.1
      have x12 : ∀ z : Cls (fun W => Below W0.heap.size W0 W), z.w.cell? ⟨K1, 4, none⟩ = some (.int .i64 y.label) := fun z => (HT.out z.w z.h).2.2.2.2.2.2.2.2.2.2.2.2.1
      have x13 : ∀ z : Cls (fun W => Below W0.heap.size W0 W), z.w.cell? ⟨K1, 5, none⟩ = some (.int .u8 y.frm) := fun z => (HT.out z.w z.h).2.2.2.2.2.2.2.2.2.2.2.2.2.1
      have x14 : ∀ z : Cls (fun W => Below W0.heap.size W0 W), z.w.cell? ⟨K1, 6, none⟩ = some (.int .u8 y.tto) := fun z => (HT.out z.w z.h).2.2.2.2.2.2.2.2.2.2.2.2.2.2.1
      have x15 : ∀ z : Cls (fun W => Below W0.heap.size W0 W), z.w.cell? ⟨K1, 7, none⟩ = some (.slice ta tn tc) := fun z => (HT.out z.w z.h).2.2.2.2.2.2.2.2.2.2.2.2.2.2.2
      have hne9 : Nonempty (Cls (fun W => Below W0.heap.size W0 W)) := ⟨⟨W0, Below.refl _ _⟩⟩
      refine wp_region_calm (fun W => Below W0.heap.size W0 W) hmix (by kernel_rfl) (Below.refl _ _).drew ?_
      repeat (go_big_quiet_step (first | (go_at_call 25; with_reducible exact calls_calm (ceS _ (Cls.h _))) | (go_at_call 26; with_reducible exact calls_calm (cbT _ (Cls.h _)))))
      refine wpQuiet_nil ?_
      rintro _ ⟨x9, rfl⟩
      have hB5 := x9.h
      generalize x9.w = w5 at *
      clear x0 x1 x2 x3 x4 x5 x6 x7 x8 x9 x10 x11 x12 x13 x14 x15 hne9
      obtain ⟨s0, s1, s2, s3, s4, s5, s6, s7, t0, t1, t2, t3, t4, t5, t6, t7⟩ := HT.out w5 hB5
      subst hBN
      cases BN
      all_goals
        go_wp2_with (go_at_call 25; refine (ce _).mono ?_; rintro e w6 ⟨rfl, hB6⟩)
        go_ret
        exact ⟨ret_b HE.out.symm, HB0.out.trans ((hB5.trans (hB6.mono hB5.size)).mono HB0.out.size)⟩
  · have HE : Aside (M = false) := by rw [Aside, HQ.out, if_neg h7, if_neg h1, if_pos hE]
    have hEB : BN = !EN := by cases EN <;> cases BN <;> simp_all
    clear HQ he h7 h1 hE
    go_enter Tryz.func9, Tryz.ntmps9
    go_upto_region 1 with fail
    obtain ⟨W0, hW0⟩ : ∃ W0, W0 = (w.alloc (.cells #[.int .i8 x.op, .int .i64 x.proj, .bool x.inj, .int .u8 x.head, .int .i64 x.label, .int .u8 x.frm, .int .u8 x.tto, .slice sa sn sc] 31)).alloc (.cells #[.int .i8 y.op, .int .i64 y.proj, .bool y.inj, .int .u8 y.head, .int .i64 y.label, .int .u8 y.frm, .int .u8 y.tto, .slice ta tn tc] 31) := ⟨_, rfl⟩
    have hB0 : Below w.heap.size w W0 := by rw [hW0]; exact below_al (below_al (Below.refl _ _) (Nat.le_refl _) _) (by simp) _
    have HT : Aside (∀ W, Below W0.heap.size W0 W → (W.cell? ⟨w.heap.size, 0, none⟩ = some (.int .i8 x.op) ∧ W.cell? ⟨w.heap.size, 1, none⟩ = some (.int .i64 x.proj) ∧ W.cell? ⟨w.heap.size, 2, none⟩ = some (.bool x.inj) ∧ W.cell? ⟨w.heap.size, 3, none⟩ = some (.int .u8 x.head) ∧ W.cell? ⟨w.heap.size, 4, none⟩ = some (.int .i64 x.label) ∧ W.cell? ⟨w.heap.size, 5, none⟩ = some (.int .u8 x.frm) ∧ W.cell? ⟨w.heap.size, 6, none⟩ = some (.int .u8 x.tto) ∧ W.cell? ⟨w.heap.size, 7, none⟩ = some (.slice sa sn sc) ∧ W.cell? ⟨w.heap.size + 1, 0, none⟩ = some (.int .i8 y.op) ∧ W.cell? ⟨w.heap.size + 1, 1, none⟩ = some (.int .i64 y.proj) ∧ W.cell? ⟨w.heap.size + 1, 2, none⟩ = some (.bool y.inj) ∧ W.cell? ⟨w.heap.size + 1, 3, none⟩ = some (.int .u8 y.head) ∧ W.cell? ⟨w.heap.size + 1, 4, none⟩ = some (.int .i64 y.label) ∧ W.cell? ⟨w.heap.size + 1, 5, none⟩ = some (.int .u8 y.frm) ∧ W.cell? ⟨w.heap.size + 1, 6, none⟩ = some (.int .u8 y.tto) ∧ W.cell? ⟨w.heap.size + 1, 7, none⟩ = some (.slice ta tn tc))) := fun W h => by
      have e0 : ∀ o, W.cell? ⟨w.heap.size, o, none⟩ = W0.cell? ⟨w.heap.size, o, none⟩ := fun o => h.cell (p := ⟨w.heap.size, o, none⟩) (by rw [hW0]; simp; omega)
      have e1 : ∀ o, W.cell? ⟨w.heap.size + 1, o, none⟩ = W0.cell? ⟨w.heap.size + 1, o, none⟩ := fun o => h.cell (p := ⟨w.heap.size + 1, o, none⟩) (by rw [hW0]; simp)
      simp only [e0, e1]
      rw [hW0]; simp
    rw [← hW0]
    clear hW0
    obtain ⟨K1, hK1⟩ : ∃ K1, K1 = w.heap.size + 1 := ⟨_, rfl⟩
    rw [← hK1] at HT ⊢
    obtain ⟨K0, hK0⟩ : ∃ K0, K0 = w.heap.size := ⟨_, rfl⟩
    rw [← hK0] at HT
    rw [← hK0]
    have HB0 : Aside (Below w.heap.size w W0) := hB0
    clear hB0 hK0 hK1
    obtain ⟨s0, s1, s2, s3, s4, s5, s6, s7, t0, t1, t2, t3, t4, t5, t6, t7⟩ := HT.out W0 (Below.refl _ _)
    have hmix : Tryz.prog.follows .mixedOrders = true := by kernel_rfl
    have ceS : ∀ W, Below W0.heap.size W0 W → Calls Tryz.prog 25 #[tree x (.slice sa sn sc)] W fun e w' => e = .returned (.bool EN) ∧ Below W0.heap.size W0 w' := fun W hW => (ce W).mono (by rintro e w' ⟨rfl, h⟩; exact ⟨rfl, hW.trans (h.mono hW.size)⟩)
    have cbT : ∀ W, Below W0.heap.size W0 W → Calls Tryz.prog 26 #[tree y (.slice ta tn tc)] W fun e w' => e = .returned (.bool BN) ∧ Below W0.heap.size W0 w' := fun W hW => (cb W).mono (by rintro e w' ⟨rfl, h⟩; exact ⟨rfl, hW.trans (h.mono hW.size)⟩)
    go_upto_region 5 with fail
    clear s0 s1 s2 s3 s4 s5 s6 s7 t0 t1 t2 t3 t4 t5 t6 t7
    have x0 : ∀ z : Cls (fun W => Below W0.heap.size W0 W), z.w.cell? ⟨K0, 0, none⟩ = some (.int .i8 x.op) := fun z => (HT.out z.w z.h).1
    have x1 : ∀ z : Cls (fun W => Below W0.heap.size W0 W), z.w.cell? ⟨K0, 1, none⟩ = some (.int .i64 x.proj) := fun z => (HT.out z.w z.h).2.1
    have x2 : ∀ z : Cls (fun W => Below W0.heap.size W0 W), z.w.cell? ⟨K0, 2, none⟩ = some (.bool x.inj) := fun z => (HT.out z.w z.h).2.2.1
    have x3 : ∀ z : Cls (fun W => Below W0.heap.size W0 W), z.w.cell? ⟨K0, 3, none⟩ = some (.int .u8 x.head) := fun z => (HT.out z.w z.h).2.2.2.1
    have x4 : ∀ z : Cls (fun W => Below W0.heap.size W0 W), z.w.cell? ⟨K0, 4, none⟩ = some (.int .i64 x.label) := fun z => (HT.out z.w z.h).2.2.2.2.1
    have x5 : ∀ z : Cls (fun W => Below W0.heap.size W0 W), z.w.cell? ⟨K0, 5, none⟩ = some (.int .u8 x.frm) := fun z => (HT.out z.w z.h).2.2.2.2.2.1
    have x6 : ∀ z : Cls (fun W => Below W0.heap.size W0 W), z.w.cell? ⟨K0, 6, none⟩ = some (.int .u8 x.tto) := fun z => (HT.out z.w z.h).2.2.2.2.2.2.1
    have x7 : ∀ z : Cls (fun W => Below W0.heap.size W0 W), z.w.cell? ⟨K0, 7, none⟩ = some (.slice sa sn sc) := fun z => (HT.out z.w z.h).2.2.2.2.2.2.2.1
    have x8 : ∀ z : Cls (fun W => Below W0.heap.size W0 W), z.w.cell? ⟨K1, 0, none⟩ = some (.int .i8 y.op) := fun z => (HT.out z.w z.h).2.2.2.2.2.2.2.2.1
    have x9 : ∀ z : Cls (fun W => Below W0.heap.size W0 W), z.w.cell? ⟨K1, 1, none⟩ = some (.int .i64 y.proj) := fun z => (HT.out z.w z.h).2.2.2.2.2.2.2.2.2.1
    have x10 : ∀ z : Cls (fun W => Below W0.heap.size W0 W), z.w.cell? ⟨K1, 2, none⟩ = some (.bool y.inj) := fun z => (HT.out z.w z.h).2.2.2.2.2.2.2.2.2.2.1
    have x11 : ∀ z : Cls (fun W => Below W0.heap.size W0 W), z.w.cell? ⟨K1, 3, none⟩ = some (.int .u8 y.head) := fun z => (HT.out z.w z.h).2.2.2.2.2.2.2.2.2.2.2.1
    have x12 : ∀ z : Cls (fun W => Below W0.heap.size W0 W), z.w.cell? ⟨K1, 4, none⟩ = some (.int .i64 y.label) := fun z => (HT.out z.w z.h).2.2.2.2.2.2.2.2.2.2.2.2.1
    have x13 : ∀ z : Cls (fun W => Below W0.heap.size W0 W), z.w.cell? ⟨K1, 5, none⟩ = some (.int .u8 y.frm) := fun z => (HT.out z.w z.h).2.2.2.2.2.2.2.2.2.2.2.2.2.1
    have x14 : ∀ z : Cls (fun W => Below W0.heap.size W0 W), z.w.cell? ⟨K1, 6, none⟩ = some (.int .u8 y.tto) := fun z => (HT.out z.w z.h).2.2.2.2.2.2.2.2.2.2.2.2.2.2.1
    have x15 : ∀ z : Cls (fun W => Below W0.heap.size W0 W), z.w.cell? ⟨K1, 7, none⟩ = some (.slice ta tn tc) := fun z => (HT.out z.w z.h).2.2.2.2.2.2.2.2.2.2.2.2.2.2.2
    have hne9 : Nonempty (Cls (fun W => Below W0.heap.size W0 W)) := ⟨⟨W0, Below.refl _ _⟩⟩
    refine wp_region_calm (fun W => Below W0.heap.size W0 W) hmix (by kernel_rfl) (Below.refl _ _).drew ?_
    repeat (go_big_quiet_step (first | (go_at_call 25; with_reducible exact calls_calm (ceS _ (Cls.h _))) | (go_at_call 26; with_reducible exact calls_calm (cbT _ (Cls.h _)))))
    refine wpQuiet_nil ?_
    rintro _ ⟨x9, rfl⟩
    have hB5 := x9.h
    generalize x9.w = w5 at *
    clear x0 x1 x2 x3 x4 x5 x6 x7 x8 x9 x10 x11 x12 x13 x14 x15 hne9
    obtain ⟨s0, s1, s2, s3, s4, s5, s6, s7, t0, t1, t2, t3, t4, t5, t6, t7⟩ := HT.out w5 hB5
    subst hEB
    cases EN
    all_goals
      go_wp2_with fail
      go_ret
      exact ⟨ret_b HE.out.symm, HB0.out.trans (hB5.mono HB0.out.size)⟩
end Go.Proofs.YtaaokecdmbmgbaaGreatDoor
