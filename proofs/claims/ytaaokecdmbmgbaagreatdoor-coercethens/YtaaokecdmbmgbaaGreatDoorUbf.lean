/- The document's Meets: its kids. The document's Meets: its kids. -/
import Derived.Test.YtaaokecdmbmgbaaGreatDoorUbe
import Derived.Test.YtaaokecdmbmgbaaGreatDoorUbd
import Derived.StillTailTactics
namespace Go.Proofs.YtaaokecdmbmgbaaGreatDoor
open Go.RowKit Cc
set_option maxRecDepth 100000
set_option linter.unusedSimpArgs false
set_option linter.unusedVariables false
set_option maxHeartbeats 6400000 in
theorem me_fn (s t a b c d : C) (g g' n sc tc : Nat) (ka0 kb0 kc0 kd0 : Option Addr) (ka1 ka2 kb1 kb2 kc1 kc2 kd1 kd2 : Nat) (w : World) (m1 m2 : Bool) (hn : n = 2)
    (h7 : (nod s).op ≠ 7) (h1 : (nod s).op ≠ 1) (g7 : (nod t).op ≠ 7) (g1 : (nod t).op ≠ 1) (hE : fin0 (nod s) = begN (nod t)) (hh : (nod s).head = (nod t).head)
    (h3 : (nod s).op = 3) (hg : g < w.heap.size) (hg' : g' < w.heap.size)
    (ha : At8 w g 0 (nod a) (.slice ka0 ka1 ka2)) (hb : At8 w g 8 (nod b) (.slice kb0 kb1 kb2)) (hc : At8 w g' 0 (nod c) (.slice kc0 kc1 kc2)) (hd : At8 w g' 8 (nod d) (.slice kd0 kd1 kd2))
    (hM1 : ∀ W, Below w.heap.size w W → Calls Tryz.prog 9 #[tree (nod c) (.slice kc0 kc1 kc2), tree (nod a) (.slice ka0 ka1 ka2)] W fun e w' => e = .returned (.bool m1) ∧ Below W.heap.size W w')
    (hM2 : ∀ W, Below w.heap.size w W → Calls Tryz.prog 9 #[tree (nod b) (.slice kb0 kb1 kb2), tree (nod d) (.slice kd0 kd1 kd2)] W fun e w' => e = .returned (.bool m2) ∧ Below W.heap.size W w') :
    Calls Tryz.prog 9 #[tree (nod s) (.slice (some ⟨g, 0, none⟩) n sc), tree (nod t) (.slice (some ⟨g', 0, none⟩) n tc)] w fun e w' => e = .returned (.bool (m1 && m2)) ∧ Below w.heap.size w w' := by
  subst hn
  have ce := dends_any s (some ⟨g, 0, none⟩) 2 sc
  have cb := dbegins_any t (some ⟨g', 0, none⟩) 2 tc
  rw [← begN_nod] at cb
  rw [show ((decide ((nod s).op = 1) || (nod s).inj) = fin0 (nod s)) from rfl] at ce
  obtain ⟨EN, hEN⟩ : ∃ EN, EN = fin0 (nod s) := ⟨_, rfl⟩
  obtain ⟨BN, hBN⟩ : ∃ BN, BN = begN (nod t) := ⟨_, rfl⟩
  rw [← hEN] at ce hE
  rw [← hBN] at cb hE
  clear hEN hBN
  generalize nod s = x at *
  generalize nod t = y at *
  have hs7' : (x.op == 7) = false := by simpa using h7
  have hs1' : (x.op == 1) = false := by simpa using h1
  have ht7' : (y.op == 7) = false := by simpa using g7
  have ht1' : (y.op == 1) = false := by simpa using g1
  have hh' : (x.head != y.head) = false := by simpa using hh
  have hs3' : (x.op == 3) = true := by simpa using h3
  generalize nod a = xa at *
  generalize nod b = xb at *
  generalize nod c = xc at *
  generalize nod d = xd at *
  have HCM1 : Aside (∀ W, Below w.heap.size w W → Calls Tryz.prog 9 #[tree xc (.slice kc0 kc1 kc2), tree xa (.slice ka0 ka1 ka2)] W fun e w' => e = .returned (.bool m1) ∧ Below W.heap.size W w') := hM1
  have HCM2 : Aside (∀ W, Below w.heap.size w W → Calls Tryz.prog 9 #[tree xb (.slice kb0 kb1 kb2), tree xd (.slice kd0 kd1 kd2)] W fun e w' => e = .returned (.bool m2) ∧ Below W.heap.size W w') := hM2
  have HA : Aside (At8 w g 0 xa (.slice ka0 ka1 ka2)) := ha
  have HB : Aside (At8 w g 8 xb (.slice kb0 kb1 kb2)) := hb
  have HC : Aside (At8 w g' 0 xc (.slice kc0 kc1 kc2)) := hc
  have HD : Aside (At8 w g' 8 xd (.slice kd0 kd1 kd2)) := hd
  clear h7 h1 g7 g1 hh h3 hM1 hM2 ha hb hc hd
  go_enter Tryz.func9, Tryz.ntmps9
  go_upto_region 1 with fail
  obtain ⟨W0, hW0⟩ : ∃ W0, W0 = (w.alloc (.cells #[.int .i8 x.op, .int .i64 x.proj, .bool x.inj, .int .u8 x.head, .int .i64 x.label, .int .u8 x.frm, .int .u8 x.tto, .slice (some ⟨g, 0, none⟩) 2 sc] 31)).alloc (.cells #[.int .i8 y.op, .int .i64 y.proj, .bool y.inj, .int .u8 y.head, .int .i64 y.label, .int .u8 y.frm, .int .u8 y.tto, .slice (some ⟨g', 0, none⟩) 2 tc] 31) := ⟨_, rfl⟩
  have hB0 : Below w.heap.size w W0 := by rw [hW0]; exact below_al (below_al (Below.refl _ _) (Nat.le_refl _) _) (by simp) _
  have HT : Aside (∀ W, Below W0.heap.size W0 W → (W.cell? ⟨w.heap.size, 0, none⟩ = some (.int .i8 x.op) ∧ W.cell? ⟨w.heap.size, 1, none⟩ = some (.int .i64 x.proj) ∧ W.cell? ⟨w.heap.size, 2, none⟩ = some (.bool x.inj) ∧ W.cell? ⟨w.heap.size, 3, none⟩ = some (.int .u8 x.head) ∧ W.cell? ⟨w.heap.size, 4, none⟩ = some (.int .i64 x.label) ∧ W.cell? ⟨w.heap.size, 5, none⟩ = some (.int .u8 x.frm) ∧ W.cell? ⟨w.heap.size, 6, none⟩ = some (.int .u8 x.tto) ∧ W.cell? ⟨w.heap.size, 7, none⟩ = some (.slice (some ⟨g, 0, none⟩) 2 sc) ∧ W.cell? ⟨w.heap.size + 1, 0, none⟩ = some (.int .i8 y.op) ∧ W.cell? ⟨w.heap.size + 1, 1, none⟩ = some (.int .i64 y.proj) ∧ W.cell? ⟨w.heap.size + 1, 2, none⟩ = some (.bool y.inj) ∧ W.cell? ⟨w.heap.size + 1, 3, none⟩ = some (.int .u8 y.head) ∧ W.cell? ⟨w.heap.size + 1, 4, none⟩ = some (.int .i64 y.label) ∧ W.cell? ⟨w.heap.size + 1, 5, none⟩ = some (.int .u8 y.frm) ∧ W.cell? ⟨w.heap.size + 1, 6, none⟩ = some (.int .u8 y.tto) ∧ W.cell? ⟨w.heap.size + 1, 7, none⟩ = some (.slice (some ⟨g', 0, none⟩) 2 tc))) := fun W h => by
    have e0 : ∀ o, W.cell? ⟨w.heap.size, o, none⟩ = W0.cell? ⟨w.heap.size, o, none⟩ := fun o => h.cell (p := ⟨w.heap.size, o, none⟩) (by rw [hW0]; simp; omega)
    have e1 : ∀ o, W.cell? ⟨w.heap.size + 1, o, none⟩ = W0.cell? ⟨w.heap.size + 1, o, none⟩ := fun o => h.cell (p := ⟨w.heap.size + 1, o, none⟩) (by rw [hW0]; simp)
    simp only [e0, e1]
    rw [hW0]; simp
  rw [← hW0]
  clear hW0
  obtain ⟨K1, hK1⟩ : ∃ K1, K1 = w.heap.size + 1 := ⟨_, rfl⟩
  rw [← hK1] at HT ⊢
  obtain ⟨K0, hK0⟩ : ∃ K0, K0 = w.heap.size := ⟨_, rfl⟩
  rw [← hK0] at HT
  rw [← hK0]
  have HB0 : Aside (Below w.heap.size w W0) := hB0
  clear hB0 hK0 hK1
  obtain ⟨s0, s1, s2, s3, s4, s5, s6, s7, t0, t1, t2, t3, t4, t5, t6, t7⟩ := HT.out W0 (Below.refl _ _)
  have KA : Aside (∀ W, Below W0.heap.size W0 W → At8 W g 0 xa (.slice ka0 ka1 ka2)) := fun W hW => by
    have hW9 := HB0.out.trans (hW.mono HB0.out.size)
    have e : ∀ o, W.cell? ⟨g, o, none⟩ = w.cell? ⟨g, o, none⟩ := fun o => hW9.cell (p := ⟨g, o, none⟩) hg
    have h0 := HA.out
    unfold At8 at h0 ⊢
    simp only [e]
    exact h0
  have KB : Aside (∀ W, Below W0.heap.size W0 W → At8 W g 8 xb (.slice kb0 kb1 kb2)) := fun W hW => by
    have hW9 := HB0.out.trans (hW.mono HB0.out.size)
    have e : ∀ o, W.cell? ⟨g, o, none⟩ = w.cell? ⟨g, o, none⟩ := fun o => hW9.cell (p := ⟨g, o, none⟩) hg
    have h0 := HB.out
    unfold At8 at h0 ⊢
    simp only [e]
    exact h0
  have KC : Aside (∀ W, Below W0.heap.size W0 W → At8 W g' 0 xc (.slice kc0 kc1 kc2)) := fun W hW => by
    have hW9 := HB0.out.trans (hW.mono HB0.out.size)
    have e : ∀ o, W.cell? ⟨g', o, none⟩ = w.cell? ⟨g', o, none⟩ := fun o => hW9.cell (p := ⟨g', o, none⟩) hg'
    have h0 := HC.out
    unfold At8 at h0 ⊢
    simp only [e]
    exact h0
  have KD : Aside (∀ W, Below W0.heap.size W0 W → At8 W g' 8 xd (.slice kd0 kd1 kd2)) := fun W hW => by
    have hW9 := HB0.out.trans (hW.mono HB0.out.size)
    have e : ∀ o, W.cell? ⟨g', o, none⟩ = w.cell? ⟨g', o, none⟩ := fun o => hW9.cell (p := ⟨g', o, none⟩) hg'
    have h0 := HD.out
    unfold At8 at h0 ⊢
    simp only [e]
    exact h0
  clear HA HB HC HD
  have M1 : ∀ W, Below W0.heap.size W0 W → Calls Tryz.prog 9 #[tree xc (.slice kc0 kc1 kc2), tree xa (.slice ka0 ka1 ka2)] W fun e w' => e = .returned (.bool m1) ∧ Below W0.heap.size W0 w' := fun W hW =>
    (HCM1.out W (HB0.out.trans (hW.mono HB0.out.size))).mono (by rintro e w' ⟨rfl, h⟩; exact ⟨rfl, hW.trans (h.mono hW.size)⟩)
  have M2 : ∀ W, Below W0.heap.size W0 W → Calls Tryz.prog 9 #[tree xb (.slice kb0 kb1 kb2), tree xd (.slice kd0 kd1 kd2)] W fun e w' => e = .returned (.bool m2) ∧ Below W0.heap.size W0 w' := fun W hW =>
    (HCM2.out W (HB0.out.trans (hW.mono HB0.out.size))).mono (by rintro e w' ⟨rfl, h⟩; exact ⟨rfl, hW.trans (h.mono hW.size)⟩)
  clear HCM1 HCM2
  have hmix : Tryz.prog.follows .mixedOrders = true := by kernel_rfl
  have ceS : ∀ W, Below W0.heap.size W0 W → Calls Tryz.prog 25 #[tree x (.slice (some ⟨g, 0, none⟩) 2 sc)] W fun e w' => e = .returned (.bool EN) ∧ Below W0.heap.size W0 w' := fun W hW => (ce W).mono (by rintro e w' ⟨rfl, h⟩; exact ⟨rfl, hW.trans (h.mono hW.size)⟩)
  have cbT : ∀ W, Below W0.heap.size W0 W → Calls Tryz.prog 26 #[tree y (.slice (some ⟨g', 0, none⟩) 2 tc)] W fun e w' => e = .returned (.bool BN) ∧ Below W0.heap.size W0 w' := fun W hW => (cb W).mono (by rintro e w' ⟨rfl, h⟩; exact ⟨rfl, hW.trans (h.mono hW.size)⟩)
  go_upto_region 5 with fail
  clear s0 s1 s2 s3 s4 s5 s6 s7 t0 t1 t2 t3 t4 t5 t6 t7
  have x0 : ∀ z : Cls (fun W => Below W0.heap.size W0 W), z.w.cell? ⟨K0, 0, none⟩ = some (.int .i8 x.op) := fun z => (HT.out z.w z.h).1
  have x1 : ∀ z : Cls (fun W => Below W0.heap.size W0 W), z.w.cell? ⟨K0, 1, none⟩ = some (.int .i64 x.proj) := fun z => (HT.out z.w z.h).2.1
  have x2 : ∀ z : Cls (fun W => Below W0.heap.size W0 W), z.w.cell? ⟨K0, 2, none⟩ = some (.bool x.inj) := fun z => (HT.out z.w z.h).2.2.1
  have x3 : ∀ z : Cls (fun W => Below W0.heap.size W0 W), z.w.cell? ⟨K0, 3, none⟩ = some (.int .u8 x.head) := fun z => (HT.out z.w z.h).2.2.2.1
  have x4 : ∀ z : Cls (fun W => Below W0.heap.size W0 W), z.w.cell? ⟨K0, 4, none⟩ = some (.int .i64 x.label) := fun z => (HT.out z.w z.h).2.2.2.2.1
  have x5 : ∀ z : Cls (fun W => Below W0.heap.size W0 W), z.w.cell? ⟨K0, 5, none⟩ = some (.int .u8 x.frm) := fun z => (HT.out z.w z.h).2.2.2.2.2.1
  have x6 : ∀ z : Cls (fun W => Below W0.heap.size W0 W), z.w.cell? ⟨K0, 6, none⟩ = some (.int .u8 x.tto) := fun z => (HT.out z.w z.h).2.2.2.2.2.2.1
  have x7 : ∀ z : Cls (fun W => Below W0.heap.size W0 W), z.w.cell? ⟨K0, 7, none⟩ = some (.slice (some ⟨g, 0, none⟩) 2 sc) := fun z => (HT.out z.w z.h).2.2.2.2.2.2.2.1
  have x8 : ∀ z : Cls (fun W => Below W0.heap.size W0 W), z.w.cell? ⟨K1, 0, none⟩ = some (.int .i8 y.op) := fun z => (HT.out z.w z.h).2.2.2.2.2.2.2.2.1
  have x9 : ∀ z : Cls (fun W => Below W0.heap.size W0 W), z.w.cell? ⟨K1, 1, none⟩ = some (.int .i64 y.proj) := fun z => (HT.out z.w z.h).2.2.2.2.2.2.2.2.2.1
  have x10 : ∀ z : Cls (fun W => Below W0.heap.size W0 W), z.w.cell? ⟨K1, 2, none⟩ = some (.bool y.inj) := fun z => (HT.out z.w z.h).2.2.2.2.2.2.2.2.2.2.1
  have x11 : ∀ z : Cls (fun W => Below W0.heap.size W0 W), z.w.cell? ⟨K1, 3, none⟩ = some (.int .u8 y.head) := fun z => (HT.out z.w z.h).2.2.2.2.2.2.2.2.2.2.2.1
  have x12 : ∀ z : Cls (fun W => Below W0.heap.size W0 W), z.w.cell? ⟨K1, 4, none⟩ = some (.int .i64 y.label) := fun z => (HT.out z.w z.h).2.2.2.2.2.2.2.2.2.2.2.2.1
  have x13 : ∀ z : Cls (fun W => Below W0.heap.size W0 W), z.w.cell? ⟨K1, 5, none⟩ = some (.int .u8 y.frm) := fun z => (HT.out z.w z.h).2.2.2.2.2.2.2.2.2.2.2.2.2.1
  have x14 : ∀ z : Cls (fun W => Below W0.heap.size W0 W), z.w.cell? ⟨K1, 6, none⟩ = some (.int .u8 y.tto) := fun z => (HT.out z.w z.h).2.2.2.2.2.2.2.2.2.2.2.2.2.2.1
  have x15 : ∀ z : Cls (fun W => Below W0.heap.size W0 W), z.w.cell? ⟨K1, 7, none⟩ = some (.slice (some ⟨g', 0, none⟩) 2 tc) := fun z => (HT.out z.w z.h).2.2.2.2.2.2.2.2.2.2.2.2.2.2.2
  have hne9 : Nonempty (Cls (fun W => Below W0.heap.size W0 W)) := ⟨⟨W0, Below.refl _ _⟩⟩
  refine wp_region_calm (fun W => Below W0.heap.size W0 W) hmix (by kernel_rfl) (Below.refl _ _).drew ?_
  repeat (go_big_quiet_step (first | (go_at_call 25; with_reducible exact calls_calm (ceS _ (Cls.h _))) | (go_at_call 26; with_reducible exact calls_calm (cbT _ (Cls.h _)))))
  refine wpQuiet_nil ?_
  rintro _ ⟨x9, rfl⟩
  have hB5 := x9.h
  generalize x9.w = w5 at *
  clear x0 x1 x2 x3 x4 x5 x6 x7 x8 x9 x10 x11 x12 x13 x14 x15 hne9
  obtain ⟨s0, s1, s2, s3, s4, s5, s6, s7, t0, t1, t2, t3, t4, t5, t6, t7⟩ := HT.out w5 hB5
  clear cbT ceS ce cb
  subst hE
  cases EN
  all_goals
    go_upto_region 13 with fail
    clear s0 s1 s2 s3 s4 s5 s6 s7 t0 t1 t2 t3 t4 t5 t6 t7
    have ya0 : ∀ z : Cls (fun W => Below W0.heap.size W0 W), z.w.cell? ⟨g, 0, none⟩ = some (.int .i8 xa.op) := fun z => (KA.out z.w z.h).1
    have ya1 : ∀ z : Cls (fun W => Below W0.heap.size W0 W), z.w.cell? ⟨g, 1, none⟩ = some (.int .i64 xa.proj) := fun z => (KA.out z.w z.h).2.1
    have ya2 : ∀ z : Cls (fun W => Below W0.heap.size W0 W), z.w.cell? ⟨g, 2, none⟩ = some (.bool xa.inj) := fun z => (KA.out z.w z.h).2.2.1
    have ya3 : ∀ z : Cls (fun W => Below W0.heap.size W0 W), z.w.cell? ⟨g, 3, none⟩ = some (.int .u8 xa.head) := fun z => (KA.out z.w z.h).2.2.2.1
    have ya4 : ∀ z : Cls (fun W => Below W0.heap.size W0 W), z.w.cell? ⟨g, 4, none⟩ = some (.int .i64 xa.label) := fun z => (KA.out z.w z.h).2.2.2.2.1
    have ya5 : ∀ z : Cls (fun W => Below W0.heap.size W0 W), z.w.cell? ⟨g, 5, none⟩ = some (.int .u8 xa.frm) := fun z => (KA.out z.w z.h).2.2.2.2.2.1
    have ya6 : ∀ z : Cls (fun W => Below W0.heap.size W0 W), z.w.cell? ⟨g, 6, none⟩ = some (.int .u8 xa.tto) := fun z => (KA.out z.w z.h).2.2.2.2.2.2.1
    have ya7 : ∀ z : Cls (fun W => Below W0.heap.size W0 W), z.w.cell? ⟨g, 7, none⟩ = some (.slice ka0 ka1 ka2) := fun z => (KA.out z.w z.h).2.2.2.2.2.2.2
    have yb0 : ∀ z : Cls (fun W => Below W0.heap.size W0 W), z.w.cell? ⟨g, 8, none⟩ = some (.int .i8 xb.op) := fun z => (KB.out z.w z.h).1
    have yb1 : ∀ z : Cls (fun W => Below W0.heap.size W0 W), z.w.cell? ⟨g, 9, none⟩ = some (.int .i64 xb.proj) := fun z => (KB.out z.w z.h).2.1
    have yb2 : ∀ z : Cls (fun W => Below W0.heap.size W0 W), z.w.cell? ⟨g, 10, none⟩ = some (.bool xb.inj) := fun z => (KB.out z.w z.h).2.2.1
    have yb3 : ∀ z : Cls (fun W => Below W0.heap.size W0 W), z.w.cell? ⟨g, 11, none⟩ = some (.int .u8 xb.head) := fun z => (KB.out z.w z.h).2.2.2.1
    have yb4 : ∀ z : Cls (fun W => Below W0.heap.size W0 W), z.w.cell? ⟨g, 12, none⟩ = some (.int .i64 xb.label) := fun z => (KB.out z.w z.h).2.2.2.2.1
    have yb5 : ∀ z : Cls (fun W => Below W0.heap.size W0 W), z.w.cell? ⟨g, 13, none⟩ = some (.int .u8 xb.frm) := fun z => (KB.out z.w z.h).2.2.2.2.2.1
    have yb6 : ∀ z : Cls (fun W => Below W0.heap.size W0 W), z.w.cell? ⟨g, 14, none⟩ = some (.int .u8 xb.tto) := fun z => (KB.out z.w z.h).2.2.2.2.2.2.1
    have yb7 : ∀ z : Cls (fun W => Below W0.heap.size W0 W), z.w.cell? ⟨g, 15, none⟩ = some (.slice kb0 kb1 kb2) := fun z => (KB.out z.w z.h).2.2.2.2.2.2.2
    have yc0 : ∀ z : Cls (fun W => Below W0.heap.size W0 W), z.w.cell? ⟨g', 0, none⟩ = some (.int .i8 xc.op) := fun z => (KC.out z.w z.h).1
    have yc1 : ∀ z : Cls (fun W => Below W0.heap.size W0 W), z.w.cell? ⟨g', 1, none⟩ = some (.int .i64 xc.proj) := fun z => (KC.out z.w z.h).2.1
    have yc2 : ∀ z : Cls (fun W => Below W0.heap.size W0 W), z.w.cell? ⟨g', 2, none⟩ = some (.bool xc.inj) := fun z => (KC.out z.w z.h).2.2.1
    have yc3 : ∀ z : Cls (fun W => Below W0.heap.size W0 W), z.w.cell? ⟨g', 3, none⟩ = some (.int .u8 xc.head) := fun z => (KC.out z.w z.h).2.2.2.1
    have yc4 : ∀ z : Cls (fun W => Below W0.heap.size W0 W), z.w.cell? ⟨g', 4, none⟩ = some (.int .i64 xc.label) := fun z => (KC.out z.w z.h).2.2.2.2.1
    have yc5 : ∀ z : Cls (fun W => Below W0.heap.size W0 W), z.w.cell? ⟨g', 5, none⟩ = some (.int .u8 xc.frm) := fun z => (KC.out z.w z.h).2.2.2.2.2.1
    have yc6 : ∀ z : Cls (fun W => Below W0.heap.size W0 W), z.w.cell? ⟨g', 6, none⟩ = some (.int .u8 xc.tto) := fun z => (KC.out z.w z.h).2.2.2.2.2.2.1
    have yc7 : ∀ z : Cls (fun W => Below W0.heap.size W0 W), z.w.cell? ⟨g', 7, none⟩ = some (.slice kc0 kc1 kc2) := fun z => (KC.out z.w z.h).2.2.2.2.2.2.2
    have yd0 : ∀ z : Cls (fun W => Below W0.heap.size W0 W), z.w.cell? ⟨g', 8, none⟩ = some (.int .i8 xd.op) := fun z => (KD.out z.w z.h).1
    have yd1 : ∀ z : Cls (fun W => Below W0.heap.size W0 W), z.w.cell? ⟨g', 9, none⟩ = some (.int .i64 xd.proj) := fun z => (KD.out z.w z.h).2.1
    have yd2 : ∀ z : Cls (fun W => Below W0.heap.size W0 W), z.w.cell? ⟨g', 10, none⟩ = some (.bool xd.inj) := fun z => (KD.out z.w z.h).2.2.1
    have yd3 : ∀ z : Cls (fun W => Below W0.heap.size W0 W), z.w.cell? ⟨g', 11, none⟩ = some (.int .u8 xd.head) := fun z => (KD.out z.w z.h).2.2.2.1
    have yd4 : ∀ z : Cls (fun W => Below W0.heap.size W0 W), z.w.cell? ⟨g', 12, none⟩ = some (.int .i64 xd.label) := fun z => (KD.out z.w z.h).2.2.2.2.1
    have yd5 : ∀ z : Cls (fun W => Below W0.heap.size W0 W), z.w.cell? ⟨g', 13, none⟩ = some (.int .u8 xd.frm) := fun z => (KD.out z.w z.h).2.2.2.2.2.1
    have yd6 : ∀ z : Cls (fun W => Below W0.heap.size W0 W), z.w.cell? ⟨g', 14, none⟩ = some (.int .u8 xd.tto) := fun z => (KD.out z.w z.h).2.2.2.2.2.2.1
    have yd7 : ∀ z : Cls (fun W => Below W0.heap.size W0 W), z.w.cell? ⟨g', 15, none⟩ = some (.slice kd0 kd1 kd2) := fun z => (KD.out z.w z.h).2.2.2.2.2.2.2
    have x7 : ∀ z : Cls (fun W => Below W0.heap.size W0 W), z.w.cell? ⟨K0, 7, none⟩ = some (.slice (some ⟨g, 0, none⟩) 2 sc) := fun z => (HT.out z.w z.h).2.2.2.2.2.2.2.1
    have x15 : ∀ z : Cls (fun W => Below W0.heap.size W0 W), z.w.cell? ⟨K1, 7, none⟩ = some (.slice (some ⟨g', 0, none⟩) 2 tc) := fun z => (HT.out z.w z.h).2.2.2.2.2.2.2.2.2.2.2.2.2.2.2
    have hne9 : Nonempty (Cls (fun W => Below W0.heap.size W0 W)) := ⟨⟨W0, Below.refl _ _⟩⟩
    cases m1
    all_goals
      refine wp_region_calm (fun W => Below W0.heap.size W0 W) hmix (by kernel_rfl) hB5.drew ?_
      repeat (go_big_quiet_step (first | (go_at_call 9; with_reducible exact calls_calm (M1 _ (Cls.h _))) | (go_at_call 9; with_reducible exact calls_calm (M2 _ (Cls.h _)))))
      refine wpQuiet_nil ?_
      rintro _ ⟨x9, rfl⟩
      have hB6 := x9.h
      generalize x9.w = w6 at *
      clear x7 x15 ya0 ya1 ya2 ya3 ya4 ya5 ya6 ya7 yb0 yb1 yb2 yb3 yb4 yb5 yb6 yb7 yc0 yc1 yc2 yc3 yc4 yc5 yc6 yc7 yd0 yd1 yd2 yd3 yd4 yd5 yd6 yd7 hne9
      go_wp2_with fail
      go_ret
      exact ⟨ret_b (by first | rfl | simp), HB0.out.trans (hB6.mono HB0.out.size)⟩
end Go.Proofs.YtaaokecdmbmgbaaGreatDoor
namespace Go.Proofs.YtaaokecdmbmgbaaGreatDoor
open Go.RowKit Cc
set_option maxRecDepth 100000
set_option linter.unusedSimpArgs false
set_option linter.unusedVariables false
set_option maxHeartbeats 6400000 in
theorem me_bx (s t a b c d : C) (g g' n sc tc : Nat) (ka0 kb0 kc0 kd0 : Option Addr) (ka1 ka2 kb1 kb2 kc1 kc2 kd1 kd2 : Nat) (w : World) (m1 m2 : Bool) (hn : n = 2)
    (h7 : (nod s).op ≠ 7) (h1 : (nod s).op ≠ 1) (g7 : (nod t).op ≠ 7) (g1 : (nod t).op ≠ 1) (hE : fin0 (nod s) = begN (nod t)) (hh : (nod s).head = (nod t).head)
    (h3 : (nod s).op = 6) (hg : g < w.heap.size) (hg' : g' < w.heap.size)
    (ha : At8 w g 0 (nod a) (.slice ka0 ka1 ka2)) (hb : At8 w g 8 (nod b) (.slice kb0 kb1 kb2)) (hc : At8 w g' 0 (nod c) (.slice kc0 kc1 kc2)) (hd : At8 w g' 8 (nod d) (.slice kd0 kd1 kd2))
    (hM1 : ∀ W, Below w.heap.size w W → Calls Tryz.prog 9 #[tree (nod a) (.slice ka0 ka1 ka2), tree (nod c) (.slice kc0 kc1 kc2)] W fun e w' => e = .returned (.bool m1) ∧ Below W.heap.size W w')
    (hM2 : ∀ W, Below w.heap.size w W → Calls Tryz.prog 9 #[tree (nod d) (.slice kd0 kd1 kd2), tree (nod b) (.slice kb0 kb1 kb2)] W fun e w' => e = .returned (.bool m2) ∧ Below W.heap.size W w') :
    Calls Tryz.prog 9 #[tree (nod s) (.slice (some ⟨g, 0, none⟩) n sc), tree (nod t) (.slice (some ⟨g', 0, none⟩) n tc)] w fun e w' => e = .returned (.bool (m1 && m2)) ∧ Below w.heap.size w w' := by
  subst hn
  have ce := dends_any s (some ⟨g, 0, none⟩) 2 sc
  have cb := dbegins_any t (some ⟨g', 0, none⟩) 2 tc
  rw [← begN_nod] at cb
  rw [show ((decide ((nod s).op = 1) || (nod s).inj) = fin0 (nod s)) from rfl] at ce
  obtain ⟨EN, hEN⟩ : ∃ EN, EN = fin0 (nod s) := ⟨_, rfl⟩
  obtain ⟨BN, hBN⟩ : ∃ BN, BN = begN (nod t) := ⟨_, rfl⟩
  rw [← hEN] at ce hE
  rw [← hBN] at cb hE
  clear hEN hBN
  generalize nod s = x at *
  generalize nod t = y at *
  have hs7' : (x.op == 7) = false := by simpa using h7
  have hs1' : (x.op == 1) = false := by simpa using h1
  have ht7' : (y.op == 7) = false := by simpa using g7
  have ht1' : (y.op == 1) = false := by simpa using g1
  have hh' : (x.head != y.head) = false := by simpa using hh
  have hs3' : (x.op == 6) = true := by simpa using h3
  have hs2' : (x.op == 3) = false := by rw [h3]; rfl
  generalize nod a = xa at *
  generalize nod b = xb at *
  generalize nod c = xc at *
  generalize nod d = xd at *
  have HCM1 : Aside (∀ W, Below w.heap.size w W → Calls Tryz.prog 9 #[tree xa (.slice ka0 ka1 ka2), tree xc (.slice kc0 kc1 kc2)] W fun e w' => e = .returned (.bool m1) ∧ Below W.heap.size W w') := hM1
  have HCM2 : Aside (∀ W, Below w.heap.size w W → Calls Tryz.prog 9 #[tree xd (.slice kd0 kd1 kd2), tree xb (.slice kb0 kb1 kb2)] W fun e w' => e = .returned (.bool m2) ∧ Below W.heap.size W w') := hM2
  have HA : Aside (At8 w g 0 xa (.slice ka0 ka1 ka2)) := ha
  have HB : Aside (At8 w g 8 xb (.slice kb0 kb1 kb2)) := hb
  have HC : Aside (At8 w g' 0 xc (.slice kc0 kc1 kc2)) := hc
  have HD : Aside (At8 w g' 8 xd (.slice kd0 kd1 kd2)) := hd
  clear h7 h1 g7 g1 hh h3 hM1 hM2 ha hb hc hd
  go_enter Tryz.func9, Tryz.ntmps9
  go_upto_region 1 with fail
  obtain ⟨W0, hW0⟩ : ∃ W0, W0 = (w.alloc (.cells #[.int .i8 x.op, .int .i64 x.proj, .bool x.inj, .int .u8 x.head, .int .i64 x.label, .int .u8 x.frm, .int .u8 x.tto, .slice (some ⟨g, 0, none⟩) 2 sc] 31)).alloc (.cells #[.int .i8 y.op, .int .i64 y.proj, .bool y.inj, .int .u8 y.head, .int .i64 y.label, .int .u8 y.frm, .int .u8 y.tto, .slice (some ⟨g', 0, none⟩) 2 tc] 31) := ⟨_, rfl⟩
  have hB0 : Below w.heap.size w W0 := by rw [hW0]; exact below_al (below_al (Below.refl _ _) (Nat.le_refl _) _) (by simp) _
  have HT : Aside (∀ W, Below W0.heap.size W0 W → (W.cell? ⟨w.heap.size, 0, none⟩ = some (.int .i8 x.op) ∧ W.cell? ⟨w.heap.size, 1, none⟩ = some (.int .i64 x.proj) ∧ W.cell? ⟨w.heap.size, 2, none⟩ = some (.bool x.inj) ∧ W.cell? ⟨w.heap.size, 3, none⟩ = some (.int .u8 x.head) ∧ W.cell? ⟨w.heap.size, 4, none⟩ = some (.int .i64 x.label) ∧ W.cell? ⟨w.heap.size, 5, none⟩ = some (.int .u8 x.frm) ∧ W.cell? ⟨w.heap.size, 6, none⟩ = some (.int .u8 x.tto) ∧ W.cell? ⟨w.heap.size, 7, none⟩ = some (.slice (some ⟨g, 0, none⟩) 2 sc) ∧ W.cell? ⟨w.heap.size + 1, 0, none⟩ = some (.int .i8 y.op) ∧ W.cell? ⟨w.heap.size + 1, 1, none⟩ = some (.int .i64 y.proj) ∧ W.cell? ⟨w.heap.size + 1, 2, none⟩ = some (.bool y.inj) ∧ W.cell? ⟨w.heap.size + 1, 3, none⟩ = some (.int .u8 y.head) ∧ W.cell? ⟨w.heap.size + 1, 4, none⟩ = some (.int .i64 y.label) ∧ W.cell? ⟨w.heap.size + 1, 5, none⟩ = some (.int .u8 y.frm) ∧ W.cell? ⟨w.heap.size + 1, 6, none⟩ = some (.int .u8 y.tto) ∧ W.cell? ⟨w.heap.size + 1, 7, none⟩ = some (.slice (some ⟨g', 0, none⟩) 2 tc))) := fun W h => by
    have e0 : ∀ o, W.cell? ⟨w.heap.size, o, none⟩ = W0.cell? ⟨w.heap.size, o, none⟩ := fun o => h.cell (p := ⟨w.heap.size, o, none⟩) (by rw [hW0]; simp; omega)
    have e1 : ∀ o, W.cell? ⟨w.heap.size + 1, o, none⟩ = W0.cell? ⟨w.heap.size + 1, o, none⟩ := fun o => h.cell (p := ⟨w.heap.size + 1, o, none⟩) (by rw [hW0]; simp)
    simp only [e0, e1]
    rw [hW0]; simp
  rw [← hW0]
  clear hW0
  obtain ⟨K1, hK1⟩ : ∃ K1, K1 = w.heap.size + 1 := ⟨_, rfl⟩
  rw [← hK1] at HT ⊢
  obtain ⟨K0, hK0⟩ : ∃ K0, K0 = w.heap.size := ⟨_, rfl⟩
  rw [← hK0] at HT
  rw [← hK0]
  have HB0 : Aside (Below w.heap.size w W0) := hB0
  clear hB0 hK0 hK1
  obtain ⟨s0, s1, s2, s3, s4, s5, s6, s7, t0, t1, t2, t3, t4, t5, t6, t7⟩ := HT.out W0 (Below.refl _ _)
  have KA : Aside (∀ W, Below W0.heap.size W0 W → At8 W g 0 xa (.slice ka0 ka1 ka2)) := fun W hW => by
    have hW9 := HB0.out.trans (hW.mono HB0.out.size)
    have e : ∀ o, W.cell? ⟨g, o, none⟩ = w.cell? ⟨g, o, none⟩ := fun o => hW9.cell (p := ⟨g, o, none⟩) hg
    have h0 := HA.out
    unfold At8 at h0 ⊢
    simp only [e]
    exact h0
  have KB : Aside (∀ W, Below W0.heap.size W0 W → At8 W g 8 xb (.slice kb0 kb1 kb2)) := fun W hW => by
    have hW9 := HB0.out.trans (hW.mono HB0.out.size)
    have e : ∀ o, W.cell? ⟨g, o, none⟩ = w.cell? ⟨g, o, none⟩ := fun o => hW9.cell (p := ⟨g, o, none⟩) hg
    have h0 := HB.out
    unfold At8 at h0 ⊢
    simp only [e]
    exact h0
  have KC : Aside (∀ W, Below W0.heap.size W0 W → At8 W g' 0 xc (.slice kc0 kc1 kc2)) := fun W hW => by
    have hW9 := HB0.out.trans (hW.mono HB0.out.size)
    have e : ∀ o, W.cell? ⟨g', o, none⟩ = w.cell? ⟨g', o, none⟩ := fun o => hW9.cell (p := ⟨g', o, none⟩) hg'
    have h0 := HC.out
    unfold At8 at h0 ⊢
    simp only [e]
    exact h0
  have KD : Aside (∀ W, Below W0.heap.size W0 W → At8 W g' 8 xd (.slice kd0 kd1 kd2)) := fun W hW => by
    have hW9 := HB0.out.trans (hW.mono HB0.out.size)
    have e : ∀ o, W.cell? ⟨g', o, none⟩ = w.cell? ⟨g', o, none⟩ := fun o => hW9.cell (p := ⟨g', o, none⟩) hg'
    have h0 := HD.out
    unfold At8 at h0 ⊢
    simp only [e]
    exact h0
  clear HA HB HC HD
  have M1 : ∀ W, Below W0.heap.size W0 W → Calls Tryz.prog 9 #[tree xa (.slice ka0 ka1 ka2), tree xc (.slice kc0 kc1 kc2)] W fun e w' => e = .returned (.bool m1) ∧ Below W0.heap.size W0 w' := fun W hW =>
    (HCM1.out W (HB0.out.trans (hW.mono HB0.out.size))).mono (by rintro e w' ⟨rfl, h⟩; exact ⟨rfl, hW.trans (h.mono hW.size)⟩)
  have M2 : ∀ W, Below W0.heap.size W0 W → Calls Tryz.prog 9 #[tree xd (.slice kd0 kd1 kd2), tree xb (.slice kb0 kb1 kb2)] W fun e w' => e = .returned (.bool m2) ∧ Below W0.heap.size W0 w' := fun W hW =>
    (HCM2.out W (HB0.out.trans (hW.mono HB0.out.size))).mono (by rintro e w' ⟨rfl, h⟩; exact ⟨rfl, hW.trans (h.mono hW.size)⟩)
  clear HCM1 HCM2
  have hmix : Tryz.prog.follows .mixedOrders = true := by kernel_rfl
  have ceS : ∀ W, Below W0.heap.size W0 W → Calls Tryz.prog 25 #[tree x (.slice (some ⟨g, 0, none⟩) 2 sc)] W fun e w' => e = .returned (.bool EN) ∧ Below W0.heap.size W0 w' := fun W hW => (ce W).mono (by rintro e w' ⟨rfl, h⟩; exact ⟨rfl, hW.trans (h.mono hW.size)⟩)
  have cbT : ∀ W, Below W0.heap.size W0 W → Calls Tryz.prog 26 #[tree y (.slice (some ⟨g', 0, none⟩) 2 tc)] W fun e w' => e = .returned (.bool BN) ∧ Below W0.heap.size W0 w' := fun W hW => (cb W).mono (by rintro e w' ⟨rfl, h⟩; exact ⟨rfl, hW.trans (h.mono hW.size)⟩)
  go_upto_region 5 with fail
  clear s0 s1 s2 s3 s4 s5 s6 s7 t0 t1 t2 t3 t4 t5 t6 t7
  have x0 : ∀ z : Cls (fun W => Below W0.heap.size W0 W), z.w.cell? ⟨K0, 0, none⟩ = some (.int .i8 x.op) := fun z => (HT.out z.w z.h).1
  have x1 : ∀ z : Cls (fun W => Below W0.heap.size W0 W), z.w.cell? ⟨K0, 1, none⟩ = some (.int .i64 x.proj) := fun z => (HT.out z.w z.h).2.1
  have x2 : ∀ z : Cls (fun W => Below W0.heap.size W0 W), z.w.cell? ⟨K0, 2, none⟩ = some (.bool x.inj) := fun z => (HT.out z.w z.h).2.2.1
  have x3 : ∀ z : Cls (fun W => Below W0.heap.size W0 W), z.w.cell? ⟨K0, 3, none⟩ = some (.int .u8 x.head) := fun z => (HT.out z.w z.h).2.2.2.1
  have x4 : ∀ z : Cls (fun W => Below W0.heap.size W0 W), z.w.cell? ⟨K0, 4, none⟩ = some (.int .i64 x.label) := fun z => (HT.out z.w z.h).2.2.2.2.1
  have x5 : ∀ z : Cls (fun W => Below W0.heap.size W0 W), z.w.cell? ⟨K0, 5, none⟩ = some (.int .u8 x.frm) := fun z => (HT.out z.w z.h).2.2.2.2.2.1
  have x6 : ∀ z : Cls (fun W => Below W0.heap.size W0 W), z.w.cell? ⟨K0, 6, none⟩ = some (.int .u8 x.tto) := fun z => (HT.out z.w z.h).2.2.2.2.2.2.1
  have x7 : ∀ z : Cls (fun W => Below W0.heap.size W0 W), z.w.cell? ⟨K0, 7, none⟩ = some (.slice (some ⟨g, 0, none⟩) 2 sc) := fun z => (HT.out z.w z.h).2.2.2.2.2.2.2.1
  have x8 : ∀ z : Cls (fun W => Below W0.heap.size W0 W), z.w.cell? ⟨K1, 0, none⟩ = some (.int .i8 y.op) := fun z => (HT.out z.w z.h).2.2.2.2.2.2.2.2.1
  have x9 : ∀ z : Cls (fun W => Below W0.heap.size W0 W), z.w.cell? ⟨K1, 1, none⟩ = some (.int .i64 y.proj) := fun z => (HT.out z.w z.h).2.2.2.2.2.2.2.2.2.1
  have x10 : ∀ z : Cls (fun W => Below W0.heap.size W0 W), z.w.cell? ⟨K1, 2, none⟩ = some (.bool y.inj) := fun z => (HT.out z.w z.h).2.2.2.2.2.2.2.2.2.2.1
  have x11 : ∀ z : Cls (fun W => Below W0.heap.size W0 W), z.w.cell? ⟨K1, 3, none⟩ = some (.int .u8 y.head) := fun z => (HT.out z.w z.h).2.2.2.2.2.2.2.2.2.2.2.1
  have x12 : ∀ z : Cls (fun W => Below W0.heap.size W0 W), z.w.cell? ⟨K1, 4, none⟩ = some (.int .i64 y.label) := fun z => (HT.out z.w z.h).2.2.2.2.2.2.2.2.2.2.2.2.1
  have x13 : ∀ z : Cls (fun W => Below W0.heap.size W0 W), z.w.cell? ⟨K1, 5, none⟩ = some (.int .u8 y.frm) := fun z => (HT.out z.w z.h).2.2.2.2.2.2.2.2.2.2.2.2.2.1
  have x14 : ∀ z : Cls (fun W => Below W0.heap.size W0 W), z.w.cell? ⟨K1, 6, none⟩ = some (.int .u8 y.tto) := fun z => (HT.out z.w z.h).2.2.2.2.2.2.2.2.2.2.2.2.2.2.1
  have x15 : ∀ z : Cls (fun W => Below W0.heap.size W0 W), z.w.cell? ⟨K1, 7, none⟩ = some (.slice (some ⟨g', 0, none⟩) 2 tc) := fun z => (HT.out z.w z.h).2.2.2.2.2.2.2.2.2.2.2.2.2.2.2
  have hne9 : Nonempty (Cls (fun W => Below W0.heap.size W0 W)) := ⟨⟨W0, Below.refl _ _⟩⟩
  refine wp_region_calm (fun W => Below W0.heap.size W0 W) hmix (by kernel_rfl) (Below.refl _ _).drew ?_
  repeat (go_big_quiet_step (first | (go_at_call 25; with_reducible exact calls_calm (ceS _ (Cls.h _))) | (go_at_call 26; with_reducible exact calls_calm (cbT _ (Cls.h _)))))
  refine wpQuiet_nil ?_
  rintro _ ⟨x9, rfl⟩
  have hB5 := x9.h
  generalize x9.w = w5 at *
  clear x0 x1 x2 x3 x4 x5 x6 x7 x8 x9 x10 x11 x12 x13 x14 x15 hne9
  obtain ⟨s0, s1, s2, s3, s4, s5, s6, s7, t0, t1, t2, t3, t4, t5, t6, t7⟩ := HT.out w5 hB5
  clear cbT ceS ce cb
  subst hE
  cases EN
  all_goals
    go_upto_region 15 with fail
    clear s0 s1 s2 s3 s4 s5 s6 s7 t0 t1 t2 t3 t4 t5 t6 t7
    have ya0 : ∀ z : Cls (fun W => Below W0.heap.size W0 W), z.w.cell? ⟨g, 0, none⟩ = some (.int .i8 xa.op) := fun z => (KA.out z.w z.h).1
    have ya1 : ∀ z : Cls (fun W => Below W0.heap.size W0 W), z.w.cell? ⟨g, 1, none⟩ = some (.int .i64 xa.proj) := fun z => (KA.out z.w z.h).2.1
    have ya2 : ∀ z : Cls (fun W => Below W0.heap.size W0 W), z.w.cell? ⟨g, 2, none⟩ = some (.bool xa.inj) := fun z => (KA.out z.w z.h).2.2.1
    have ya3 : ∀ z : Cls (fun W => Below W0.heap.size W0 W), z.w.cell? ⟨g, 3, none⟩ = some (.int .u8 xa.head) := fun z => (KA.out z.w z.h).2.2.2.1
    have ya4 : ∀ z : Cls (fun W => Below W0.heap.size W0 W), z.w.cell? ⟨g, 4, none⟩ = some (.int .i64 xa.label) := fun z => (KA.out z.w z.h).2.2.2.2.1
    have ya5 : ∀ z : Cls (fun W => Below W0.heap.size W0 W), z.w.cell? ⟨g, 5, none⟩ = some (.int .u8 xa.frm) := fun z => (KA.out z.w z.h).2.2.2.2.2.1
    have ya6 : ∀ z : Cls (fun W => Below W0.heap.size W0 W), z.w.cell? ⟨g, 6, none⟩ = some (.int .u8 xa.tto) := fun z => (KA.out z.w z.h).2.2.2.2.2.2.1
    have ya7 : ∀ z : Cls (fun W => Below W0.heap.size W0 W), z.w.cell? ⟨g, 7, none⟩ = some (.slice ka0 ka1 ka2) := fun z => (KA.out z.w z.h).2.2.2.2.2.2.2
    have yb0 : ∀ z : Cls (fun W => Below W0.heap.size W0 W), z.w.cell? ⟨g, 8, none⟩ = some (.int .i8 xb.op) := fun z => (KB.out z.w z.h).1
    have yb1 : ∀ z : Cls (fun W => Below W0.heap.size W0 W), z.w.cell? ⟨g, 9, none⟩ = some (.int .i64 xb.proj) := fun z => (KB.out z.w z.h).2.1
    have yb2 : ∀ z : Cls (fun W => Below W0.heap.size W0 W), z.w.cell? ⟨g, 10, none⟩ = some (.bool xb.inj) := fun z => (KB.out z.w z.h).2.2.1
    have yb3 : ∀ z : Cls (fun W => Below W0.heap.size W0 W), z.w.cell? ⟨g, 11, none⟩ = some (.int .u8 xb.head) := fun z => (KB.out z.w z.h).2.2.2.1
    have yb4 : ∀ z : Cls (fun W => Below W0.heap.size W0 W), z.w.cell? ⟨g, 12, none⟩ = some (.int .i64 xb.label) := fun z => (KB.out z.w z.h).2.2.2.2.1
    have yb5 : ∀ z : Cls (fun W => Below W0.heap.size W0 W), z.w.cell? ⟨g, 13, none⟩ = some (.int .u8 xb.frm) := fun z => (KB.out z.w z.h).2.2.2.2.2.1
    have yb6 : ∀ z : Cls (fun W => Below W0.heap.size W0 W), z.w.cell? ⟨g, 14, none⟩ = some (.int .u8 xb.tto) := fun z => (KB.out z.w z.h).2.2.2.2.2.2.1
    have yb7 : ∀ z : Cls (fun W => Below W0.heap.size W0 W), z.w.cell? ⟨g, 15, none⟩ = some (.slice kb0 kb1 kb2) := fun z => (KB.out z.w z.h).2.2.2.2.2.2.2
    have yc0 : ∀ z : Cls (fun W => Below W0.heap.size W0 W), z.w.cell? ⟨g', 0, none⟩ = some (.int .i8 xc.op) := fun z => (KC.out z.w z.h).1
    have yc1 : ∀ z : Cls (fun W => Below W0.heap.size W0 W), z.w.cell? ⟨g', 1, none⟩ = some (.int .i64 xc.proj) := fun z => (KC.out z.w z.h).2.1
    have yc2 : ∀ z : Cls (fun W => Below W0.heap.size W0 W), z.w.cell? ⟨g', 2, none⟩ = some (.bool xc.inj) := fun z => (KC.out z.w z.h).2.2.1
    have yc3 : ∀ z : Cls (fun W => Below W0.heap.size W0 W), z.w.cell? ⟨g', 3, none⟩ = some (.int .u8 xc.head) := fun z => (KC.out z.w z.h).2.2.2.1
    have yc4 : ∀ z : Cls (fun W => Below W0.heap.size W0 W), z.w.cell? ⟨g', 4, none⟩ = some (.int .i64 xc.label) := fun z => (KC.out z.w z.h).2.2.2.2.1
    have yc5 : ∀ z : Cls (fun W => Below W0.heap.size W0 W), z.w.cell? ⟨g', 5, none⟩ = some (.int .u8 xc.frm) := fun z => (KC.out z.w z.h).2.2.2.2.2.1
    have yc6 : ∀ z : Cls (fun W => Below W0.heap.size W0 W), z.w.cell? ⟨g', 6, none⟩ = some (.int .u8 xc.tto) := fun z => (KC.out z.w z.h).2.2.2.2.2.2.1
    have yc7 : ∀ z : Cls (fun W => Below W0.heap.size W0 W), z.w.cell? ⟨g', 7, none⟩ = some (.slice kc0 kc1 kc2) := fun z => (KC.out z.w z.h).2.2.2.2.2.2.2
    have yd0 : ∀ z : Cls (fun W => Below W0.heap.size W0 W), z.w.cell? ⟨g', 8, none⟩ = some (.int .i8 xd.op) := fun z => (KD.out z.w z.h).1
    have yd1 : ∀ z : Cls (fun W => Below W0.heap.size W0 W), z.w.cell? ⟨g', 9, none⟩ = some (.int .i64 xd.proj) := fun z => (KD.out z.w z.h).2.1
    have yd2 : ∀ z : Cls (fun W => Below W0.heap.size W0 W), z.w.cell? ⟨g', 10, none⟩ = some (.bool xd.inj) := fun z => (KD.out z.w z.h).2.2.1
    have yd3 : ∀ z : Cls (fun W => Below W0.heap.size W0 W), z.w.cell? ⟨g', 11, none⟩ = some (.int .u8 xd.head) := fun z => (KD.out z.w z.h).2.2.2.1
    have yd4 : ∀ z : Cls (fun W => Below W0.heap.size W0 W), z.w.cell? ⟨g', 12, none⟩ = some (.int .i64 xd.label) := fun z => (KD.out z.w z.h).2.2.2.2.1
    have yd5 : ∀ z : Cls (fun W => Below W0.heap.size W0 W), z.w.cell? ⟨g', 13, none⟩ = some (.int .u8 xd.frm) := fun z => (KD.out z.w z.h).2.2.2.2.2.1
    have yd6 : ∀ z : Cls (fun W => Below W0.heap.size W0 W), z.w.cell? ⟨g', 14, none⟩ = some (.int .u8 xd.tto) := fun z => (KD.out z.w z.h).2.2.2.2.2.2.1
    have yd7 : ∀ z : Cls (fun W => Below W0.heap.size W0 W), z.w.cell? ⟨g', 15, none⟩ = some (.slice kd0 kd1 kd2) := fun z => (KD.out z.w z.h).2.2.2.2.2.2.2
    have x7 : ∀ z : Cls (fun W => Below W0.heap.size W0 W), z.w.cell? ⟨K0, 7, none⟩ = some (.slice (some ⟨g, 0, none⟩) 2 sc) := fun z => (HT.out z.w z.h).2.2.2.2.2.2.2.1
    have x15 : ∀ z : Cls (fun W => Below W0.heap.size W0 W), z.w.cell? ⟨K1, 7, none⟩ = some (.slice (some ⟨g', 0, none⟩) 2 tc) := fun z => (HT.out z.w z.h).2.2.2.2.2.2.2.2.2.2.2.2.2.2.2
    have hne9 : Nonempty (Cls (fun W => Below W0.heap.size W0 W)) := ⟨⟨W0, Below.refl _ _⟩⟩
    cases m1
    all_goals
      refine wp_region_calm (fun W => Below W0.heap.size W0 W) hmix (by kernel_rfl) hB5.drew ?_
      repeat (go_big_quiet_step (first | (go_at_call 9; with_reducible exact calls_calm (M1 _ (Cls.h _))) | (go_at_call 9; with_reducible exact calls_calm (M2 _ (Cls.h _)))))
      refine wpQuiet_nil ?_
      rintro _ ⟨x9, rfl⟩
      have hB6 := x9.h
      generalize x9.w = w6 at *
      clear x7 x15 ya0 ya1 ya2 ya3 ya4 ya5 ya6 ya7 yb0 yb1 yb2 yb3 yb4 yb5 yb6 yb7 yc0 yc1 yc2 yc3 yc4 yc5 yc6 yc7 yd0 yd1 yd2 yd3 yd4 yd5 yd6 yd7 hne9
      go_wp2_with fail
      go_ret
      exact ⟨ret_b (by first | rfl | simp), HB0.out.trans (hB6.mono HB0.out.size)⟩
end Go.Proofs.YtaaokecdmbmgbaaGreatDoor
