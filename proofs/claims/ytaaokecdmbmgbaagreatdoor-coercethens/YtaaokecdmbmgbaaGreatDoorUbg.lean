/- The document's Meets: its kids. The document's reader: what holds between a node's kids. The document's reader. -/
import Derived.Test.YtaaokecdmbmgbaaGreatDoorUbe
import Derived.Test.YtaaokecdmbmgbaaGreatDoorUbd
import Derived.StillTailTactics
import Derived.Test.YtaaokecdmbmgbaaGreatDoorUbc
import Derived.Deep.AppendLies
import Derived.Test.YtaaokecdmbmgbaaGreatDoorUap
import Derived.Test.YtaaokecdmbmgbaaGreatDoorUak
import Derived.Test.YtaaokecdmbmgbaaGreatDoorUav
namespace Go.Proofs.YtaaokecdmbmgbaaGreatDoor
open Go.RowKit Cc
set_option maxRecDepth 100000
set_option linter.unusedSimpArgs false
set_option linter.unusedVariables false
namespace Cc
def mz : List C → List C → Bool
  | a :: r, c :: q => meets a c && mz r q
  | _, _ => true
theorem mz_step {cs ds : List C} {k : Nat} {c d : C} (h : cs[k]? = some c) (g : ds[k]? = some d) : mz (cs.drop k) (ds.drop k) = (meets c d && mz (cs.drop (k + 1)) (ds.drop (k + 1))) := by
  obtain ⟨hk, rfl⟩ := List.getElem?_eq_some_iff.1 h
  obtain ⟨gk, rfl⟩ := List.getElem?_eq_some_iff.1 g
  rw [List.drop_eq_getElem_cons hk, List.drop_eq_getElem_cons gk]; rfl
theorem mz_end {cs ds : List C} {k : Nat} (h : cs.length = k) : mz (cs.drop k) (ds.drop k) = true := by
  rw [List.drop_eq_nil_of_le (by omega)]; rfl
end Cc
set_option maxHeartbeats 6400000 in
theorem me_loop (s t : C) (sa ta : Option Addr) (n sc tc : Nat) (ks ls : List (C × Value)) (w : World) (R : Bool)
    (hR : R = mz (ks.map Prod.fst) (ls.map Prod.fst)) (hn : ks.length = n) (hm : ls.length = n) (hn2 : n ≤ 2)
    (h7 : (nod s).op ≠ 7) (h1 : (nod s).op ≠ 1) (g7 : (nod t).op ≠ 7) (g1 : (nod t).op ≠ 1) (hE : fin0 (nod s) = begN (nod t)) (hh : (nod s).head = (nod t).head)
    (h3 : (nod s).op ≠ 3) (h6 : (nod s).op ≠ 6)
    (hs : ks ≠ [] → ∃ g, sa = some ⟨g, 0, none⟩ ∧ g < w.heap.size ∧ Row8 w g ks) (ht : ls ≠ [] → ∃ g, ta = some ⟨g, 0, none⟩ ∧ g < w.heap.size ∧ Row8 w g ls)
    (hf : ∀ k ∈ ks, ∃ a n c, k.2 = .slice a n c) (gf : ∀ k ∈ ls, ∃ a n c, k.2 = .slice a n c)
    (hK : ∀ (k : Nat) (c : C) (kc : Value) (d : C) (kd : Value), ks[k]? = some (c, kc) → ls[k]? = some (d, kd) → ∀ W, Below w.heap.size w W →
      Calls Tryz.prog 9 #[tree (nod c) kc, tree (nod d) kd] W fun e w' => e = .returned (.bool (meets c d)) ∧ Below W.heap.size W w') :
    Calls Tryz.prog 9 #[tree (nod s) (.slice sa n sc), tree (nod t) (.slice ta n tc)] w fun e w' => e = .returned (.bool R) ∧ Below w.heap.size w w' := by
  have HR0 : Aside (R = mz ((ks.map Prod.fst).drop 0) ((ls.map Prod.fst).drop 0)) := by rw [Aside]; simpa using hR
  clear hR
  have ce := dends_any s sa n sc
  have cb := dbegins_any t ta n tc
  rw [← begN_nod] at cb
  rw [show ((decide ((nod s).op = 1) || (nod s).inj) = fin0 (nod s)) from rfl] at ce
  obtain ⟨EN, hEN⟩ : ∃ EN, EN = fin0 (nod s) := ⟨_, rfl⟩
  obtain ⟨BN, hBN⟩ : ∃ BN, BN = begN (nod t) := ⟨_, rfl⟩
  rw [← hEN] at ce hE
  rw [← hBN] at cb hE
  clear hEN hBN
  generalize nod s = x at *
  generalize nod t = y at *
  have hs7' : (x.op == 7) = false := by simpa using h7
  have hs1' : (x.op == 1) = false := by simpa using h1
  have ht7' : (y.op == 7) = false := by simpa using g7
  have ht1' : (y.op == 1) = false := by simpa using g1
  have hh' : (x.head != y.head) = false := by simpa using hh
  have hs3' : (x.op == 3) = false := by simpa using h3
  have hs6' : (x.op == 6) = false := by simpa using h6
  have HS : Aside (ks ≠ [] → ∃ g, sa = some ⟨g, 0, none⟩ ∧ g < w.heap.size ∧ Row8 w g ks) := hs
  have HTt : Aside (ls ≠ [] → ∃ g, ta = some ⟨g, 0, none⟩ ∧ g < w.heap.size ∧ Row8 w g ls) := ht
  have HF : Aside (∀ k ∈ ks, ∃ a n c, k.2 = .slice a n c) := hf
  have GF : Aside (∀ k ∈ ls, ∃ a n c, k.2 = .slice a n c) := gf
  have HKc : Aside (∀ (k : Nat) (c : C) (kc : Value) (d : C) (kd : Value), ks[k]? = some (c, kc) → ls[k]? = some (d, kd) → ∀ W, Below w.heap.size w W →
      Calls Tryz.prog 9 #[tree (nod c) kc, tree (nod d) kd] W fun e w' => e = .returned (.bool (meets c d)) ∧ Below W.heap.size W w') := hK
  have hn9 : (n : Int) ≤ 2 := by omega
  clear h7 h1 g7 g1 hh h3 h6 hs ht hf gf hK hn2
  go_enter Tryz.func9, Tryz.ntmps9
  go_upto_region 1 with fail
  obtain ⟨W0, hW0⟩ : ∃ W0, W0 = (w.alloc (.cells #[.int .i8 x.op, .int .i64 x.proj, .bool x.inj, .int .u8 x.head, .int .i64 x.label, .int .u8 x.frm, .int .u8 x.tto, .slice sa n sc] 31)).alloc (.cells #[.int .i8 y.op, .int .i64 y.proj, .bool y.inj, .int .u8 y.head, .int .i64 y.label, .int .u8 y.frm, .int .u8 y.tto, .slice ta n tc] 31) := ⟨_, rfl⟩
  have hB0 : Below w.heap.size w W0 := by rw [hW0]; exact below_al (below_al (Below.refl _ _) (Nat.le_refl _) _) (by simp) _
  have HT : Aside (∀ W, Below W0.heap.size W0 W → (W.cell? ⟨w.heap.size, 0, none⟩ = some (.int .i8 x.op) ∧ W.cell? ⟨w.heap.size, 1, none⟩ = some (.int .i64 x.proj) ∧ W.cell? ⟨w.heap.size, 2, none⟩ = some (.bool x.inj) ∧ W.cell? ⟨w.heap.size, 3, none⟩ = some (.int .u8 x.head) ∧ W.cell? ⟨w.heap.size, 4, none⟩ = some (.int .i64 x.label) ∧ W.cell? ⟨w.heap.size, 5, none⟩ = some (.int .u8 x.frm) ∧ W.cell? ⟨w.heap.size, 6, none⟩ = some (.int .u8 x.tto) ∧ W.cell? ⟨w.heap.size, 7, none⟩ = some (.slice sa n sc) ∧ W.cell? ⟨w.heap.size + 1, 0, none⟩ = some (.int .i8 y.op) ∧ W.cell? ⟨w.heap.size + 1, 1, none⟩ = some (.int .i64 y.proj) ∧ W.cell? ⟨w.heap.size + 1, 2, none⟩ = some (.bool y.inj) ∧ W.cell? ⟨w.heap.size + 1, 3, none⟩ = some (.int .u8 y.head) ∧ W.cell? ⟨w.heap.size + 1, 4, none⟩ = some (.int .i64 y.label) ∧ W.cell? ⟨w.heap.size + 1, 5, none⟩ = some (.int .u8 y.frm) ∧ W.cell? ⟨w.heap.size + 1, 6, none⟩ = some (.int .u8 y.tto) ∧ W.cell? ⟨w.heap.size + 1, 7, none⟩ = some (.slice ta n tc))) := fun W h => by
    have e0 : ∀ o, W.cell? ⟨w.heap.size, o, none⟩ = W0.cell? ⟨w.heap.size, o, none⟩ := fun o => h.cell (p := ⟨w.heap.size, o, none⟩) (by rw [hW0]; simp; omega)
    have e1 : ∀ o, W.cell? ⟨w.heap.size + 1, o, none⟩ = W0.cell? ⟨w.heap.size + 1, o, none⟩ := fun o => h.cell (p := ⟨w.heap.size + 1, o, none⟩) (by rw [hW0]; simp)
    simp only [e0, e1]
    rw [hW0]; simp
  rw [← hW0]
  clear hW0
  obtain ⟨K1, hK1⟩ : ∃ K1, K1 = w.heap.size + 1 := ⟨_, rfl⟩
  rw [← hK1] at HT ⊢
  obtain ⟨K0, hK0⟩ : ∃ K0, K0 = w.heap.size := ⟨_, rfl⟩
  rw [← hK0] at HT
  rw [← hK0]
  have HB0 : Aside (Below w.heap.size w W0) := hB0
  clear hB0 hK0 hK1
  obtain ⟨s0, s1, s2, s3, s4, s5, s6, s7, t0, t1, t2, t3, t4, t5, t6, t7⟩ := HT.out W0 (Below.refl _ _)
  have hmix : Tryz.prog.follows .mixedOrders = true := by kernel_rfl
  have ceS : ∀ W, Below W0.heap.size W0 W → Calls Tryz.prog 25 #[tree x (.slice sa n sc)] W fun e w' => e = .returned (.bool EN) ∧ Below W0.heap.size W0 w' := fun W hW => (ce W).mono (by rintro e w' ⟨rfl, h⟩; exact ⟨rfl, hW.trans (h.mono hW.size)⟩)
  have cbT : ∀ W, Below W0.heap.size W0 W → Calls Tryz.prog 26 #[tree y (.slice ta n tc)] W fun e w' => e = .returned (.bool BN) ∧ Below W0.heap.size W0 w' := fun W hW => (cb W).mono (by rintro e w' ⟨rfl, h⟩; exact ⟨rfl, hW.trans (h.mono hW.size)⟩)
  go_upto_region 5 with fail
  clear s0 s1 s2 s3 s4 s5 s6 s7 t0 t1 t2 t3 t4 t5 t6 t7
  have x0 : ∀ z : Cls (fun W => Below W0.heap.size W0 W), z.w.cell? ⟨K0, 0, none⟩ = some (.int .i8 x.op) := fun z => (HT.out z.w z.h).1
  have x1 : ∀ z : Cls (fun W => Below W0.heap.size W0 W), z.w.cell? ⟨K0, 1, none⟩ = some (.int .i64 x.proj) := fun z => (HT.out z.w z.h).2.1
  have x2 : ∀ z : Cls (fun W => Below W0.heap.size W0 W), z.w.cell? ⟨K0, 2, none⟩ = some (.bool x.inj) := fun z => (HT.out z.w z.h).2.2.1
  have x3 : ∀ z : Cls (fun W => Below W0.heap.size W0 W), z.w.cell? ⟨K0, 3, none⟩ = some (.int .u8 x.head) := fun z => (HT.out z.w z.h).2.2.2.1
  have x4 : ∀ z : Cls (fun W => Below W0.heap.size W0 W), z.w.cell? ⟨K0, 4, none⟩ = some (.int .i64 x.label) := fun z => (HT.out z.w z.h).2.2.2.2.1
  have x5 : ∀ z : Cls (fun W => Below W0.heap.size W0 W), z.w.cell? ⟨K0, 5, none⟩ = some (.int .u8 x.frm) := fun z => (HT.out z.w z.h).2.2.2.2.2.1
  have x6 : ∀ z : Cls (fun W => Below W0.heap.size W0 W), z.w.cell? ⟨K0, 6, none⟩ = some (.int .u8 x.tto) := fun z => (HT.out z.w z.h).2.2.2.2.2.2.1
  have x7 : ∀ z : Cls (fun W => Below W0.heap.size W0 W), z.w.cell? ⟨K0, 7, none⟩ = some (.slice sa n sc) := fun z => (HT.out z.w z.h).2.2.2.2.2.2.2.1
  have x8 : ∀ z : Cls (fun W => Below W0.heap.size W0 W), z.w.cell? ⟨K1, 0, none⟩ = some (.int .i8 y.op) := fun z => (HT.out z.w z.h).2.2.2.2.2.2.2.2.1
  have x9 : ∀ z : Cls (fun W => Below W0.heap.size W0 W), z.w.cell? ⟨K1, 1, none⟩ = some (.int .i64 y.proj) := fun z => (HT.out z.w z.h).2.2.2.2.2.2.2.2.2.1
  have x10 : ∀ z : Cls (fun W => Below W0.heap.size W0 W), z.w.cell? ⟨K1, 2, none⟩ = some (.bool y.inj) := fun z => (HT.out z.w z.h).2.2.2.2.2.2.2.2.2.2.1
  have x11 : ∀ z : Cls (fun W => Below W0.heap.size W0 W), z.w.cell? ⟨K1, 3, none⟩ = some (.int .u8 y.head) := fun z => (HT.out z.w z.h).2.2.2.2.2.2.2.2.2.2.2.1
  have x12 : ∀ z : Cls (fun W => Below W0.heap.size W0 W), z.w.cell? ⟨K1, 4, none⟩ = some (.int .i64 y.label) := fun z => (HT.out z.w z.h).2.2.2.2.2.2.2.2.2.2.2.2.1
  have x13 : ∀ z : Cls (fun W => Below W0.heap.size W0 W), z.w.cell? ⟨K1, 5, none⟩ = some (.int .u8 y.frm) := fun z => (HT.out z.w z.h).2.2.2.2.2.2.2.2.2.2.2.2.2.1
  have x14 : ∀ z : Cls (fun W => Below W0.heap.size W0 W), z.w.cell? ⟨K1, 6, none⟩ = some (.int .u8 y.tto) := fun z => (HT.out z.w z.h).2.2.2.2.2.2.2.2.2.2.2.2.2.2.1
  have x15 : ∀ z : Cls (fun W => Below W0.heap.size W0 W), z.w.cell? ⟨K1, 7, none⟩ = some (.slice ta n tc) := fun z => (HT.out z.w z.h).2.2.2.2.2.2.2.2.2.2.2.2.2.2.2
  have hne9 : Nonempty (Cls (fun W => Below W0.heap.size W0 W)) := ⟨⟨W0, Below.refl _ _⟩⟩
  refine wp_region_calm (fun W => Below W0.heap.size W0 W) hmix (by kernel_rfl) (Below.refl _ _).drew ?_
  repeat (go_big_quiet_step (first | (go_at_call 25; with_reducible exact calls_calm (ceS _ (Cls.h _))) | (go_at_call 26; with_reducible exact calls_calm (cbT _ (Cls.h _)))))
  refine wpQuiet_nil ?_
  rintro _ ⟨x9, rfl⟩
  have hB5 := x9.h
  generalize x9.w = w5 at *
  clear x0 x1 x2 x3 x4 x5 x6 x7 x8 x9 x10 x11 x12 x13 x14 x15 hne9
  obtain ⟨s0, s1, s2, s3, s4, s5, s6, s7, t0, t1, t2, t3, t4, t5, t6, t7⟩ := HT.out w5 hB5
  subst hE
  cases EN
  all_goals
    clear cbT ceS ce cb
    go_wp2_with fail
    go_loopg [5] n (fun gq v5 wr => ∃ k : Nat, k + gq = n ∧ v5 = .int .i64 (k : Int) ∧ Aside (R = mz ((ks.map Prod.fst).drop k) ((ls.map Prod.fst).drop k)) ∧ Below W0.heap.size W0 wr)
    case atStart => exact ⟨0, by omega, rfl, HR0.out, hB5⟩
    case round =>
      clear s0 s1 s2 s3 s4 s5 s6 s7 t0 t1 t2 t3 t4 t5 t6 t7
      obtain ⟨k, hkg, rfl, HR, hB⟩ := hrel
      obtain ⟨s0, s1, s2, s3, s4, s5, s6, s7, t0, t1, t2, t3, t4, t5, t6, t7⟩ := HT.out wr hB
      have hk9 : (0 : Int) ≤ (k : Int) := by omega
      by_cases hk : k < n
      · have hk' : (k : Int) < (n : Int) := by omega
        obtain ⟨⟨c, kc⟩, hx⟩ : ∃ z, ks[k]? = some z := ⟨_, List.getElem?_eq_getElem (by omega)⟩
        obtain ⟨⟨d, kd⟩, hy⟩ : ∃ z, ls[k]? = some z := ⟨_, List.getElem?_eq_getElem (by omega)⟩
        obtain ⟨g, rfl, hg, hR8⟩ := HS.out (by rintro rfl; simp at hx)
        obtain ⟨g', rfl, hg', hR8'⟩ := HTt.out (by rintro rfl; simp at hy)
        obtain ⟨ca, cn, cc, hkc⟩ := HF.out _ (List.mem_of_getElem? hx)
        obtain ⟨da, dn, dc, hkd⟩ := GF.out _ (List.mem_of_getElem? hy)
        simp only at hkc hkd
        subst hkc hkd
        have hA := hR8.at hx
        have hD := hR8'.at hy
        have HA : Aside (∀ W, Below W0.heap.size W0 W → At8 W g (k * 8) (nod c) (.slice ca cn cc)) := fun W hW => by
          have hW9 := HB0.out.trans (hW.mono HB0.out.size)
          have e : ∀ o, W.cell? ⟨g, o, none⟩ = w.cell? ⟨g, o, none⟩ := fun o => hW9.cell (p := ⟨g, o, none⟩) hg
          have h0 := hA
          unfold At8 at h0 ⊢
          simp only [e]
          exact h0
        have HD : Aside (∀ W, Below W0.heap.size W0 W → At8 W g' (k * 8) (nod d) (.slice da dn dc)) := fun W hW => by
          have hW9 := HB0.out.trans (hW.mono HB0.out.size)
          have e : ∀ o, W.cell? ⟨g', o, none⟩ = w.cell? ⟨g', o, none⟩ := fun o => hW9.cell (p := ⟨g', o, none⟩) hg'
          have h0 := hD
          unfold At8 at h0 ⊢
          simp only [e]
          exact h0
        have HR1 : Aside (R = (meets c d && mz ((ks.map Prod.fst).drop (k + 1)) ((ls.map Prod.fst).drop (k + 1)))) := by
          rw [Aside, HR.out]
          exact mz_step (by simp [hx]) (by simp [hy])
        have cM : ∀ W, Below W0.heap.size W0 W → Calls Tryz.prog 9 #[tree (nod c) (.slice ca cn cc), tree (nod d) (.slice da dn dc)] W fun e w' => e = .returned (.bool (meets c d)) ∧ Below W0.heap.size W0 w' := fun W hW =>
          (HKc.out k c _ d _ hx hy W (HB0.out.trans (hW.mono HB0.out.size))).mono (by rintro e w' ⟨rfl, h⟩; exact ⟨rfl, hW.trans (h.mono hW.size)⟩)
        clear hA hD hR8 hR8' hx hy HR
        generalize nod c = xc at *
        generalize nod d = xd at *
        generalize meets c d = m at *
        go_upto_region 19 with fail
        clear s0 s1 s2 s3 s4 s5 s6 s7 t0 t1 t2 t3 t4 t5 t6 t7
        have y0 : ∀ z : Cls (fun W => Below W0.heap.size W0 W), z.w.cell? ⟨g, k * 8, none⟩ = some (.int .i8 xc.op) := fun z => (HA.out z.w z.h).1
        have y1 : ∀ z : Cls (fun W => Below W0.heap.size W0 W), z.w.cell? ⟨g, k * 8 + 1, none⟩ = some (.int .i64 xc.proj) := fun z => (HA.out z.w z.h).2.1
        have y2 : ∀ z : Cls (fun W => Below W0.heap.size W0 W), z.w.cell? ⟨g, k * 8 + 2, none⟩ = some (.bool xc.inj) := fun z => (HA.out z.w z.h).2.2.1
        have y3 : ∀ z : Cls (fun W => Below W0.heap.size W0 W), z.w.cell? ⟨g, k * 8 + 3, none⟩ = some (.int .u8 xc.head) := fun z => (HA.out z.w z.h).2.2.2.1
        have y4 : ∀ z : Cls (fun W => Below W0.heap.size W0 W), z.w.cell? ⟨g, k * 8 + 4, none⟩ = some (.int .i64 xc.label) := fun z => (HA.out z.w z.h).2.2.2.2.1
        have y5 : ∀ z : Cls (fun W => Below W0.heap.size W0 W), z.w.cell? ⟨g, k * 8 + 5, none⟩ = some (.int .u8 xc.frm) := fun z => (HA.out z.w z.h).2.2.2.2.2.1
        have y6 : ∀ z : Cls (fun W => Below W0.heap.size W0 W), z.w.cell? ⟨g, k * 8 + 6, none⟩ = some (.int .u8 xc.tto) := fun z => (HA.out z.w z.h).2.2.2.2.2.2.1
        have y7 : ∀ z : Cls (fun W => Below W0.heap.size W0 W), z.w.cell? ⟨g, k * 8 + 7, none⟩ = some (.slice ca cn cc) := fun z => (HA.out z.w z.h).2.2.2.2.2.2.2
        have z0 : ∀ z : Cls (fun W => Below W0.heap.size W0 W), z.w.cell? ⟨g', k * 8, none⟩ = some (.int .i8 xd.op) := fun z => (HD.out z.w z.h).1
        have z1 : ∀ z : Cls (fun W => Below W0.heap.size W0 W), z.w.cell? ⟨g', k * 8 + 1, none⟩ = some (.int .i64 xd.proj) := fun z => (HD.out z.w z.h).2.1
        have z2 : ∀ z : Cls (fun W => Below W0.heap.size W0 W), z.w.cell? ⟨g', k * 8 + 2, none⟩ = some (.bool xd.inj) := fun z => (HD.out z.w z.h).2.2.1
        have z3 : ∀ z : Cls (fun W => Below W0.heap.size W0 W), z.w.cell? ⟨g', k * 8 + 3, none⟩ = some (.int .u8 xd.head) := fun z => (HD.out z.w z.h).2.2.2.1
        have z4 : ∀ z : Cls (fun W => Below W0.heap.size W0 W), z.w.cell? ⟨g', k * 8 + 4, none⟩ = some (.int .i64 xd.label) := fun z => (HD.out z.w z.h).2.2.2.2.1
        have z5 : ∀ z : Cls (fun W => Below W0.heap.size W0 W), z.w.cell? ⟨g', k * 8 + 5, none⟩ = some (.int .u8 xd.frm) := fun z => (HD.out z.w z.h).2.2.2.2.2.1
        have z6 : ∀ z : Cls (fun W => Below W0.heap.size W0 W), z.w.cell? ⟨g', k * 8 + 6, none⟩ = some (.int .u8 xd.tto) := fun z => (HD.out z.w z.h).2.2.2.2.2.2.1
        have z7 : ∀ z : Cls (fun W => Below W0.heap.size W0 W), z.w.cell? ⟨g', k * 8 + 7, none⟩ = some (.slice da dn dc) := fun z => (HD.out z.w z.h).2.2.2.2.2.2.2
        have x7 : ∀ z : Cls (fun W => Below W0.heap.size W0 W), z.w.cell? ⟨K0, 7, none⟩ = some (.slice (some ⟨g, 0, none⟩) n sc) := fun z => (HT.out z.w z.h).2.2.2.2.2.2.2.1
        have x15 : ∀ z : Cls (fun W => Below W0.heap.size W0 W), z.w.cell? ⟨K1, 7, none⟩ = some (.slice (some ⟨g', 0, none⟩) n tc) := fun z => (HT.out z.w z.h).2.2.2.2.2.2.2.2.2.2.2.2.2.2.2
        have hne9 : Nonempty (Cls (fun W => Below W0.heap.size W0 W)) := ⟨⟨W0, Below.refl _ _⟩⟩
        refine wp_region_calm (fun W => Below W0.heap.size W0 W) hmix (by kernel_rfl) hB.drew ?_
        repeat (go_big_quiet_step (first | (go_at_call 9; with_reducible exact calls_calm (cM _ (Cls.h _)))))
        refine wpQuiet_nil ?_
        rintro _ ⟨x9, rfl⟩
        have hB6 := x9.h
        generalize x9.w = w6 at *
        clear x7 x15 y0 y1 y2 y3 y4 y5 y6 y7 z0 z1 z2 z3 z4 z5 z6 z7 hne9
        cases m
        · have HE : Aside (R = false) := by rw [Aside, HR1.out]; rfl
          go_wp2_with fail
          go_ret
          exact ⟨ret_b HE.out.symm, HB0.out.trans (hB6.mono HB0.out.size)⟩
        · have HE : Aside (R = mz ((ks.map Prod.fst).drop (k + 1)) ((ls.map Prod.fst).drop (k + 1))) := by rw [Aside, HR1.out]; rfl
          go_wp2_with fail
          go_roundg (n - (k + 1))
          case measure => omega
          case rel => exact ⟨k + 1, by omega, by go_num, HE.out, hB6⟩
      · have hk' : ¬ (k : Int) < (n : Int) := by omega
        have hk2 : k = n := by omega
        have HE : Aside (R = true) := by rw [Aside, HR.out]; exact mz_end (by rw [List.length_map]; omega)
        subst hk2
        go_wp2_with fail
        go_ret
        exact ⟨ret_b HE.out.symm, HB0.out.trans (hB.mono HB0.out.size)⟩
end Go.Proofs.YtaaokecdmbmgbaaGreatDoor
namespace Go.Proofs.YtaaokecdmbmgbaaGreatDoor
open Go.RowKit Cc
set_option maxRecDepth 100000
set_option linter.unusedSimpArgs false
set_option linter.unusedVariables false
namespace Cc
theorem tyTrees : Tryz.prog.underlying 29 = some (.slice 31) := by kernel_rfl
def ztree : Value := tree ⟨0, 0, false, 0, 0, 0, 0⟩ (.slice none 0 0)
theorem infoTree : (Tryz.prog.info? 31).map (fun i => (i.zero, i.size, i.bytes)) = some (some ztree, 8, 64) := by kernel_rfl
def tcells (x : N) (kv : Value) : Array Value := #[.int .i8 x.op, .int .i64 x.proj, .bool x.inj, .int .u8 x.head, .int .i64 x.label, .int .u8 x.frm, .int .u8 x.tto, kv]
theorem drow_one (c : C) (a : Option Addr) (n k : Nat) : ∀ u ∈ drow [(c, .slice a n k)], u.oneCell' = true := by
  intro u hu
  simp only [drow, List.flatMap_cons, List.flatMap_nil, List.append_nil, tcell, ncell, List.mem_append, List.mem_cons, List.mem_nil_iff, or_false] at hu
  rcases hu with (rfl | rfl | rfl | rfl | rfl | rfl | rfl) | rfl <;> rfl
/-- Between kids: the result's cell, the tree's cell, the kids so far. -/
structure Rk (w0 w : World) (B6 B8 base : Nat) (x : N) (kv : Value) (ks : List (C × Value)) : Prop where
  bl : Below w0.heap.size w0 w
  z6 : w.heap[B6]? = some (.cells (tcells ⟨0, 0, false, 0, 0, 0, 0⟩ (.slice none 0 0)) 31 (0, 0))
  h8 : w.heap[B8]? = some (.cells (tcells x kv) 31 (0, 0))
  lo6 : w0.heap.size ≤ B6
  l68 : B6 < B8
  l8b : B8 < base
  bs : base ≤ w.heap.size
  own : w.ownsRow base 31 8 kv ks.length (drow ks)
  kid : ∀ p ∈ ks, ∃ lo hi, base ≤ lo ∧ hi ≤ w.heap.size ∧ DT w lo hi p.1 p.2 ∧ ∀ g, kv.ownBlock = some g → g < lo ∨ hi ≤ g
  nil : ks = [] → kv = .slice none 0 0
theorem Rk.next {w0 w w' : World} {B6 B8 base : Nat} {x : N} {kv : Value} {ks : List (C × Value)} (h : Rk w0 w B6 B8 base x kv ks) (hB : Below w.heap.size w w') : Rk w0 w' B6 B8 base x kv ks := by
  have l1 := h.l68; have l2 := h.l8b; have l3 := h.bs
  refine ⟨h.bl.trans (hB.mono h.bl.size), (hB.block B6 (by omega)).trans h.z6, (hB.block B8 (by omega)).trans h.h8, h.lo6, h.l68, h.l8b, Nat.le_trans h.bs hB.size, ?_, ?_, h.nil⟩
  · refine ⟨h.own.1, ?_⟩
    rcases h.own.2 with e | ⟨g, cap, cur, e1, e2, e3, e4⟩
    · exact .inl e
    · exact .inr ⟨g, cap, cur, e1, e2, (hB.block g (Array.getElem?_eq_some_iff.1 e3).1).trans e3, e4⟩
  · intro p hp
    obtain ⟨lo, hi, a1, a2, a3, a4⟩ := h.kid p hp
    exact ⟨lo, hi, a1, Nat.le_trans a2 hB.size, a3.below a2 hB, a4⟩
theorem Rk.size {w0 w : World} {B6 B8 base : Nat} {x : N} {kv : Value} {ks : List (C × Value)} (h : Rk w0 w B6 B8 base x kv ks) : B8 < w.heap.size := Nat.lt_of_lt_of_le h.l8b h.bs
/-- A kid more: w: where it was read from; w3: where it has been read; w5: where it is appended from; w6: behind that. -/
theorem Rk.app {w0 w w3 w5 w6 : World} {B6 B8 base : Nat} {x : N} {kv kv' : Value} {ks : List (C × Value)} {d : C} {kd : Value} (h : Rk w0 w B6 B8 base x kv ks) (h3 : Below w.heap.size w w3) (h5 : Below w3.heap.size w3 w5)
    (hd : DT w3 w.heap.size w3.heap.size d kd) (ho : w6.ownsRow base 31 8 kv' (ks.length + 1) (drow ks ++ drow [(d, kd)])) (hg : w5.grownBy w6 kv.ownBlock) (hv : ∀ g, kv'.ownBlock = some g → kv.ownBlock = some g ∨ g = w5.heap.size) :
    Rk w0 (w6.setCell ⟨B8, 7, none⟩ kv') B6 B8 base x kv' (ks ++ [(d, kd)]) := by
  have h5' := h.next (h3.trans (h5.mono h3.size))
  have l1 := h.l68; have l2 := h.l8b; have l3 := h.bs; have l4 := h5'.bs; have l5 := hg.size
  have lt := World.ownsRow.lt h.own
  have lt5 := World.ownsRow.lt h5'.own
  have blk : ∀ k, k < w5.heap.size → kv.ownBlock ≠ some k → k ≠ B8 → (w6.setCell ⟨B8, 7, none⟩ kv').heap[k]? = w5.heap[k]? := fun k h1 h2 h3 =>
    (Below.heap_setCell _ _ _ _ h3).trans (hg.block k h1 fun e => h2 e.symm)
  have n8 : w6.heap[B8]? = some (.cells (tcells x kv) 31 (0, 0)) := (hg.block B8 h5'.size fun e => by have := (lt5 B8 e.symm).1; omega).trans h5'.h8
  have ss : (w6.setCell ⟨B8, 7, none⟩ kv').heap.size = w6.heap.size := by simp [World.setCell]
  refine ⟨?_, ?_, ?_, h.lo6, h.l68, h.l8b, by omega, ?_, ?_, fun e => by simp at e⟩
  · exact (h5'.bl.grown hg h5'.bl.size (fun k e => by have := (lt5 k e).1; have := h.lo6; omega)).setCell (by have := h.lo6; show w0.heap.size ≤ B8; omega) _
  · exact (blk B6 (by omega) (fun e => by have := (lt5 B6 e).1; omega) (by omega)).trans h5'.z6
  · rw [heap_setCell_same _ _ _ _ _ _ n8]
    simp [tcells]
  · rw [List.length_append, List.length_singleton, drow_app]
    refine ⟨ho.1, ?_⟩
    rcases ho.2 with e | ⟨g, cap, cur, e1, e2, e3, e4⟩
    · exact .inl e
    · exact .inr ⟨g, cap, cur, e1, e2, (Below.heap_setCell _ _ _ _ (by show g ≠ B8; omega)).trans e3, e4⟩
  · intro p hp
    rw [List.mem_append, List.mem_singleton] at hp
    have s3 := h3.size; have s5 := h5.size
    rcases hp with hp | rfl
    · obtain ⟨lo, hi, a1, a2, a3, a4⟩ := h.kid p hp
      refine ⟨lo, hi, a1, by omega, ?_, ?_⟩
      · refine ((a3.below a2 (h3.trans (h5.mono h3.size))).keep ?_)
        intro g g1 g2
        exact blk g (by omega) (fun e => by have := a4 g e; omega) (by omega)
      · intro g e
        rcases hv g e with e | e
        · exact a4 g e
        · right; omega
    · refine ⟨w.heap.size, w3.heap.size, by omega, by omega, ?_, ?_⟩
      · refine ((hd.below (Nat.le_refl _) h5).keep ?_)
        intro g g1 g2
        exact blk g (by omega) (fun e => by have := (lt g e).2; omega) (by omega)
      · intro g e
        rcases hv g e with e | e
        · left; exact (lt g e).2
        · right; omega
/-- The kids, as the tree's. -/
theorem Rk.tree {w0 w : World} {B6 B8 base : Nat} {x : N} {kv : Value} {ks : List (C × Value)} {c : C} (h : Rk w0 w B6 B8 base x kv ks) (hc : ks.map Prod.fst = kidsC c) : DT w base w.heap.size c kv := by
  have hk : ∀ p ∈ ks, DT w base w.heap.size p.1 p.2 := fun p hp => by
    obtain ⟨lo, hi, a1, a2, a3, -⟩ := h.kid p hp
    exact a3.mono a1 a2
  rcases h.own.2 with ⟨e, hn⟩ | ⟨g, cap, cur, e1, e2, e3, e4⟩
  · obtain rfl : ks = [] := List.eq_nil_of_length_eq_zero hn
    rw [e]
    exact DT.of_row (ks := []) hc hk (fun _ => ⟨rfl, rfl⟩) (fun h => absurd rfl h)
  · have ho := h.own
    rw [e1] at ho ⊢
    refine DT.of_row hc hk (fun e => ?_) (fun _ => ⟨g, rfl, e2, (Array.getElem?_eq_some_iff.1 e3).1, ?_⟩)
    · have := h.nil e; rw [e1] at this; cases this
    · intro j u hj
      have hj' : j < ks.length * 8 := by rw [← drow_len]; exact (List.getElem?_eq_some_iff.1 hj).1
      rw [World.ownsRow.cellAt ho j hj']
      exact hj
end Cc
theorem wpList_app8 {ops : Array Oper} {rest : List Oper} {o : Oper} {a : Act} {Q : Exit → Act → World → Prop} (hgd : o.guard = none) (s x : Operand)
    (ho : o.op = .call { callee := .builtin .append, args := #[s, x], argTypes := #[29, 29] }) (base : Nat) (w : World) (lv : Value) (ks : List (C × Value)) (hs : a.eval s = lv) (hO : w.ownsRow base 31 8 lv ks.length (drow ks)) (hB : base ≤ w.heap.size)
    (b c : Nat) (d : C) (da : Option Addr) (dn dc : Nat) (hx : a.eval x = .slice (some ⟨b, 0, none⟩) 1 c) (hc : w.heap[b]? = some (.cells (tcells (nod d) (.slice da dn dc)) 31 (0, 0))) (hlen : ks.length ≤ 2)
    (h : ∀ g cap w', w'.ownsRow base 31 8 (.slice (some ⟨g, 0, none⟩) (ks.length + 1) cap) (ks.length + 1) (drow ks ++ drow [(d, .slice da dn dc)]) → w.grownBy w' lv.ownBlock → (lv.ownBlock = some g ∨ g = w.heap.size) → g < w'.heap.size → wpList Tryz.prog ops Q rest (a.put o.dst (.slice (some ⟨g, 0, none⟩) (ks.length + 1) cap)) w') : wpList Tryz.prog ops Q (o :: rest) a w := by
  obtain ⟨i0, hi0, hz0, hz1, hz2⟩ := info_parts infoTree
  refine wpList_append_lies w hgd s x 29 ho base 31 i0 _ 8 64 tyTrees hi0 hz0 hz1 hz2 rfl (by decide) lv ks.length (drow ks) hs hO ⟨b, 0, none⟩ 1 c (drow [(d, .slice da dn dc)]) hx (by rw [drow_len]; rfl) (World.news_of_block hc) (drow_one d da dn dc) (by decide) (by unfold maxLen; omega) (by omega) hB w.heap.size rfl h
end Go.Proofs.YtaaokecdmbmgbaaGreatDoor
namespace Go.Proofs.YtaaokecdmbmgbaaGreatDoor
open Go.RowKit Cc
set_option maxRecDepth 100000
set_option linter.unusedSimpArgs false
set_option linter.unusedVariables false
namespace Cc
theorem heap_top (w : World) (o : Obj) : (w.alloc o).heap[w.heap.size]? = some o := by
  show (w.heap.push o)[w.heap.size]? = some o
  exact Array.getElem?_push_size
/-- How read ends. -/
def RdEnd (w : World) (L : Nat) (q : Option (C × List N)) (e : Ending) (w' : World) : Prop := match q with
  | none => e = .returned (.tuple #[ztree, .int .i64 (-1)])
  | some (c, r) => ∃ kv, e = .returned (.tuple #[tree (nod c) kv, .int .i64 ((L : Int) - (r.length : Int))]) ∧ DT w' w.heap.size w'.heap.size c kv
/-- read, where so many may stand below one another. -/
def RdC (n : Nat) : Prop := ∀ (l : List N) (i : Nat) (v : Value) (w : World), IsCos w v l → i ≤ l.length → l.length ≤ 1000000 →
  Calls Tryz.prog 24 #[v, .int .i64 (i : Int), .int .i64 (65 - (n : Int))] w fun e w' => RdEnd w l.length (tk n (l.drop i)) e w' ∧ Below w.heap.size w w'
end Cc
set_option maxHeartbeats 800000 in
theorem dread_end (n : Nat) (l : List N) (v : Value) (w : World) (h : IsCos w v l) (hl : l.length ≤ 1000000) (hn : n ≤ 64) :
    Calls Tryz.prog 24 #[v, .int .i64 (l.length : Int), .int .i64 (65 - (n : Int))] w fun e w' => RdEnd w l.length (tk n (l.drop l.length)) e w' ∧ Below w.heap.size w w' := by
  have he : tk n (l.drop l.length) = none := by rw [List.drop_length]; cases n <;> rw [tk]
  rw [he]
  obtain ⟨a, c, rfl⟩ := h.form
  have hi' : ¬ (l.length : Int) < (l.length : Int) := by omega
  have hA : ∀ o, Below w.heap.size w (w.alloc o) := fun o => (Below.refl _ _).alloc (Nat.le_refl _) _
  clear h he
  generalize (65 - (n : Int)) = dp at *
  go_enter Tryz.func24, Tryz.ntmps24
  go_wp2
  refine bodyPost_ret (v := .tuple #[ztree, .int .i64 (-1)]) (by simp [results, Tryz.results24, go_sem, ztree]) rfl ?_
  exact ⟨rfl, hA _⟩
set_option maxHeartbeats 800000 in
theorem dread_deep (l : List N) (i : Nat) (v : Value) (w : World) (h : IsCos w v l) (hi : i < l.length) (hl : l.length ≤ 1000000) :
    Calls Tryz.prog 24 #[v, .int .i64 (i : Int), .int .i64 65] w fun e w' => RdEnd w l.length (tk 0 (l.drop i)) e w' ∧ Below w.heap.size w w' := by
  rw [tk]
  obtain ⟨a, c, rfl⟩ := h.form
  have hi' : (i : Int) < (l.length : Int) := by omega
  have hA : ∀ o, Below w.heap.size w (w.alloc o) := fun o => (Below.refl _ _).alloc (Nat.le_refl _) _
  clear h
  go_enter Tryz.func24, Tryz.ntmps24
  go_wp2
  refine bodyPost_ret (v := .tuple #[ztree, .int .i64 (-1)]) (by simp [results, Tryz.results24, go_sem, ztree]) rfl ?_
  exact ⟨rfl, hA _⟩
namespace Cc
theorem tcells_at {w : World} {B : Nat} {x : N} {kv : Value} (h : w.heap[B]? = some (.cells (tcells x kv) 31 (0, 0))) :
    (w.cell? ⟨B, 0, none⟩ = some (.int .i8 x.op) ∧ w.cell? ⟨B, 1, none⟩ = some (.int .i64 x.proj) ∧ w.cell? ⟨B, 2, none⟩ = some (.bool x.inj) ∧ w.cell? ⟨B, 3, none⟩ = some (.int .u8 x.head) ∧ w.cell? ⟨B, 4, none⟩ = some (.int .i64 x.label) ∧ w.cell? ⟨B, 5, none⟩ = some (.int .u8 x.frm) ∧ w.cell? ⟨B, 6, none⟩ = some (.int .u8 x.tto) ∧ w.cell? ⟨B, 7, none⟩ = some kv) ∧
    (w.frozen? ⟨B, 0, none⟩ = false ∧ w.frozen? ⟨B, 1, none⟩ = false ∧ w.frozen? ⟨B, 2, none⟩ = false ∧ w.frozen? ⟨B, 3, none⟩ = false ∧ w.frozen? ⟨B, 4, none⟩ = false ∧ w.frozen? ⟨B, 5, none⟩ = false ∧ w.frozen? ⟨B, 6, none⟩ = false ∧ w.frozen? ⟨B, 7, none⟩ = false) := by
  refine ⟨⟨?_, ?_, ?_, ?_, ?_, ?_, ?_, ?_⟩, ?_, ?_, ?_, ?_, ?_, ?_, ?_, ?_⟩
  all_goals first
    | exact frozen_of_row _ _ _ _ _ h
    | (rw [cell_of_row _ _ _ _ _ _ h]; rfl)
/-- A tree laid over another. -/
def set8 (w : World) (B : Nat) (x : N) (kv : Value) : World :=
  (((((((w.setCell ⟨B, 0, none⟩ (.int .i8 x.op)).setCell ⟨B, 1, none⟩ (.int .i64 x.proj)).setCell ⟨B, 2, none⟩ (.bool x.inj)).setCell ⟨B, 3, none⟩ (.int .u8 x.head)).setCell ⟨B, 4, none⟩ (.int .i64 x.label)).setCell ⟨B, 5, none⟩ (.int .u8 x.frm)).setCell ⟨B, 6, none⟩ (.int .u8 x.tto)).setCell ⟨B, 7, none⟩ kv
theorem set8_same {w : World} {B : Nat} {x y : N} {kv kw : Value} (h : w.heap[B]? = some (.cells (tcells x kv) 31 (0, 0))) : (set8 w B y kw).heap[B]? = some (.cells (tcells y kw) 31 (0, 0)) := by
  unfold set8
  have h1 := heap_setCell_same _ _ 0 _ _ (.int .i8 y.op) h
  have h2 := heap_setCell_same _ _ 1 _ _ (.int .i64 y.proj) h1
  have h3 := heap_setCell_same _ _ 2 _ _ (.bool y.inj) h2
  have h4 := heap_setCell_same _ _ 3 _ _ (.int .u8 y.head) h3
  have h5 := heap_setCell_same _ _ 4 _ _ (.int .i64 y.label) h4
  have h6 := heap_setCell_same _ _ 5 _ _ (.int .u8 y.frm) h5
  have h7 := heap_setCell_same _ _ 6 _ _ (.int .u8 y.tto) h6
  have h8 := heap_setCell_same _ _ 7 _ _ kw h7
  rw [h8]
  simp [tcells]
theorem set8_other {w : World} {B : Nat} {y : N} {kw : Value} (k : Nat) (h : k ≠ B) : (set8 w B y kw).heap[k]? = w.heap[k]? := by
  unfold set8
  iterate 8 rw [Below.heap_setCell _ _ _ _ (by exact h)]
theorem set8_size {w : World} {B : Nat} {y : N} {kw : Value} : (set8 w B y kw).heap.size = w.heap.size := by
  unfold set8; simp [World.setCell]
theorem set8_below {w0 w : World} {B : Nat} {y : N} {kw : Value} {n : Nat} (h : Below n w0 w) (hn : n ≤ B) : Below n w0 (set8 w B y kw) := by
  unfold set8
  iterate 8 refine Below.setCell ?_ hn _
  exact h
end Cc
set_option maxHeartbeats 1600000 in
theorem dread_bad (n : Nat) (l : List N) (i : Nat) (x : N) (v : Value) (w : World) (h : IsCos w v l) (hx : l[i]? = some x) (hl : l.length ≤ 1000000) (hn : n < 64) (hc : cls x = none) :
    Calls Tryz.prog 24 #[v, .int .i64 (i : Int), .int .i64 (65 - ((n + 1 : Nat) : Int))] w fun e w' => RdEnd w l.length (tk (n + 1) (l.drop i)) e w' ∧ Below w.heap.size w w' := by
  have hi : i < l.length := (List.getElem?_eq_some_iff.1 hx).1
  have he : tk (n + 1) (l.drop i) = none := by rw [drop_at hx, tk, hc]
  rw [he]
  have hA : ∀ o, Below w.heap.size w (w.alloc o) := fun o => (Below.refl _ _).alloc (Nat.le_refl _) _
  have h' : IsCos (w.alloc (.cells (tcells ⟨0, 0, false, 0, 0, 0, 0⟩ (.slice none 0 0)) 31)) v l := h.below (hA _)
  obtain ⟨b, o, c, rfl, hA8⟩ := h'.at hx
  obtain ⟨W0, hW0⟩ : ∃ W0, W0 = w.alloc (.cells (tcells ⟨0, 0, false, 0, 0, 0, 0⟩ (.slice none 0 0)) 31) := ⟨_, rfl⟩
  have hi' : (i : Int) < (l.length : Int) := by omega
  have cg : ∀ W, Calls Tryz.prog 60 #[.agg #[.int .i8 x.op, .int .i64 x.proj, .bool x.inj, .int .u8 x.head, .int .i64 x.label, .int .u8 x.frm, .int .u8 x.tto]] W fun e w' => e = .returned (.bool false) ∧ Below W.heap.size W w' := fun W => by have := dgood_any x W; rwa [hc] at this
  have hd : (65 - ((n + 1 : Nat) : Int)) ≤ 64 := by omega
  generalize (65 - ((n + 1 : Nat) : Int)) = dp at *
  clear h h' he hx hc
  go_enter Tryz.func24, Tryz.ntmps24
  have HB6 : Aside (∀ W w', Below W.heap.size W w' → W = w.alloc (.cells #[.int .i8 0, .int .i64 0, .bool false, .int .u8 0, .int .i64 0, .int .u8 0, .int .u8 0, .slice none 0 0] 31) → w'.heap[w.heap.size]? = some (.cells (tcells ⟨0, 0, false, 0, 0, 0, 0⟩ (.slice none 0 0)) 31 (0, 0)) ∧ Below w.heap.size w w') := by
    rintro W w' hB rfl
    exact ⟨(hB.block w.heap.size (by simp)).trans (heap_top _ _), (hA _).trans (hB.mono (by simp))⟩
  obtain ⟨g0, g1, g2, g3, g4, g5, g6⟩ := hA8
  unfold tcells at g0 g1 g2 g3 g4 g5 g6
  go_wp2_with (go_at_call 60; refine (cg _).mono ?_; rintro e w1 ⟨rfl, hB1⟩; obtain ⟨hz, hB2⟩ := HB6.out _ _ hB1 rfl; have HZ : Aside (w1.heap[w.heap.size]? = some (.cells (tcells ⟨0, 0, false, 0, 0, 0, 0⟩ (.slice none 0 0)) 31 (0, 0))) := hz; obtain ⟨⟨z0, z1, z2, z3, z4, z5, z6, z7⟩, y0, y1, y2, y3, y4, y5, y6, y7⟩ := tcells_at hz)
  obtain ⟨W9, hW9⟩ : ∃ W9, W9 = set8 w1 w.heap.size ⟨0, 0, false, 0, 0, 0, 0⟩ (.slice none 0 0) := ⟨_, rfl⟩
  have hb9 : Below w.heap.size w W9 := by rw [hW9]; exact set8_below hB2 (Nat.le_refl _)
  have hz9 : W9.heap[w.heap.size]? = some (.cells (tcells ⟨0, 0, false, 0, 0, 0, 0⟩ (.slice none 0 0)) 31 (0, 0)) := by rw [hW9]; exact set8_same HZ.out
  obtain ⟨⟨v0, v1, v2, v3, v4, v5, v6, v7⟩, -⟩ := tcells_at hz9
  change bodyPost _ _ _ _ _ (set8 w1 w.heap.size ⟨0, 0, false, 0, 0, 0, 0⟩ (.slice none 0 0))
  rw [← hW9]
  refine bodyPost_ret (v := .tuple #[ztree, .int .i64 (-1)]) (by simp [results, Tryz.results24, go_sem, ztree, v0, v1, v2, v3, v4, v5, v6, v7]) rfl ?_
  exact ⟨rfl, hb9⟩
end Go.Proofs.YtaaokecdmbmgbaaGreatDoor
