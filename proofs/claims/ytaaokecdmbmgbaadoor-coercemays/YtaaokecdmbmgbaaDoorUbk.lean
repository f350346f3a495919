/- Package coerce: goes. Package coerce: IsId, Fits. The document's Goes: what fails. -/
import Derived.Test.YtaaokecdmbmgbaaDoorUbb
import Derived.Test.YtaaokecdmbmgbaaDoorUbc
import Derived.Test.YtaaokecdmbmgbaaDoorUbh
import Derived.Test.YtaaokecdmbmgbaaDoorUbj
namespace Go.Proofs.YtaaokecdmbmgbaaDoor
open Go.RowKit Cc
set_option maxRecDepth 100000
set_option linter.unusedSimpArgs false
set_option linter.unusedVariables false
theorem goesP_any : ∀ n, GoC n
  | n => fun c b o w f t hz hl hf ht => by
    cases c with
    | ls p j a => exact goes_ls (Cc.size a) (goesP_any (Cc.size a)) p j a b o w f t (Nat.le_refl _) hl hf ht
    | tw k p j a d =>
      cases k with
      | fn => exact goes_fn (Cc.size a + Cc.size d) (goesP_any (Cc.size a + Cc.size d)) p j a d b o w f t (by omega) (by omega) hl hf ht
      | pr => exact goes_pr (Cc.size a + Cc.size d) (goesP_any (Cc.size a + Cc.size d)) p j a d b o w f t (by omega) (by omega) hl hf ht
      | bx => exact goes_bx (Cc.size a + Cc.size d) (goesP_any (Cc.size a + Cc.size d)) p j a d b o w f t (by omega) (by omega) hl hf ht
    | any => exact goes_any b o w f t hl
    | bs p j g => exact goes_bs b o w p j g f t hl hf ht
    | fl p g l u => exact goes_fl b o w p g l u f t hl hf
termination_by n => n
decreasing_by all_goals (simp only [Cc.size] at hz; omega)
end Go.Proofs.YtaaokecdmbmgbaaDoor
namespace Go.Proofs.YtaaokecdmbmgbaaDoor
open Go.RowKit Cc
set_option maxRecDepth 100000
set_option linter.unusedSimpArgs false
set_option linter.unusedVariables false
namespace Cc
/-- The type that a text is. -/
noncomputable def decT (l : List UInt8) : Ty := by
  classical
  exact if h : ∃ t : Ty, l = T3.Tp.enc t then h.choose else .tq
theorem decT_enc (t : Ty) : decT (T3.Tp.enc t) = t := by
  unfold decT
  have h : ∃ u : Ty, T3.Tp.enc t = T3.Tp.enc u := ⟨t, rfl⟩
  rw [dif_pos h]
  exact (T3.Tp.enc_inj h.choose_spec).symm
def isT (s : ByteArray) : Bool := (T3.Tp.chk s.data.toList).1 == 0
theorem isT_dec {s : ByteArray} (h : isT s = true) : ∃ t : Ty, s = sT t ∧ (T3.Tp.enc t).length ≤ 64 ∧ decT s.data.toList = t := by
  obtain ⟨t, e, hl⟩ := T3.Tp.chk_dec (bs := s.data.toList) (by simpa [isT] using h)
  refine ⟨t, ?_, hl, by rw [e]; exact decT_enc t⟩
  rw [T3.S_of s, e]
noncomputable def fitB (q : Option C) (f t : ByteArray) : Bool := match q with
  | none => false
  | some c => isT f && (isT t && goT c (decT f.data.toList) (decT t.data.toList))
def id0 : Option C → Bool
  | none => false
  | some c => idB c
end Cc
set_option maxHeartbeats 800000 in
theorem coIsType_any (s : ByteArray) (w : World) :
    Calls Tryd.prog 26 #[.string s] w fun e w' => e = .returned (.bool (isT s)) ∧ w' = w := by
  have HI : Aside (isT s = ((T3.Tp.chk s.data.toList).1 == 0)) := rfl
  have hc := T3.check_any s w
  generalize isT s = I at *
  generalize (T3.Tp.chk s.data.toList).1 = c1 at *
  generalize (T3.Tp.chk s.data.toList).2 = c2 at *
  go_enter Tryd.func26, Tryd.ntmps26
  go_wp2_with (go_at_call 48; refine hc.mono ?_; rintro e w' ⟨rfl, rfl⟩)
  go_ret
  refine ⟨ret_b ?_, rfl⟩
  rw [HI.out]
  first | rfl | (rw [Bool.eq_iff_iff]; simp)
set_option maxHeartbeats 1600000 in
theorem IsId_any (l : List N) (v : Value) (w : World) (h : IsCos w v l) (hl : l.length ≤ 1000000) :
    Calls Tryd.prog 20 #[v] w fun e w' => e = .returned (.bool (id0 (Cc.whole l))) ∧ Below w.heap.size w w' := by
  have hm := May_any l v w h hl
  obtain ⟨a, c, rfl⟩ := h.form
  have HI : Aside ((Cc.whole l).isSome = true → id0 (Cc.whole l) = l.all idN) := by
    intro hs
    obtain ⟨d, hd⟩ := Option.isSome_iff_exists.1 hs
    obtain ⟨e, -, -⟩ := whole_iff.1 hd
    rw [hd, id0, idB, e]
  have HN : Aside ((Cc.whole l).isSome = false → id0 (Cc.whole l) = false) := by
    intro hs
    have : Cc.whole l = none := by simpa using hs
    rw [this]; rfl
  generalize id0 (Cc.whole l) = R at *
  generalize (Cc.whole l).isSome = M at *
  have HL : Aside (IsCos w (.slice a l.length c) l) := h
  clear h
  cases M
  · have HN9 : Aside (R = false) := HN.out rfl
    clear HN HI
    go_enter Tryd.func20, Tryd.ntmps20
    go_wp2_with (go_at_call 18; refine hm.mono ?_; rintro e w' ⟨rfl, hB⟩)
    go_ret
    exact ⟨ret_b HN9.out.symm, hB⟩
  · have HR : Aside (R = l.all idN) := HI.out rfl
    clear HI HN
    go_enter Tryd.func20, Tryd.ntmps20
    go_wp2_with (go_at_call 18; refine hm.mono ?_; rintro e w' ⟨rfl, hB⟩; clear hm)
    go_loopg [10] l.length (fun gq tq wr => ∃ k : Nat, k + gq = l.length ∧ tq = .int .i64 (k : Int) ∧ Below w.heap.size w wr ∧ Aside (R = (l.drop k).all idN))
    case atStart => exact ⟨0, by omega, rfl, hB, by rw [Aside, HR.out]; simp⟩
    case round =>
      clear hB
      obtain ⟨k, hkg, rfl, hB, HD⟩ := hrel
      by_cases hk : k < l.length
      · have hk' : (k : Int) < (l.length : Int) := by omega
        obtain ⟨x, hx⟩ : ∃ x, l[k]? = some x := ⟨_, List.getElem?_eq_getElem hk⟩
        obtain ⟨b1, o1, c1, he, hA⟩ := (HL.out.below hB).at hx
        injection he with he _ hce
        subst he hce
        obtain ⟨p0, p1, p2, p3, p4, p5, p6⟩ := hA
        have HS : Aside (R = (idN x && (l.drop (k + 1)).all idN)) := by rw [Aside, HD.out, drop_at hx, List.all_cons]
        have HB2 : Aside (∀ o, Below w.heap.size w (wr.alloc o)) := fun o => below_al hB hB.size o
        clear hx HD
        by_cases h1 : x.proj = 0
        · have h1' : (x.proj != 0) = false := by simp [h1]
          cases h2 : x.inj
          · rw [h2] at p2
            by_cases h3 : x.op = 7
            · have HF : Aside (R = false) := by rw [Aside, HS.out, idN, h3]; simp
              rw [h3] at p0
              clear h1
              go_wp2
              go_ret
              exact ⟨ret_b HF.out.symm, HB2.out _⟩
            · have h3' : (x.op == 7) = false := by simpa using h3
              have HF : Aside (R = (l.drop (k + 1)).all idN) := by rw [Aside, HS.out, idN, h1, h2]; simp [h3]
              clear h1 h3
              go_wp2
              go_roundg (l.length - (k + 1))
              case measure => omega
              case rel => exact ⟨k + 1, by omega, by go_num, HB2.out _, HF⟩
          · have HF : Aside (R = false) := by rw [Aside, HS.out, idN, h2]; simp
            rw [h2] at p2
            clear h1
            go_wp2
            go_ret
            exact ⟨ret_b HF.out.symm, HB2.out _⟩
        · have h1' : (x.proj != 0) = true := by simpa using h1
          have HF : Aside (R = false) := by rw [Aside, HS.out, idN]; simp [h1]
          clear h1
          go_wp2
          go_ret
          exact ⟨ret_b HF.out.symm, HB2.out _⟩
      · have hk' : ¬ (k : Int) < (l.length : Int) := by omega
        have HF : Aside (R = true) := by rw [Aside, HD.out, List.drop_of_length_le (by omega)]; rfl
        go_wp2
        go_ret
        exact ⟨ret_b HF.out.symm, hB⟩
set_option maxHeartbeats 1600000 in
theorem Fits_any (l : List N) (v : Value) (w : World) (h : IsCos w v l) (hl : l.length ≤ 1000000) (f t : ByteArray) :
    Calls Tryd.prog 21 #[v, .string f, .string t] w fun e w' => e = .returned (.bool (fitB (Cc.whole l) f t)) ∧ Below w.heap.size w w' := by
  obtain ⟨b, o, hL, hc⟩ := whole_is l v w h hl
  have n1 := eq_nil
  have n0 := eq_nil0
  have m1 := ne_nil
  have m0 := ne_nil0
  have hB := Below.refl w.heap.size w
  have c1 := coIsType_any f
  have c2 := coIsType_any t
  rcases wv_form b o (Cc.whole l) with ⟨e1, e2⟩ | ⟨c, T, u, e1, e2⟩
  · have HE : Aside (fitB (Cc.whole l) f t = false) := by rw [e1]; rfl
    rw [e2] at hc
    generalize fitB (Cc.whole l) f t = R at *
    clear e1 e2 hL
    go_enter Tryd.func21, Tryd.ntmps21
    go_wp2_with (go_at_call 42; refine (hc _ hB).mono ?_; rintro e w1 ⟨rfl, hB, -⟩)
    go_ret
    exact ⟨ret_b (by rw [HE.out]), hB⟩
  · rw [e2] at hc
    rw [e1, fitB]
    cases h1 : isT f
    · rw [h1] at c1
      clear e1 e2 hL
      go_enter Tryd.func21, Tryd.ntmps21
      go_wp2_with (first | (go_at_call 42; refine (hc _ hB).mono ?_; rintro e w1 ⟨rfl, hB, -⟩; clear hc) | (go_at_call 26; refine (c1 _).mono ?_; rintro e w2 ⟨rfl, rfl⟩; clear c1))
      go_ret
      exact ⟨rfl, hB⟩
    cases h2 : isT t
    · rw [h1] at c1
      rw [h2] at c2
      clear e1 e2 hL
      go_enter Tryd.func21, Tryd.ntmps21
      go_wp2_with (first | (go_at_call 42; refine (hc _ hB).mono ?_; rintro e w1 ⟨rfl, hB, -⟩; clear hc) | (go_at_call 26; refine (c1 _).mono ?_; rintro e w2 ⟨rfl, rfl⟩; clear c1) | (go_at_call 26; refine (c2 _).mono ?_; rintro e w2 ⟨rfl, rfl⟩; clear c2))
      go_ret
      exact ⟨rfl, hB⟩
    rw [h1] at c1
    rw [h2] at c2
    obtain ⟨tf, rfl, hlf, hdf⟩ := isT_dec h1
    obtain ⟨tg, rfl, hlt, hdt⟩ := isT_dec h2
    rw [hdf, hdt]
    have cg : ∀ W, Below w.heap.size w W → Calls Tryd.prog 44 #[.iface T u, .string (sT tf), .string (sT tg)] W fun e w' => e = .returned (.bool (goT c tf tg)) ∧ Below w.heap.size w w' := by
      intro W hW
      have hh := goesP_any (Cc.size c) c b o W tf tg (Nat.le_refl _) (hL W c hW e1) hlf hlt
      rw [e1, wv] at e2
      rw [e2] at hh
      exact hh.mono (by rintro e w' ⟨rfl, hB⟩; exact ⟨rfl, hW.trans (hB.mono hW.size)⟩)
    generalize goT c tf tg = R at *
    generalize sT tf = sf at *
    generalize sT tg = st at *
    clear e1 e2 hL h1 h2 hdf hdt
    go_enter Tryd.func21, Tryd.ntmps21
    go_wp2_with (first | (go_at_call 42; refine (hc _ hB).mono ?_; rintro e w1 ⟨rfl, hB, -⟩; clear hc) | (go_at_call 26; refine (c1 _).mono ?_; rintro e w2 ⟨rfl, rfl⟩; clear c1) | (go_at_call 26; refine (c2 _).mono ?_; rintro e w2 ⟨rfl, rfl⟩; clear c2) | (go_at_call 44; refine (cg _ hB).mono ?_; rintro e w3 ⟨rfl, hB⟩))
    go_ret
    exact ⟨rfl, hB⟩
end Go.Proofs.YtaaokecdmbmgbaaDoor
namespace Go.Proofs.YtaaokecdmbmgbaaDoor
open Go.RowKit Cc
set_option maxRecDepth 100000
set_option linter.unusedSimpArgs false
set_option linter.unusedVariables false
set_option maxHeartbeats 6400000 in
theorem dGoes_fl (p : Int) (h : H) (l : Int) (g : H) : DgC (.fl p h l g) := by
  intro v lo hi w f t hd hh hf ht
  obtain rfl : v = .slice none 0 0 := hd
  rw [show nod (.fl p h l g) = ⟨7, p, false, hB h, l, hB h, hB g⟩ from rfl]
  have q1 : ((sT f).toList == [63]) = T3.Tp.isq f := T3.Tp.isq_S f
  have q2 : ((sT t).toList == [63]) = T3.Tp.isq t := T3.Tp.isq_S t
  have cg := dGround_any (h)
  obtain ⟨F, hF⟩ : ∃ F, F = endT (p != 0) (h) f := ⟨_, rfl⟩
  obtain ⟨Gt, hGt⟩ : ∃ G, G = endT false (h) t := ⟨_, rfl⟩
  have hFl : (T3.Tp.enc F).length ≤ 64 := by rw [hF]; exact endT_len hf
  have hGl : (T3.Tp.enc Gt).length ≤ 64 := by rw [hGt]; exact endT_len ht
  have HS1 : Aside (p = 0 → F = f ∧ sideB (p != 0) (h) f = decide (hdI F = hB (h))) := by
    rintro rfl
    have : F = f := hF
    exact ⟨this, by rw [this]; rfl⟩
  have HS2 : Aside (p ≠ 0 → F = gT (h) ∧ (T3.Tp.isq f = true → sideB (p != 0) (h) f = decide (hdI F = hB (h))) ∧ (T3.Tp.isq f = false → sideB (p != 0) (h) f = false)) := by
    intro hp
    have hp' : (p != 0) = true := by simpa using hp
    have e1 : F = gT (h) := by rw [hF, hp']; rfl
    refine ⟨e1, fun h => ?_, fun h => ?_⟩
    · rw [e1, gT_hd, hp']; simpa [sideB, isq_iff] using h
    · rw [hp']; simpa [sideB, isq_iff] using h
  have HG : Aside (goT (.fl p h l g) f t = sideB (p != 0) h f) := rfl
  generalize goT (.fl p h l g) f t = G at *
  obtain ⟨hF1, hF2⟩ := sT_head F
  go_enter Tryd.func17, Tryd.ntmps17
  go_upto_region 3 with fail
  obtain ⟨W0, hW0⟩ : ∃ W0, W0 = w.alloc (.cells #[.int .i8 7, .int .i64 p, .bool false, .int .u8 (hB h), .int .i64 l, .int .u8 (hB h), .int .u8 (hB g), .slice none 0 0] 36) := ⟨_, rfl⟩
  have hB0 : Below w.heap.size w W0 := by rw [hW0]; exact (Below.refl _ _).alloc (Nat.le_refl _) _
  have hT : W0.cell? ⟨w.heap.size, 0, none⟩ = some (.int .i8 7) ∧ W0.cell? ⟨w.heap.size, 1, none⟩ = some (.int .i64 p) ∧ W0.cell? ⟨w.heap.size, 2, none⟩ = some (.bool false) ∧ W0.cell? ⟨w.heap.size, 3, none⟩ = some (.int .u8 (hB h)) ∧ W0.cell? ⟨w.heap.size, 7, none⟩ = some (.slice none 0 0) ∧ w.heap.size < W0.heap.size := by rw [hW0]; simp
  rw [← hW0]
  clear hW0
  obtain ⟨t0, t1, t2, t3, t7, t8⟩ := hT
  have HT : Aside (∀ W, Below W0.heap.size W0 W → W.cell? ⟨w.heap.size, 0, none⟩ = some (.int .i8 7) ∧ W.cell? ⟨w.heap.size, 2, none⟩ = some (.bool false) ∧ W.cell? ⟨w.heap.size, 3, none⟩ = some (.int .u8 (hB h)) ∧ W.cell? ⟨w.heap.size, 7, none⟩ = some (.slice none 0 0)) := fun W h =>
    ⟨(h.cell (p := ⟨w.heap.size, 0, none⟩) t8).trans t0, (h.cell (p := ⟨w.heap.size, 2, none⟩) t8).trans t2, (h.cell (p := ⟨w.heap.size, 3, none⟩) t8).trans t3, (h.cell (p := ⟨w.heap.size, 7, none⟩) t8).trans t7⟩
  clear t0 t2 t7
  go_upto_if 21 with fail
  go_cut [1] (fun s1 wc => s1 = .string (sT F) ∧ Below W0.heap.size W0 wc ∧ Aside (sideB (p != 0) (h) f = decide (hdI F = hB (h))))
  case first =>
    by_cases hp : p = 0
    · have hp' : (p != 0) = false := by simp [hp]
      have e1 := (HS1.out hp).1
      have e2 := (HS1.out hp).2
      have HE : Aside (sideB (p != 0) (h) f = decide (hdI F = hB (h)) ∧ F = f) := ⟨e2, e1⟩
      clear e1 e2 hp HS1 HS2
      go_wp2_with fail
      go_meet
      case rel => exact ⟨by rw [HE.out.2], Below.refl _ _, HE.out.1⟩
    · have hp' : (p != 0) = true := by simpa using hp
      obtain ⟨e1, e2, e3⟩ := HS2.out hp
      cases hq : T3.Tp.isq f
      · rw [hq] at q1
        have HE : Aside (G = false) := by rw [Aside, HG.out, e3 hq]; first | done | rfl
        clear e1 e2 e3 hq hp HS1 HS2
        go_wp2_with fail
        go_ret
        exact ⟨ret_b HE.out.symm, hB0⟩
      · rw [hq] at q1
        have HE : Aside (sideB (p != 0) (h) f = decide (hdI F = hB (h)) ∧ F = gT (h)) := ⟨e2 hq, e1⟩
        clear e1 e2 e3 hq hp HS1 HS2
        go_wp2_with (go_at_call 40; refine (cg _).mono ?_; rintro e w1 ⟨rfl, hB1⟩)
        go_meet
        case rel => exact ⟨by rw [HE.out.2], hB1, HE.out.1⟩
  case rest =>
    obtain ⟨rfl, hBc, HSF⟩ := hcut
    generalize wc = wa at *
    obtain ⟨t0, t2, t3, t7⟩ := HT.out wa hBc
    have hF1' : (0 : Int) < ((sT F).size : Int) := by omega
    have hF3 := hF2 hF1
    clear hF2 t1 q1 HS1 HS2
    by_cases hFh : hdI F = (hB h)
    · have hne : ((((sT F)[0]'hF1).toNat : Int) != (hB h)) = false := by rw [hF3]; simpa using hFh
      have HE : Aside (G = true) := by
        rw [Aside, HG.out, HSF.out]; exact decide_eq_true hFh
      have HBw : Aside (Below w.heap.size w wa) := hB0.trans (hBc.mono hB0.size)
      clear hF3 hFh t7 t2
      generalize sT F = sF at *
      go_upto_region 7 with fail
      go_quiet (fail)
      go_wp2_with fail
      go_ret
      exact ⟨ret_b HE.out.symm, by first | exact HBw.out | exact below_dN HBw.out _⟩
    · have hne : ((((sT F)[0]'hF1).toNat : Int) != (hB h)) = true := by rw [hF3]; simpa using hFh
      have HE : Aside (G = false) := by
        rw [Aside, HG.out, HSF.out, show decide (hdI F = hB (h)) = false from decide_eq_false (by simpa [hB] using hFh)]; first | done | rfl
      have HBw : Aside (Below w.heap.size w wa) := hB0.trans (hBc.mono hB0.size)
      clear hF3 hFh t7 t0 t2
      generalize sT F = sF at *
      go_upto_region 7 with fail
      go_quiet (fail)
      go_wp2_with fail
      go_ret
      exact ⟨ret_b HE.out.symm, by first | exact HBw.out | exact below_dN HBw.out _⟩
end Go.Proofs.YtaaokecdmbmgbaaDoor
