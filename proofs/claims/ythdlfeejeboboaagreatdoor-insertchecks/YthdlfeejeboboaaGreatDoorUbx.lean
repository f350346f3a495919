/- For every list of nodes, InsertChecks returns true: of a closed tree that is taken the term checks, with just the tree's type; each cast goes between two types that are consistent and not the same; labels are 1, 2, .. each once. Conditions: the listed variables start as the program's text lays them. -/
import Derived.Test.YthdlfeejeboboaaGreatDoorUbv
import Derived.Test.YthdlfeejeboboaaGreatDoorUbw
import Derived.Test.YthdlfeejeboboaaGreatDoorUag
import Derived.Deep.RegionHeld3
import Derived.Deep.DeepCutAuto
import Derived.Test.YthdlfeejeboboaaGreatDoorUbu
import Derived.Test.YthdlfeejeboboaaGreatDoorTie
import Derived.Test.YthdlfeejeboboaaGreatDoorCards
import Derived.Lib.LaidTab
namespace Go.Proofs.YthdlfeejeboboaaGreatDoor
open Go.RowKit Ck
open T3.Tp (Ty enc cns met sta)
open Tr (T Nd nm flat flats wf)
set_option maxRecDepth 100000
set_option linter.unusedSimpArgs false
set_option linter.unusedVariables false

theorem S_injC {a b : List UInt8} (h : S a = S b) : a = b := by
  have := congrArg (fun s : ByteArray => s.data.toList) h
  exact this
theorem wrap_nat {j : Nat} (h : j ≤ 100000) : IntKind.i64.wrap (j : Int) = (j : Int) := by
  exact IntWalk.i64_in _ (by omega)
theorem enc_same {a b : Ty} (h : S (enc a) = S (enc b)) : a = b := T3.Tp.enc_inj (S_injC h)
set_option maxHeartbeats 16000000 in
theorem insertChecks_any (l : List Nd) (hf : Fits l) (hfc : FitC l) (vL : Value) (w : World) (hl : IsNodes w vL l) (hG : HasG w) (hg : 8 ≤ w.heap.size) :
    Calls Tryz.prog 4 #[vL] w fun e w' => e = .returned (.bool true) ∧ Below w.heap.size w w' := by
  obtain ⟨aL, cL, rfl⟩ := hl.form
  have hwk := works11_any w hG hg
  go_enter Tryz.func4, Tryz.ntmps4
  go_wp2_with fail
  refine hwk.mono ?_
  rintro e w1 ⟨rfl, hB1⟩
  clear hwk
  by_cases h4 : 400 < l.length
  · have h4' : (400 : Int) < (l.length : Int) := by omega
    go_wp2_with fail
    go_ret
    exact ⟨rfl, hB1⟩
  have h4' : ¬ (400 : Int) < (l.length : Int) := by omega
  have HEX : Aside (Calls Tryz.prog 19 #[.slice aL l.length cL, .slice none 0 0, .slice none 0 0] w1 (ExEnd w1 l [] [])) := expr_any l hf [] [] (by simp) (by simp) _ _ _ w1 (hl.below hB1) (.inl ⟨rfl, none, 0, rfl⟩) (.inl ⟨rfl, none, 0, rfl⟩) (hG.below hB1) (Nat.le_trans hg hB1.size)
  have HIX : Aside (∀ W, Below w1.heap.size w1 W → Calls Tryz.prog 9 #[.string ⟨#[109]⟩, .slice aL l.length cL, .slice none 0 0, .slice none 0 0] W (IxEnd W ⟨#[109]⟩ l [] [])) := fun W h => iexpr_any ⟨#[109]⟩ (by decide) l hf (by omega) [] [] (by simp) (by simp) _ _ _ W (hl.below (bt hB1 h)) (.inl ⟨rfl, none, 0, rfl⟩) (.inl ⟨rfl, none, 0, rfl⟩) (hG.below (bt hB1 h)) (Nat.le_trans hg (bt hB1 h).size)
  have HB1 : Aside (Below w.heap.size w w1) := hB1
  clear hl hG hg hB1
  go_wp2_with fail
  refine HEX.out.mono ?_
  rintro e w2 ⟨hB2, a, n, c, r, er, at', rfl, hx, hn, htx, -, -⟩
  have hix := HIX.out w2 hB2
  have HB2 : Aside (Below w.heap.size w w2) := bt HB1.out hB2
  clear HEX HIX HB1 hB2
  have HX : Aside (Ex l [] [] r er at') := hx
  have HN : Aside (n = r.length) := hn
  have HTX : Aside (T3.IsTexts w2 (.slice a n c) r) := htx
  clear hx hn htx
  go_wp2_with fail
  refine hix.mono ?_
  rintro e w3 ⟨hB3, hor⟩
  have HB3 : Aside (Below w.heap.size w w3) := bt HB2.out hB3
  have HB23 : Aside (Below w2.heap.size w2 w3) := hB3
  clear hix hB3 HB2
  rcases hor with ⟨er', at2, h0, rfl, ⟨h1, _⟩ | ⟨_, r', h1⟩⟩ | ⟨ts, t, a', va, vs, τ, hI, hτ, rfl, h2, h3⟩
  · exact absurd h1 (by decide)
  · obtain ⟨-, rfl⟩ := Ex.one HX.out h1
    have her : (er != 0) = true := by simpa using h0
    clear h1 HX
    go_wp2_with fail
    go_ret
    exact ⟨rfl, HB3.out⟩
  · obtain ⟨hr, rfl⟩ := Ex.one HX.out (Ex.good hI.env hI.chk ts t hI.len hI.th hI.wf hI.fl a' hI.ok hI.a64 hI.al)
    obtain ⟨M, hM⟩ : ∃ M, M = In.term (In.inT [] a' [] t 0 []).1 := ⟨_, rfl⟩
    obtain ⟨Sx, hSx⟩ : ∃ Sx, Sx = (In.inT [] a' [] t 0 []).2 := ⟨_, rfl⟩
    rw [← hM] at h2
    rw [← hSx] at h3
    have hts : ts = [] := by have := hI.len; simpa using this.symm
    have hok : ckT [] t 0 = .ok a' := by have := hI.ok; rw [hts] at this; exact this
    obtain ⟨t2, hw2, hf2, hmay, -, hhi⟩ := chk_tree hI.chk
    obtain rfl : t2 = t := tree_one hw2 hI.wf (hf2.symm.trans hI.fl)
    have hfl : (flat t2).length ≤ 400 := by rw [← hf2]; omega
    have hck : Co.check M = .ok τ := by rw [hM]; exact In.core_check hw2 (fun x hx => hmay x (by rw [hf2]; exact hx)) hhi (by omega) hI.a64 hok hτ
    have hLb : In.Lb M [] Sx := by
      rw [hM, hSx]
      exact In.lb_T a' hI.a64 t2 [] 0 a' [] [] [] hw2 (fun x hx => hmay x (by rw [hf2]; exact hx)) hok (fun j u h => by simpa using h) In.Sc.nil
    have hSl : Sx.length ≤ 100000 := by
      have z5 := In.sites_T [] a' t2 [] 0 []
      rw [← hSx] at z5
      simp at z5
      omega
    have hMl : M.length ≤ 100000 := by
      obtain ⟨_, _, z3⟩ := In.size_T [] a' t2 [] 0 []
      have z5 := In.sites_T [] a' t2 [] 0 []
      rw [← hM] at z3
      simp at z3 z5
      omega
    have hfM : FitC M := by
      rw [hM]
      refine In.fitM (S := Sx) (by omega) (fun y hy => ?_) hSl (by rw [← hM]; exact hLb)
      have hyl : y ∈ l := by rw [hf2]; exact hy
      exact ⟨hfc.kind y hyl, hfc.kids y hyl, hfc.num y hyl, hfc.str y hyl⟩
    obtain ⟨ra, rc, rfl⟩ := own_len h2
    have hIM : IsNodes w3 (.slice ra M.length rc) M := IsNodes.own h2
    have hr0 : r[0]? = some (enc τ) := by rw [hr]; simp [hτ]
    obtain ⟨tb, to', rfl, hnc, htlt, htc⟩ := txs_at HTX.out hr0
    have hn0 : 0 < n := by rw [HN.out]; exact (List.getElem?_eq_some_iff.1 hr0).1
    have hcc : Calls Tryz.prog 20 #[.slice ra M.length rc] w3 fun e w' => e = .returned (.tuple #[.string (S (enc τ)), .int .i64 0, .int .i64 0]) ∧ Below w3.heap.size w3 w' := by
      have := ccheck_any M hMl hfM _ w3 hIM
      rw [hck] at this
      exact this
    have htc3 : ∀ W, Below w3.heap.size w3 W → W.cell? ⟨tb, to', none⟩ = some (.string (S (enc τ))) := fun W h => ((bt HB23.out h).cell (p := ⟨tb, to', none⟩) htlt).trans (by rw [Nat.add_zero] at htc; exact htc)
    have HTC : Aside (∀ W, Below w3.heap.size w3 W → W.cell? ⟨tb, to', none⟩ = some (.string (S (enc τ)))) := htc3
    have HLB : Aside (In.Lb M [] Sx) := hLb
    have HOS : Aside (w3.ownsRow w2.heap.size 75 5 vs Sx.length (In.srow ⟨#[109]⟩ Sx)) := h3
    obtain ⟨sa, sc, rfl⟩ := own_len h3
    clear h2 h3 hM hSx hI hmay hτ HX HN HTX hr0 hr htc htc3 hok hck hfM hfl hf2 hw2 hhi hLb hts htlt hfc HB23
    obtain ⟨sn, hsn⟩ : ∃ sn, sn = Sx.length := ⟨_, rfl⟩
    rw [← hsn] at hSl ⊢
    have HSN : Aside (sn = Sx.length) := hsn
    clear hsn
    generalize S (enc τ) = sτ at *
    have hmk := make_bools sn hSl
    have hnz : ((n : Int) == 0) = false := by
      rw [beq_eq_false_iff_ne]
      omega
    have hn1 : (0 : Int) < (n : Int) := by omega
    go_wp2_with fail
    refine hcc.mono ?_
    rintro e w4 ⟨rfl, hB4⟩
    have htc4 := HTC.out w4 hB4
    have HB4 : Aside (Below w.heap.size w w4) := bt HB3.out hB4
    have hIM4 := hIM.below hB4
    have HB34 : Aside (Below w3.heap.size w3 w4) := hB4
    clear hcc HTC hIM hB4 HB3
    have hs0 := Sn.new w4 sn (In.seenB M 0) (In.seenB_zero M)
    have hB40 : Below w4.heap.size w4 (w4.alloc (.cells (madeCells #[.bool false] sn) 4)) := (Below.refl _ _).alloc (Nat.le_refl _) _
    have HS0 : Aside (Sn (w4.alloc (.cells (madeCells #[.bool false] sn) 4)) w4.heap.size sn (In.seenB M 0)) := hs0
    have HB40 : Aside (Below w4.heap.size w4 (w4.alloc (.cells (madeCells #[.bool false] sn) 4))) := hB40
    clear hs0 hB40
    go_upto_region 12 with fail
    clear htc4 hnz hn1 hn0 hnc hmk
    obtain ⟨sb, hsb⟩ : ∃ sb, sb = w4.heap.size := ⟨_, rfl⟩
    have HSB : Aside (sb = w4.heap.size) := hsb
    rw [← hsb]
    rw [← hsb] at HS0
    clear hsb
    generalize w4.alloc (.cells (madeCells #[.bool false] sn) 4) = w5 at *
    go_wp2_with fail
    go_loopg [16] M.length (fun g t wr => ∃ k : Nat, k + g = M.length ∧ t = .int .i64 (k : Int) ∧ Aside (Below w4.heap.size w4 wr) ∧ Aside (Sn wr sb sn (In.seenB M k)))
    case atStart => exact ⟨0, by omega, rfl, HB40, HS0⟩
    case round =>
      obtain ⟨k, hkg, rfl, HBr, HSr⟩ := hrel
      have hk0 : (0 : Int) ≤ (k : Int) := by omega
      by_cases hk : k < M.length
      · have hk' : (k : Int) < (M.length : Int) := by omega
        obtain ⟨y, hy⟩ : ∃ y, M[k]? = some y := ⟨_, List.getElem?_eq_getElem hk⟩
        obtain ⟨bb, oo, rfl, hcc, _, hcell⟩ := (hIM4.below HBr.out).at hy
        have q0 := hcell 0 _ rfl
        rw [Nat.add_zero] at q0
        have q1 := hcell 1 _ rfl
        have q2 := hcell 2 _ rfl
        have q3 := hcell 3 _ rfl
        have q4 := hcell 4 _ rfl
        have q5 := hcell 5 _ rfl
        have q6 := hcell 6 _ rfl
        have q7 := hcell 7 _ rfl
        clear hcell
        have HY : Aside (M[k]? = some y) := hy
        clear hy
        obtain ⟨W7, hW7⟩ : ∃ W7, W7 = wr.alloc (.cells #[.int .i8 y.kind, .int .i64 y.kids, .int .i64 y.n, .string y.s, .string y.t, .string y.u, .int .i64 y.ln, .int .i64 y.co] 72) := ⟨_, rfl⟩
        have hBw7 : Below wr.heap.size wr W7 := by rw [hW7]; exact (Below.refl _ _).alloc (Nat.le_refl _) _
        have HB7 : Aside (Below w4.heap.size w4 W7) := bt HBr.out hBw7
        have HS7 : Aside (Sn W7 sb sn (In.seenB M k)) := HSr.out.below hBw7
        have k0 : W7.heap[wr.heap.size]? = some (.cells #[.int .i8 y.kind, .int .i64 y.kids, .int .i64 y.n, .string y.s, .string y.t, .string y.u, .int .i64 y.ln, .int .i64 y.co] 72 (0, 0)) := by rw [hW7]; exact heap_alloc_new _ _
        have hxlt : wr.heap.size < W7.heap.size := by rw [hW7]; simp
        clear hBw7
        by_cases h30 : y.kind = 30
        · obtain ⟨j, f, t, rr, e1, e2, e3, e4, e5, e6, e7, e8⟩ := HLB.out.ok y (List.mem_of_getElem? HY.out) h30
          have HNEW : Aside (In.seenB M k j = false) := In.seenB_new HLB.out HY.out h30 e1
          have HYES : Aside (∀ i, In.seenB M (k + 1) i = if i = j then true else In.seenB M k i) := In.seenB_yes HY.out h30 e1
          have hjl : j < sn := by rw [HSN.out]; exact (List.getElem?_eq_some_iff.1 e2).1
          obtain ⟨gs, cap, hv, hcap, hgs, c2, c3⟩ := own_siteC HOS.out rfl e2
          have hv' : sa = some ⟨gs, 0, none⟩ ∧ sc = cap := by
            have := hv
            rw [← HSN.out] at this
            injection this with a1 a2 a3
            exact ⟨a1, a3⟩
          obtain ⟨rfl, rfl⟩ := hv'
          have hsc : sn ≤ sc := by rw [HSN.out]; exact hcap
          have b37 : Below w3.heap.size w3 W7 := bt HB34.out HB7.out
          have HCO : Aside (∀ W, Below W7.heap.size W7 W → Calls Tryz.prog 21 #[.string (S (enc f)), .string (S (enc t))] W fun e w' => e = .returned (.bool true) ∧ Below W7.heap.size W7 w') := fun W h => (T3.consistent_yes f t e7 e8 W).mono fun e w' ⟨h1, h2⟩ => ⟨by rw [h1, e6], bt h h2⟩
          have hne : ((S (enc f)).toList == (S (enc t)).toList) = false := (Lib.bytes_beq_false_iff _ _).2 (fun e => e5 (enc_same e))
          have HS : Aside (∀ W, Below W7.heap.size W7 W → W.cell? ⟨wr.heap.size, 2, none⟩ = some (.int .i64 y.n) ∧ W.cell? ⟨wr.heap.size, 4, none⟩ = some (.string (S (enc f))) ∧ W.cell? ⟨wr.heap.size, 5, none⟩ = some (.string (S (enc t))) ∧ W.cell? ⟨wr.heap.size, 6, none⟩ = some (.int .i64 y.ln) ∧ W.cell? ⟨wr.heap.size, 7, none⟩ = some (.int .i64 y.co) ∧ W.cell? ⟨sb, j, none⟩ = some (.bool false) ∧ W.cell? ⟨gs, j * 5 + 2, none⟩ = some (.int .i64 y.ln) ∧ W.cell? ⟨gs, j * 5 + 3, none⟩ = some (.int .i64 y.co)) := fun W h => by
            refine ⟨(h.cell (p := ⟨wr.heap.size, 2, none⟩) hxlt).trans ((block_cells k0).1 2), ?_, ?_, (h.cell (p := ⟨wr.heap.size, 6, none⟩) hxlt).trans ((block_cells k0).1 6), (h.cell (p := ⟨wr.heap.size, 7, none⟩) hxlt).trans ((block_cells k0).1 7), ?_, ?_, ?_⟩
            · rw [← e3]; exact (h.cell (p := ⟨wr.heap.size, 4, none⟩) hxlt).trans ((block_cells k0).1 4)
            · rw [← e4]; exact (h.cell (p := ⟨wr.heap.size, 5, none⟩) hxlt).trans ((block_cells k0).1 5)
            · rw [← HNEW.out]; exact (HS7.out.below h).cell hjl
            · exact ((bt b37 h).cell (p := ⟨gs, j * 5 + 2, none⟩) hgs).trans c2
            · exact ((bt b37 h).cell (p := ⟨gs, j * 5 + 3, none⟩) hgs).trans c3
          have HSN7 : Aside (∀ W, Below W7.heap.size W7 W → Sn W sb sn (In.seenB M k)) := fun W h => HS7.out.below h
          clear HNEW HS7 e2 e5 e6 e7 e8 c2 c3 hcap hgs hv b37 k0 hxlt HY
          rw [e3] at q4 hW7
          rw [e4] at q5 hW7
          clear e3 e4
          generalize S (enc f) = sf at *
          generalize S (enc t) = su at *
          have z1 : decide (y.n < 1) = false := by rw [decide_eq_false_iff_not]; omega
          have z2 : decide ((sn : Int) < y.n) = false := by rw [decide_eq_false_iff_not]; omega
          have z3 : IntKind.i64.wrap (y.n - 1) = (j : Int) := by
            have e : y.n - 1 = (j : Int) := by omega
            rw [e]
            exact wrap_nat (by omega)
          have z4 : (0 : Int) ≤ (j : Int) := by omega
          have z5 : (j : Int) < (sn : Int) := by omega
          rw [h30] at q0 hW7
          clear h30 e1
          go_upto_region 17 with fail
          rw [← hW7]
          clear hW7 q0 q1 q2 q3 q4 q5 q6 q7
          obtain ⟨xb, hxb⟩ : ∃ xb, xb = wr.heap.size := ⟨_, rfl⟩
          rw [← hxb] at HS ⊢
          clear hxb
          have hs7 := HS.out W7 (Below.refl _ _)
          obtain ⟨t2, t4, t5, t6, t7, u0, u2, u3⟩ := hs7
          go_cut [150] (fun s wc => s = .bool false ∧ Aside (Below W7.heap.size W7 wc))
          case first =>
            go_region_held3 (fun W => W.cell? ⟨xb, 2, none⟩ = some (.int .i64 y.n) ∧ W.cell? ⟨xb, 4, none⟩ = some (.string sf) ∧ W.cell? ⟨xb, 5, none⟩ = some (.string su) ∧ W.cell? ⟨xb, 6, none⟩ = some (.int .i64 y.ln) ∧ W.cell? ⟨xb, 7, none⟩ = some (.int .i64 y.co) ∧ W.cell? ⟨sb, j, none⟩ = some (.bool false) ∧ W.cell? ⟨gs, j * 5 + 2, none⟩ = some (.int .i64 y.ln) ∧ W.cell? ⟨gs, j * 5 + 3, none⟩ = some (.int .i64 y.co)) (first | exact HS.out _ (by first | assumption | exact below_drew (Below.refl _ _))) (first | (go_at_call 21; refine (HCO.out _ (by first | assumption | exact below_drew (Below.refl _ _))).mono ?_; rintro e w8 ⟨rfl, hB8⟩))
            all_goals
              go_wp2_with fail
              go_meet
              case rel => exact ⟨rfl, by first | exact hB8 | exact below_drew hB8⟩
          case rest =>
            obtain ⟨rfl, HBc⟩ := hcut
            have hsc7 := HSN7.out _ HBc.out
            have p0 := (HS.out _ HBc.out).2.2.2.2.2.1
            have p1 := (HS.out _ HBc.out).1
            have p2 := hsc7.frozen j
            have HSC : Aside (Sn _ sb sn (In.seenB M k)) := hsc7
            clear hsc7 t2 t4 t5 t6 t7 u0 u2 u3
            go_wp2_with fail
            go_roundg (M.length - (k + 1))
            case measure => omega
            case rel => exact ⟨k + 1, by omega, by go_num, (bt HB7.out HBc.out).setCell (by show _ ≤ sb; rw [HSB.out]; exact Nat.le_refl _) _, HSC.out.set hjl HYES.out⟩
        · have e30 : (y.kind != 30) = true := by simpa using h30
          have HS8 : Aside (Sn W7 sb sn (In.seenB M (k + 1))) := HS7.out.congr (In.seenB_no HY.out h30)
          clear HS7 k0 h30 hxlt
          go_wp2_with fail
          rw [← hW7]
          go_roundg (M.length - (k + 1))
          case measure => omega
          case rel => exact ⟨k + 1, by omega, by go_num, HB7, HS8⟩
      · have hk' : ¬ (k : Int) < (M.length : Int) := by omega
        obtain rfl : k = M.length := by omega
        have HS8 : Aside (Sn wr sb sn (In.seenB M M.length)) := HSr
        have HB8 : Aside (Below w.heap.size w wr) := bt HB4.out HBr.out
        have HAL : Aside (∀ j, j < sn → In.seenB M M.length j = true) := fun j hj => In.seenB_all HLB.out (by rw [← HSN.out]; exact hj)
        clear HSr HBr hIM4 HB4 HB40 HS0 hkg
        obtain ⟨w8, hw8⟩ : ∃ w8 : World, w8 = wr := ⟨_, rfl⟩
        subst hw8
        go_wp2_with fail
        go_loopg [18] sn (fun g t wr2 => ∃ k : Nat, k + g = sn ∧ t = .int .i64 (k : Int) ∧ Aside (Below w8.heap.size w8 wr2))
        case atStart => exact ⟨0, by omega, rfl, Below.refl _ _⟩
        case round =>
          obtain ⟨i, hig, rfl, HBr⟩ := hrel
          have hi0 : (0 : Int) ≤ (i : Int) := by omega
          by_cases hi : i < sn
          · have hi' : (i : Int) < (sn : Int) := by omega
            have q0 : wr.cell? ⟨sb, i, none⟩ = some (.bool true) := by rw [← HAL.out i hi]; exact (HS8.out.below HBr.out).cell hi
            go_wp2_with fail
            go_roundg (sn - (i + 1))
            case measure => omega
            case rel => exact ⟨i + 1, by omega, by go_num, HBr⟩
          · have hi' : ¬ (i : Int) < (sn : Int) := by omega
            go_wp2_with fail
            go_ret
            exact ⟨rfl, bt HB8.out HBr.out⟩
end Go.Proofs.YthdlfeejeboboaaGreatDoor
namespace Go.Proofs.YthdlfeejeboboaaGreatDoor
open Go.ChangeShapes Go.WideShapes Go.ChangeAt Go.RowKit

set_option maxRecDepth 100000 in
theorem insertChecks_lifted (os : Os) (started : os.Started) (H : Type) (enc : TypeId × Value → H) :
    ReturnsInHanded {} Tryz.checked os 4 .any (fun w args => (Rows.insertChecksSpec.pre enc Tryz.prog Tryz.f4 [] false w args ∧ laidMetH Tryz.prog laidAll w) ∧ sizedMet enc Tryz.prog Tryz.f4 (OpenSpec.ofChange Rows.insertChecksSpec) false w args)
      (Rows.insertChecksSpec.post enc Tryz.prog Tryz.f4 false true false false) := by
  refine handed_both (C := Tryz.checked) (X := fun w _ => laidMetH Tryz.prog laidAll w) (fun _ _ _ hh h => h.of_heap hh) ownKnobs started (by kernel_rfl) Tryz.func4
    (ChangeSpec.witness_shaped (enc := enc) (C := Tryz.checked) (os := os) (X := fun w _ => laidMetH Tryz.prog laidAll w) false (World.laidAll Tryz.prog os laidAll) #[.slice none 0 0] 8 (World.laidAll_os _ _ _) (World.shaped_of_ZipB (by kernel_rfl) (by kernel_rfl)) (by kernel_rfl) (by kernel_rfl) (by kernel_rfl) (laid_met os _)) ?_
  intro W base args ds gs before hval0 hW hsz0 hL hsh
  have hsz : (DataW.weightsEach Tryz.prog (Tryz.f4.params.toList ++ Rows.insertChecksSpec.plain.varTypes Tryz.prog) (ds ++ gs)).all (· ≤ reachBytes) = true := hsz0
  clear hsz0
  have hval : ∀ (j : Nat) t v, Tryz.f4.params[j]? = some t → args[j]? = some v → Value.okWide Tryz.prog W .any base t v := hval0
  have hW' := hW
  obtain ⟨p, q, hA0, hV, rfl, hfz, hnd⟩ := hW
  have hA : DataW.TrodAll enc Tryz.prog W 0 (fun _ => true) true Tryz.f4.params.toList args.toList ds p := hA0
  rw [Tryz.params4] at hA hval hsz
  obtain ⟨v0, vs0, d0, ds0, p0, q0, hargs, rfl, rfl, h0, r0⟩ := trodAll_cons hA
  obtain ⟨rfl, rfl, rfl⟩ := trodAll_nil r0
  obtain rfl : args = #[v0] := by cases args; simp_all
  obtain ⟨rfl, rfl⟩ := trodVars_none hV
  have hmem : ∀ (j : Nat) t (d : DataW H), [22][j]? = some t → [d0][j]? = some d → ∀ n ∈ d.weights Tryz.prog t, n ≤ 140737488351232 := fun j t d ht hd n hn => by
    have := List.all_eq_true.1 hsz n (DataW.weights_mem_each (j := j) (t := t) (d := d) (by
      have hjl : j < 1 := (List.getElem?_eq_some_iff.1 ht).1
      rw [List.getElem?_append_left (by simpa using hjl)]; exact ht) (by
      have hjl : j < 1 := (List.getElem?_eq_some_iff.1 hd).1
      rw [List.getElem?_append_left (by simpa using hjl)]; exact hd) n hn)
    exact of_decide_eq_true this
  have k0 := h0
  have lt0 : ∀ x ∈ p0, x.block < W.heap.size := by obtain ⟨m, hm⟩ := k0; exact DataW.trod_lt m _ _ _ hm
  obtain ⟨a1, len1, cap1, rfl⟩ := okWide_slice tyNodes (hval 0 22 v0 rfl rfl)
  obtain ⟨l, hl, hF, hfc⟩ : ∃ l : List Tr.Nd, IsNodes W (.slice a1 len1 cap1) l ∧ Fits l ∧ FitC l := by
    obtain ⟨fuel, hf⟩ := h0
    obtain ⟨l, hl, hx, hN⟩ := nodes_open (v := .slice a1 len1 cap1) (p := p0) hf
    refine ⟨l, hl, ⟨?_, fun x h => (hx x h).1, fun x h => (hx x h).2.2.1⟩, ⟨fun x h => (hx x h).2.1.1, fun x h => (hx x h).1, fun x h => (hx x h).2.1.2, fun x h => (hx x h).2.2.1⟩⟩
    rcases hN with rfl | ⟨M, h1, h2⟩
    · simp
    · have := hmem 0 _ _ rfl rfl _ h2; omega
  obtain ⟨hG, hg⟩ := all_of_laid hL hsh
  clear hA0 hval0
  refine (insertChecks_any l hF hfc _ W hl hG hg).mono fun e W' ⟨he, bel⟩ => ?_
  subst he
  exact ⟨_, rfl, _, _, _, [], _, [], hW', trodAll_mk1 (shut_bool Tryz.underlying4 _), (trodAll_cons_mk (Below.trod laidOutAll (by kernel_rfl) (of_decide_eq_true (by kernel_rfl)) k0 bel lt0) trodAll_mk0), rfl, bel.frame _, fun h => by cases h⟩

theorem insertChecks_row : Rows.InsertChecksSaid :=
  OpenClaim.holds_of_wide 4 Tryz.f4 rfl rfl rfl rfl rfl rfl rfl ⟨rfl, rfl, rfl, rfl, rfl⟩ rfl rfl rfl rfl rfl (by kernel_rfl) Tryz.func4 (by kernel_rfl)
    (of_decide_eq_true (by kernel_rfl)) (by unfold Func.isWrapper; first | (rw [if_pos (by decide +kernel)]; kernel_rfl) | (rw [if_neg (by decide +kernel)]; exact ⟨rfl, rfl⟩))
    (fun os started H enc _ => insertChecks_lifted os started H enc)

theorem insertChecks_card : Rows.InsertChecksCardSaid :=
  Claim7.holds_tied_plain_at .later [] [.data, .data, .data, .pinned] true (true, "eb2010a06616d01d00ae693a372f3207991c6114acac4ebda8c3adbbbb569f36") true
    insertChecks_row (fun _ h => by cases h) (by kernel_rfl) (fun _ h => by cases h) insertChecks_row_tie rfl ⟨rfl, rfl⟩ (by kernel_rfl) rfl
    (fun f fn hf hfn => by
      obtain rfl : f = 4 := Option.some.inj ((show Tryz.prog.funcNamed "culprit/culpritlaw11.InsertChecks" = some 4 by kernel_rfl).symm.trans hf) |>.symm
      obtain rfl : fn = Tryz.f4 := (Option.some.inj (Tryz.func4.symm.trans hfn)).symm
      exact ⟨by kernel_rfl, fun j t ht => by
        rw [Tryz.params4] at ht
        have hm : t ∈ [22] := by simpa using Array.mem_of_getElem? ht
        have hall : ([22].all fun u => !Tryz.prog.wantsStandIn u) = true := by kernel_rfl
        exact (show Tryz.prog.wantsStandIn t = false by simpa using List.all_eq_true.1 hall t hm)⟩)
    (by kernel_rfl)
#print axioms insertChecks_card
end Go.Proofs.YthdlfeejeboboaaGreatDoor
