/- What the document's Modules answers. -/
import Derived.Test.YtpikfdkgblghhaaGreatDoorXbh
import Derived.Test.YtpikfdkgblghhaaGreatDoorXbm
import Derived.Test.YtpikfdkgblghhaaGreatDoorXaf
namespace Go.Proofs.YtpikfdkgblghhaaGreatDoor
open Go.RowKit
set_option maxRecDepth 100000
set_option linter.unusedSimpArgs false

set_option maxHeartbeats 16000000 in
theorem refModules_any (l : List Md) (hf : FitsM l) (v : Value) (w : World) (hl : IsMods w v l) :
    Calls Tryz.prog 35 #[v] w fun e w' => e = .returned (.int .i64 (modN l : Int)) ∧ Below w.heap.size w w' := by
  obtain ⟨a, c, rfl⟩ := RowOf.form hl
  by_cases h8 : 8 < l.length
  · have h8' : (8 : Int) < (l.length : Int) := by omega
    have HR : Aside (modN l = 17) := modN_many h8
    go_enter Tryz.func35, Tryz.ntmps35
    go_wp2_with fail
    go_ret
    rw [HR.out]
    exact ⟨rfl, Below.refl _ _⟩
  have h8' : decide ((8 : Int) < (l.length : Int)) = false := by simp; omega
  have HF : Aside (FitsM l) := hf
  have hl8 : l.length ≤ 8 := by omega
  clear h8 hf
  go_enter Tryz.func35, Tryz.ntmps35
  go_wp2_with fail
  clear h8'
  go_loopg [3] l.length (fun g t wr => ∃ k n : Nat, k + g = l.length ∧ t = .int .i64 (k : Int) ∧ wr = w.drewN n ∧ Aside (∀ j x, j < k → l[j]? = some x → big x = false))
  case atStart => exact ⟨0, 0, by omega, rfl, rfl, fun j x hj => absurd hj (by omega)⟩
  case round =>
    obtain ⟨k, nd, hkg, rfl, rfl, HK⟩ := hrel
    by_cases hk : k < l.length
    · have hk' : (k : Int) < (l.length : Int) := by omega
      have hk0 : (0 : Int) ≤ (k : Int) := by omega
      obtain ⟨x, hx⟩ := getA hk
      have hxm := List.mem_of_getElem? hx
      obtain ⟨b1, o1, rfl, hlc, hb1, ia, ic, da, dc, hI, hD, p0, p1, p2, p3, p4⟩ := hl.at hx
      have hil := HF.out.imps x hxm
      have hdl := HF.out.defs x hxm
      have e1 : IntKind.i64.wrap ((x.imps.length : Int) + (x.defs.length : Int)) = (x.imps.length : Int) + (x.defs.length : Int) := IntWalk.i64_in _ (by omega)
      by_cases hbg : 64 < x.imps.length + x.defs.length
      · have hbg' : decide ((64 : Int) < (x.imps.length : Int) + (x.defs.length : Int)) = true := by simp; omega
        have HR : Aside (modN l = 17) := modN_big (by omega) (some_big hx (by unfold big; simpa using hbg))
        clear hx hl hI hD hbg
        go_wp2_with fail
        go_quiet (fail)
        go_wp2_with fail
        go_ret
        rw [HR.out]
        exact ⟨rfl, below_drewN (below_drewN (Below.refl _ _) _) _⟩
      · have hbg' : decide ((64 : Int) < (x.imps.length : Int) + (x.defs.length : Int)) = false := by simp; omega
        have HBG : Aside (∀ j y, j < k + 1 → l[j]? = some y → big y = false) := fun j y hj hy => by
          by_cases e : j = k
          · subst e; rw [hx] at hy; cases hy; unfold big; simpa using hbg
          · exact HK.out j y (by omega) hy
        clear hx hl hI hD hbg HK
        go_wp2_with fail
        go_quiet (fail)
        go_wp2_with fail
        go_roundg (l.length - (k + 1))
        case measure => omega
        case rel => exact ⟨k + 1, _, by omega, by go_num, by first | rfl | exact World.drewN_drewN, HBG⟩
    · have hk' : ¬ (k : Int) < (l.length : Int) := by omega
      have HNB : Aside (l.any big = false) := any_big fun j x hj hx => HK.out j x (by omega) hx
      have hB0 : Below w.heap.size w (w.drewN nd) := below_drewN (Below.refl _ _) nd
      clear HK hkg hk
      generalize w.drewN nd = w1 at *
      go_wp2_with fail
      clear hk'
      go_loopg [4, 5] l.length (fun g z t wr => ∃ k n : Nat, k + g = l.length ∧ t = .int .i64 (k : Int) ∧ z = .int .i64 (n : Int) ∧ n ≤ 1125899906842624 ∧ Below w.heap.size w wr ∧ Aside (n = sumM (l.take k) ∧ chkMs l = chkMs (l.drop k)))
      case atStart => exact ⟨0, 0, by omega, rfl, rfl, by omega, hB0, by simp [sumM], rfl⟩
      case round =>
        clear hB0
        obtain ⟨k, n, hkg, rfl, rfl, hn, hB, HK⟩ := hrel
        have hws := hB.size
        by_cases hk : k < l.length
        · have hk' : (k : Int) < (l.length : Int) := by omega
          have hk0 : (0 : Int) ≤ (k : Int) := by omega
          obtain ⟨x, hx⟩ := getA hk
          have hxm := List.mem_of_getElem? hx
          obtain ⟨b1, o1, rfl, hlc, hb1, ia, ic, da, dc, hI, hD, p0, p1, p2, p3, p4⟩ := (hl.below hB).at hx
          have hil := HF.out.imps x hxm
          have hdl := HF.out.defs x hxm
          have htl : ∀ d ∈ x.defs, d.tree.length ≤ 2199023255552 := fun d hd => (HF.out.tree x hxm d hd).len
          have hnm := refIsName_any x.name (HF.out.name x hxm)
          have HIS : Aside (∀ y ∈ x.imps, y.frm.size ≤ maxLen ∧ y.name.size ≤ maxLen ∧ y.t.size ≤ maxLen) := HF.out.istr x hxm
          have HDS : Aside (∀ y ∈ x.defs, y.name.size ≤ maxLen ∧ y.t.size ≤ maxLen) := HF.out.dstr x hxm
          have HTF : Aside (∀ y ∈ x.defs, Fits y.tree) := HF.out.tree x hxm
          have HBD : Aside (∀ e : Nat, chkM x = e → e ≠ 0 → modN l = e) := fun e h h0 => by
            have h1 : chkMs l = chkM x := by rw [HK.out.2, chkMs_bad hx (by rw [h]; exact h0)]
            rw [modN_bad (by omega) HNB.out (by rw [h1, h]; exact h0), h1, h]
          have HGD : Aside (chkM x = 0 → chkMs l = chkMs (l.drop (k + 1))) := fun h => by rw [HK.out.2, chkMs_next hx h]
          have hbx : big x = false := by
            have := List.any_eq_false.1 HNB.out x hxm
            simpa using this
          have hxl : x.imps.length + x.defs.length ≤ 64 := by simp [big] at hbx; omega
          have hST : sumT x.defs ≤ 140737488355328 := by
            have h1 := sumT_le x.defs htl
            have h2 : x.defs.length * 2199023255552 ≤ 64 * 2199023255552 := Nat.mul_le_mul_right _ (by omega)
            omega
          have HN : Aside (n + sumT x.defs = sumM (l.take (k + 1))) := by show _ = _; rw [sumM_next hx, ← HK.out.1]
          have HLE : Aside (sumM (l.take (k + 1)) ≤ 1125899906842624) := by
            show _ ≤ _
            have h1 := sumM_le (l.take (k + 1)) (fun m hm => by
              have := List.any_eq_false.1 HNB.out m (List.mem_of_mem_take hm)
              simpa using this) (fun m hm d hd => (HF.out.tree m (List.mem_of_mem_take hm) d hd).len)
            have h2 : (l.take (k + 1)).length ≤ 8 := by simp; omega
            have h3 : (l.take (k + 1)).length * 140737488355328 ≤ 8 * 140737488355328 := Nat.mul_le_mul_right _ h2
            omega
          have HP1 : Aside (∀ W, Below wr.heap.size wr W → W.cell? ⟨b1, o1 + k * 5 + 1, none⟩ = some (.slice ia x.imps.length ic)) := fun W h => (h.cell (p := ⟨b1, o1 + k * 5 + 1, none⟩) hb1).trans p1
          have HP2 : Aside (∀ W, Below wr.heap.size wr W → W.cell? ⟨b1, o1 + k * 5 + 2, none⟩ = some (.slice da x.defs.length dc)) := fun W h => (h.cell (p := ⟨b1, o1 + k * 5 + 2, none⟩) hb1).trans p2
          clear hx hl HK hbx p1 p2 p3 p4
          by_cases h1 : nameB x.name.data.toList = true
          · have HM : Aside (chkM x = if x.imps.all imB then chkDs x.defs else 18) := by show _ = _; unfold chkM; rw [if_pos h1]
            rw [h1] at hnm
            clear h1
            go_upto_region 14 with (go_at_call 70; refine (hnm _).mono ?_; rintro e w2 ⟨rfl, hB2⟩)
            clear hnm p0
            obtain ⟨wo, hwo⟩ : ∃ wo, wo = wr := ⟨_, rfl⟩
            subst hwo
            go_wp2_with fail
            go_loopg [6] x.imps.length (fun g t w3 => ∃ j : Nat, j + g = x.imps.length ∧ t = .int .i64 (j : Int) ∧ Below wo.heap.size wo w3 ∧ Aside (x.imps.all imB = (x.imps.drop j).all imB))
            case atStart => exact ⟨0, by omega, rfl, hB2, rfl⟩
            case round =>
              clear hB2
              obtain ⟨j, hjg, rfl, hB3, HJ⟩ := hrel
              have hsz := hB3.size
              have c1 := HP1.out _ hB3
              by_cases hj : j < x.imps.length
              · have hj' : (j : Int) < (x.imps.length : Int) := by omega
                have hj0 : (0 : Int) ≤ (j : Int) := by omega
                obtain ⟨y, hy⟩ := getA hj
                obtain ⟨b2, o2, rfl, hlc2, hb2, q0, q1, q2, q3, q4⟩ := (hI.below hB3).at hy
                obtain ⟨z1, z2, z3⟩ := HIS.out y (List.mem_of_getElem? hy)
                have hn1 := refIsName_any y.frm z1
                have hn2 := refIsName_any y.name z2
                have hn3 := isNote_any y.t
                have HNX := imps_next hy
                have HC : Aside (∀ o1 W, Below (wr.alloc o1).heap.size (wr.alloc o1) W → Below wo.heap.size wo W ∧ W.heap[wr.heap.size]? = some o1) := fun o1 W h => ⟨hB3.trans (((Below.refl _ _).alloc (Nat.le_refl _) o1 |>.trans (h.mono (by simp))).mono hsz), (h.block wr.heap.size (by simp)).trans (heap_alloc_new _ _)⟩
                clear hI hD hy htl
                go_upto_region 18 with fail
                go_cut [81] (fun s wc => s = .bool (!imB y) ∧ Below wo.heap.size wo wc)
                case first =>
                  cases e1 : nameB y.frm.data.toList
                  · rw [e1] at hn1
                    have HR : Aside (imB y = false) := by show _ = _; unfold imB; rw [e1]; rfl
                    go_wp2_with (go_at_call_of 70 y.frm; refine (hn1 _).mono ?_; rintro e w2 ⟨rfl, hB2⟩; obtain ⟨hA2, hblk2⟩ := HC.out _ _ hB2)
                    go_meet
                    case rel => exact ⟨by rw [HR.out]; rfl, hA2⟩
                  · rw [e1] at hn1
                    cases e2 : nameB y.name.data.toList
                    · rw [e2] at hn2
                      have HR : Aside (imB y = false) := by show _ = _; unfold imB; rw [e1, e2]; rfl
                      go_wp2_with (first | (go_at_call_of 70 y.frm; refine (hn1 _).mono ?_; rintro e w2 ⟨rfl, hB2⟩; obtain ⟨hA2, hblk2⟩ := HC.out _ _ hB2; have r1 : w2.cell? ⟨wr.heap.size, 1, none⟩ = some (.string y.name) := (block_cells hblk2).1 1) | (go_at_call_of 70 y.name; refine (hn2 _).mono ?_; rintro e w3 ⟨rfl, hB4⟩))
                      go_meet
                      case rel => exact ⟨by rw [HR.out]; rfl, hA2.trans (hB4.mono hA2.size)⟩
                    · rw [e2] at hn2
                      have HR : Aside (imB y = noteB y.t.data.toList) := by show _ = _; unfold imB; rw [e1, e2]; rfl
                      generalize noteB y.t.data.toList = q at hn3 HR
                      go_wp2_with (first | (go_at_call_of 70 y.frm; refine (hn1 _).mono ?_; rintro e w2 ⟨rfl, hB2⟩; obtain ⟨hA2, hblk2⟩ := HC.out _ _ hB2; have r1 : w2.cell? ⟨wr.heap.size, 1, none⟩ = some (.string y.name) := (block_cells hblk2).1 1; have r2 : w2.cell? ⟨wr.heap.size, 2, none⟩ = some (.string y.t) := (block_cells hblk2).1 2; have hws2 : wr.heap.size < w2.heap.size := by (have := hB2.size; simp at this; omega)) | (go_at_call_of 70 y.name; refine (hn2 _).mono ?_; rintro e w3 ⟨rfl, hB4⟩; have r3 := (hB4.cell (p := ⟨wr.heap.size, 2, none⟩) hws2).trans r2) | (go_at_call 71; refine (hn3 _).mono ?_; rintro e w' ⟨rfl, hw'⟩; replace hw' := hw'.symm; subst hw'))
                      go_meet
                      case rel => exact ⟨by rw [HR.out], hA2.trans (hB4.mono hA2.size)⟩
                case rest =>
                  obtain ⟨rfl, hBc⟩ := hcut
                  cases e : imB y
                  · have HR := HBD.out 18 (by rw [HM.out, HJ.out, HNX, e]; rfl) (by decide)
                    have HR : Aside (modN l = 18) := HR
                    go_wp2_with fail
                    go_ret
                    rw [HR.out]
                    exact ⟨rfl, hB.trans (hBc.mono hws)⟩
                  · have HR : Aside (x.imps.all imB = (x.imps.drop (j + 1)).all imB) := by show _ = _; rw [HJ.out, HNX, e]; rfl
                    go_wp2_with fail
                    go_roundg (x.imps.length - (j + 1))
                    case measure => omega
                    case rel => exact ⟨j + 1, by omega, by go_num, hBc, HR⟩
              · have hj' : ¬ (j : Int) < (x.imps.length : Int) := by omega
                have HD0 : Aside (chkM x = chkDs x.defs) := by
                  show _ = _
                  rw [HM.out, HJ.out, List.drop_of_length_le (by omega)]; rfl
                clear HJ HM hI HIS
                go_wp2_with fail
                clear c1
                go_loopg [4, 8] x.defs.length (fun g z t w3 => ∃ j m : Nat, j + g = x.defs.length ∧ t = .int .i64 (j : Int) ∧ z = .int .i64 (m : Int) ∧ m ≤ n + 140737488355328 ∧ Below wo.heap.size wo w3 ∧ Aside (m = n + sumT (x.defs.take j) ∧ chkM x = chkDs (x.defs.drop j)))
                case atStart => exact ⟨0, n, by omega, rfl, rfl, by omega, hB3, by simp [sumT], HD0.out⟩
                case round =>
                  clear hB3 hsz hjg hj hj' HD0
                  obtain ⟨j, m, hjg, rfl, rfl, hm, hB3, HJ⟩ := hrel
                  have hsz := hB3.size
                  have c2 := HP2.out _ hB3
                  by_cases hj : j < x.defs.length
                  · have hj' : (j : Int) < (x.defs.length : Int) := by omega
                    have hj0 : (0 : Int) ≤ (j : Int) := by omega
                    obtain ⟨y, hy⟩ := getA hj
                    obtain ⟨b2, o2, rfl, hlc2, hb2, ta, tc, hnod, q0, q1, q2, q3, q4, q5⟩ := (hD.below hB3).at hy
                    obtain ⟨z1, z2⟩ := HDS.out y (List.mem_of_getElem? hy)
                    have hft := HTF.out y (List.mem_of_getElem? hy)
                    have hyl := htl y (List.mem_of_getElem? hy)
                    have hn1 := refIsName_any y.name z1
                    have hn3 := isNote_any y.t
                    have HX : Aside (x.defs[j]? = some y) := hy
                    have HC : Aside (∀ o1 W, Below (wr.alloc o1).heap.size (wr.alloc o1) W → Below wr.heap.size wr W ∧ W.heap[wr.heap.size]? = some o1) := fun o1 W h => ⟨(Below.refl _ _).alloc (Nat.le_refl _) o1 |>.trans (h.mono (by simp)), (h.block wr.heap.size (by simp)).trans (heap_alloc_new _ _)⟩
                    clear hD hy htl
                    go_upto_region 24 with fail
                    go_cut [109] (fun s wc => s = .bool (!dfB y) ∧ Below wr.heap.size wr wc ∧ wr.heap.size < wc.heap.size ∧ wc.cell? ⟨wr.heap.size, 3, none⟩ = some (.slice ta y.tree.length tc))
                    case first =>
                      cases e1 : nameB y.name.data.toList
                      · rw [e1] at hn1
                        have HR : Aside (dfB y = false) := by show _ = _; unfold dfB; rw [e1]; rfl
                        go_wp2_with (go_at_call 70; refine (hn1 _).mono ?_; rintro e w2 ⟨rfl, hB2⟩; obtain ⟨hA2, hblk2⟩ := HC.out _ _ hB2)
                        go_meet
                        case rel => exact ⟨by rw [HR.out]; rfl, hA2, by have := hB2.size; simp at this; omega, (block_cells hblk2).1 3⟩
                      · rw [e1] at hn1
                        have HR : Aside (dfB y = noteB y.t.data.toList) := by show _ = _; unfold dfB; rw [e1]; rfl
                        generalize noteB y.t.data.toList = q at hn3 HR
                        go_wp2_with (first | (go_at_call 70; refine (hn1 _).mono ?_; rintro e w2 ⟨rfl, hB2⟩; obtain ⟨hA2, hblk2⟩ := HC.out _ _ hB2; have r2 : w2.cell? ⟨wr.heap.size, 2, none⟩ = some (.string y.t) := (block_cells hblk2).1 2) | (go_at_call 71; refine (hn3 _).mono ?_; rintro e w' ⟨rfl, hw'⟩; replace hw' := hw'.symm; subst hw'))
                        go_meet
                        case rel => exact ⟨by rw [HR.out], hA2, by have := hB2.size; simp at this; omega, (block_cells hblk2).1 3⟩
                    case rest =>
                      obtain ⟨rfl, hBc, hlt, hc3⟩ := hcut
                      have hAo : Below wo.heap.size wo wc := hB3.trans (hBc.mono hsz)
                      have hAc : Below w.heap.size w wc := hB.trans (hAo.mono hws)
                      cases e : dfB y
                      · have HR := HBD.out 18 (by rw [HJ.out.2, chkDs_bad HX.out e]) (by decide)
                        have HR : Aside (modN l = 18) := HR
                        go_wp2_with fail
                        go_ret
                        rw [HR.out]
                        exact ⟨rfl, hAc⟩
                      · have hck := refCheck_any y.tree hft _ wc (hnod.below hBc)
                        by_cases h0 : (chkN y.tree).1 = 0
                        · have HR : Aside (m + y.tree.length = n + sumT (x.defs.take (j + 1)) ∧ chkM x = chkDs (x.defs.drop (j + 1))) := ⟨by rw [sumT_next HX.out, HJ.out.1]; omega, by rw [HJ.out.2, chkDs_next HX.out e h0]⟩
                          have hm2 : m + y.tree.length ≤ n + 140737488355328 := by have h1 := sumT_mono x.defs (j + 1); have := HR.out.1; omega
                          rw [h0] at hck
                          generalize ((chkN y.tree).2 : Int) = r2 at hck
                          clear h0 HJ HC
                          go_wp2_with (go_at_call 28; refine hck.mono ?_; rintro e w3 ⟨rfl, hB4⟩; have hc4 := (hB4.cell (p := ⟨wr.heap.size, 3, none⟩) hlt).trans hc3)
                          go_roundg (x.defs.length - (j + 1))
                          case measure => omega
                          case rel => exact ⟨j + 1, m + y.tree.length, by omega, by go_num, by go_num, hm2, hAo.trans (hB4.mono hAo.size), HR⟩
                        · have HR := HBD.out (chkN y.tree).1 (by rw [HJ.out.2, chkDs_tree HX.out e h0]) h0
                          have HR : Aside (modN l = (chkN y.tree).1) := HR
                          have h0' : (((chkN y.tree).1 : Int) != 0) = true := by simpa using h0
                          generalize ((chkN y.tree).2 : Int) = r2 at hck
                          clear h0 HJ HC
                          go_wp2_with (go_at_call 28; refine hck.mono ?_; rintro e w3 ⟨rfl, hB4⟩)
                          go_ret
                          rw [HR.out]
                          exact ⟨rfl, hAc.trans (hB4.mono hAc.size)⟩
                  · have hj' : ¬ (j : Int) < (x.defs.length : Int) := by omega
                    have HE : Aside (m = sumM (l.take (k + 1)) ∧ chkMs l = chkMs (l.drop (k + 1))) := ⟨by rw [HJ.out.1, List.take_of_length_le (by omega), HN.out], HGD.out (by rw [HJ.out.2, List.drop_of_length_le (by omega)]; rfl)⟩
                    have hm2 : m ≤ 1125899906842624 := by have := HE.out.1; have := HLE.out; omega
                    clear HJ HN HLE
                    go_wp2_with fail
                    go_roundg (l.length - (k + 1))
                    case measure => omega
                    case rel => exact ⟨k + 1, m, by omega, by go_num, rfl, hm2, hB.trans (hB3.mono hws), HE⟩
          · have h1' : nameB x.name.data.toList = false := by simpa using h1
            have HR := HBD.out 18 (by unfold chkM; rw [if_neg h1]) (by decide)
            have HR : Aside (modN l = 18) := HR
            rw [h1'] at hnm
            clear h1 h1'
            go_wp2_with (go_at_call 70; refine (hnm _).mono ?_; rintro e w2 ⟨rfl, hB2⟩)
            go_ret
            rw [HR.out]
            exact ⟨rfl, hB.trans (hB2.mono hws)⟩
        · have hk' : ¬ (k : Int) < (l.length : Int) := by omega
          have HR : Aside (modN l = if 4096 < n then 17 else 0) := by
            show _ = _
            rw [modN_fin (by omega) HNB.out (by rw [HK.out.2, List.drop_of_length_le (by omega)]; rfl), HK.out.1, List.take_of_length_le (by omega)]
          by_cases h4 : 4096 < n
          · have h4' : (4096 : Int) < (n : Int) := by omega
            go_wp2_with fail
            go_ret
            rw [HR.out, if_pos h4]
            exact ⟨rfl, hB⟩
          · have h4' : decide ((4096 : Int) < (n : Int)) = false := by simp; omega
            go_wp2_with fail
            go_ret
            rw [HR.out, if_neg h4]
            exact ⟨rfl, hB⟩
end Go.Proofs.YtpikfdkgblghhaaGreatDoor
