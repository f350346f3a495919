/- What the document's arm reads of a list, a parenthesis. -/
import Derived.Test.YtncnkojbpdemdaaRefIn
namespace Go.Proofs.Ytncnkojbpdemdaa
open Go.RowKit

/-- take, behind whatever was read. -/
theorem rtake_after (w : World) (rb : Nat) (ws : ByteArray) (op : Nat) (hs : ws.size ≤ 2147483647) (c : UInt8) (r : Tp.Res) (f : Tp.Ty → Tp.Ty) (h : RS w rb ws op r) :
    Calls Try.prog 37 #[.pointer (some ⟨rb, 0, none⟩), .string ⟨#[c]⟩] w fun e w' => e = .returned (.tuple #[]) ∧ RS w' rb ws op (thenClose ws.data.toList c f r) ∧ w.grownBy w' (some rb) := by
  match r, h with
  | .error (e, p), h => exact rtake_bad w rb ws op e p h hs ⟨#[c]⟩ (by rw [ByteArray.toList_eq]; rfl)
  | .ok (a, q), h =>
    refine (rtake_at w rb ws q op h hs [c] (by simp)).mono ?_
    rintro e w' ⟨rfl, h1, g⟩
    refine ⟨rfl, ?_, g⟩
    show RS w' rb ws op (Tp.close _ _ _ _)
    unfold Tp.close
    rcases h1 with ⟨hk, h1⟩ | ⟨hk, h1⟩
    · rw [if_pos hk]; exact .inl h1
    · rw [if_neg hk]; exact h1
/-- The bounds of what is closed. -/
theorem rv_close {ws : ByteArray} {q0 q1 : Nat} {r : Tp.Res} {g g' : List UInt8} {c : UInt8} {f : Tp.Ty → Tp.Ty} (hv : RV ws q1 r g) (hl : g'.length + q0 ≤ g.length + q1) (hf : ∀ a q, r = .ok (a, q) → g' = Tp.enc (f a)) : RV ws q0 (thenClose ws.data.toList c f r) g' := by
  match r, hv with
  | .error (e, p), hv =>
    have hv : g.length + q1 ≤ ws.size := hv
    show g'.length + q0 ≤ ws.size
    omega
  | .ok (a, q), hv =>
    obtain ⟨rfl, h1, h2⟩ : g = Tp.enc a ∧ g.length + q1 ≤ q ∧ q ≤ ws.size := hv
    show RV ws q0 (Tp.close _ _ _ _) g'
    unfold Tp.close
    by_cases hk : Tp.tk ws.data.toList q = [c]
    · rw [if_pos hk]
      have := nx_gt (ws := ws) (q := q) (by rw [hk]; simp) h2
      exact ⟨hf a q rfl, by omega, this.2.1⟩
    · rw [if_neg hk]
      show g'.length + q0 ≤ ws.size
      omega

set_option maxHeartbeats 4000000 in
theorem rarm_list (ws : ByteArray) (hs : ws.size ≤ 2147483647) (d : Nat) (hin : ∀ d', d = d' + 1 → OneC ws d' ∧ RArmC ws d') (w : World) (rb q op : Nat) (hd : op + d = 64) (h : RfOk w rb ws q op) (ht : Tp.tk ws.data.toList q = [91]) :
    Calls Try.prog 35 #[.pointer (some ⟨rb, 0, none⟩)] w fun e w' => REnds w' rb ws op q ((Tp.pr ws.data.toList d).2 q) e ∧ w.grownBy w' (some rb) := by
  have HT : Aside (Tp.tk ws.data.toList q = [91]) := ht
  have HA : Aside ((Tp.pr ws.data.toList d).2 q = Tp.within (Tp.inn ws.data.toList d) q (fun w => Tp.listF ws.data.toList w.1 q)) := by
    show _ = _
    rw [Tp.pr_eq]
    show Tp.armF _ _ _ = _
    unfold Tp.armF
    rw [ht]
    rfl
  have hnb : ¬ Byte ws q := not_byte (by rw [ht]; simp)
  have hgt := nx_gt (ws := ws) (q := q) (by rw [ht]; simp) h.le
  have hN := now_ok w rb ws q op h hs hnb
  have heq : S (Tp.tk ws.data.toList q) = ⟨#[91]⟩ := by rw [ht]; rfl
  have hemp : (⟨#[91]⟩ : ByteArray).toList.isEmpty = false := by rw [ByteArray.toList_eq]; rfl
  have f0 : ((S (Tp.tk ws.data.toList q)).toList == [105, 110, 116]) = false := by rw [toList_S, HT.out]; rfl
  have f1 : ((S (Tp.tk ws.data.toList q)).toList == [98, 111, 111, 108]) = false := by rw [toList_S, HT.out]; rfl
  have f2 : ((S (Tp.tk ws.data.toList q)).toList == [116, 101, 120, 116]) = false := by rw [toList_S, HT.out]; rfl
  have f3 : ((S (Tp.tk ws.data.toList q)).toList == [63]) = false := by rw [toList_S, HT.out]; rfl
  have f4 : ((S (Tp.tk ws.data.toList q)).toList == [40]) = false := by rw [toList_S, HT.out]; rfl
  have f5 : ((S (Tp.tk ws.data.toList q)).toList == [91]) = true := by rw [toList_S, HT.out]; rfl
  have f6 : ((S (Tp.tk ws.data.toList q)).toList == [98, 111, 120]) = false := by rw [toList_S, HT.out]; rfl
  clear ht
  cases d with
  | zero =>
    obtain rfl : op = 64 := by omega
    have HA2 : Aside ((Tp.pr ws.data.toList 0).2 q = .error (16, q)) := HA.out
    have hce := ccE 108
    generalize S (Tp.tk ws.data.toList q) = tok at *
    go_enter Try.func35, Try.ntmps35
    go_wp2_with fail
    refine hN.mono ?_
    rintro e' w1 ⟨rfl, h1, g1⟩
    obtain ⟨c3, -, -, -⟩ := h1.bd
    have hO := ropens_deep w1 rb ws q h1 hs hnb
    clear hN
    go_wp2_with fail
    refine hO.mono ?_
    rintro e' w2 ⟨rfl, h2, g2⟩
    go_wp2_with fail
    refine (rtake_bad w2 rb ws 65 16 q h2 hs _ hemp).mono ?_
    rintro e' w3 ⟨rfl, h3, g3⟩
    go_wp2_with fail
    refine (rone_bad w3 rb ws 65 16 q h3 hs).mono ?_
    rintro e' w4 ⟨rfl, h4, g4⟩
    go_wp2_with fail
    refine (rtake_bad w4 rb ws 65 16 q h4 hs _ isE_93).mono ?_
    rintro e' w5 ⟨rfl, h5, g5⟩
    obtain ⟨-, -, c2, ff, -⟩ := h5.bd
    have f2 := ff 2
    go_wp2_with fail
    go_ret
    rw [HA2.out]
    exact ⟨⟨[108], by rw [← hce]; rfl, by show 1 + q ≤ ws.size; omega, RfBad.setOp h5 64 rfl⟩, grownBy_set (grownBy_trans g1 (grownBy_trans g2 (grownBy_trans g3 (grownBy_trans g4 g5)))) _⟩
  | succ d' =>
    have hI := (hin d' rfl).1
    have HA2 : Aside ((Tp.pr ws.data.toList (d' + 1)).2 q = thenClose ws.data.toList 93 .tl ((Tp.pr ws.data.toList d').1 (Tp.nx ws.data.toList q))) := by
      show _ = _
      rw [HA.out]
      show Tp.listF _ _ _ = _
      unfold Tp.listF
      cases (Tp.pr ws.data.toList d').1 (Tp.nx ws.data.toList q) <;> rfl
    clear hin
    have hO := fun w1 h1 => ropens_ok w1 rb ws q op h1 hs hnb (by omega)
    have hK := fun w1 h1 => rtake_ok w1 rb ws q (op + 1) h1 hs hnb _ heq
    generalize S (Tp.tk ws.data.toList q) = tok at *
    go_enter Try.func35, Try.ntmps35
    go_wp2_with fail
    refine hN.mono ?_
    rintro e' w1 ⟨rfl, h1, g1⟩
    obtain ⟨c3, -, -, -⟩ := h1.bd
    clear hN
    go_wp2_with fail
    refine (hO w1 h1).mono ?_
    rintro e' w2 ⟨rfl, h2, g2⟩
    go_wp2_with fail
    refine (hK w2 h2).mono ?_
    rintro e' w3 ⟨rfl, h3, g3⟩
    go_wp2_with fail
    refine (hI w3 rb _ (op + 1) (.inl h3) (by omega)).mono ?_
    rintro e' w4 ⟨⟨g, rfl, hv, hst⟩, g4⟩
    go_wp2_with fail
    refine (rtake_after w4 rb ws (op + 1) hs 93 _ .tl hst).mono ?_
    rintro e' w5 ⟨rfl, hst5, g5⟩
    obtain ⟨c2, ff⟩ := hst5.cells
    have f2 := ff 2
    have hgl := hv.le
    have hsz := S_size g
    have hcc := cc 108 g
    clear hO hK hI
    go_wp2_with fail
    go_ret
    rw [HA2.out]
    refine ⟨⟨_, rfl, rv_close (g := g) hv (by simp; omega) (fun a q' e => ?_), hst5.setOp op (by omega)⟩, grownBy_set (grownBy_trans g1 (grownBy_trans g2 (grownBy_trans g3 (grownBy_trans g4 g5)))) _⟩
    rw [e] at hv
    rw [hv.1]
    rfl

set_option maxHeartbeats 4000000 in
theorem rarm_paren (ws : ByteArray) (hs : ws.size ≤ 2147483647) (d : Nat) (hin : ∀ d', d = d' + 1 → OneC ws d' ∧ RArmC ws d') (w : World) (rb q op : Nat) (hd : op + d = 64) (h : RfOk w rb ws q op) (ht : Tp.tk ws.data.toList q = [40]) :
    Calls Try.prog 35 #[.pointer (some ⟨rb, 0, none⟩)] w fun e w' => REnds w' rb ws op q ((Tp.pr ws.data.toList d).2 q) e ∧ w.grownBy w' (some rb) := by
  have HT : Aside (Tp.tk ws.data.toList q = [40]) := ht
  have HA : Aside ((Tp.pr ws.data.toList d).2 q = Tp.within (Tp.inn ws.data.toList d) q (fun w => Tp.parenF ws.data.toList w.1 q)) := by
    show _ = _
    rw [Tp.pr_eq]
    show Tp.armF _ _ _ = _
    unfold Tp.armF
    rw [ht]
    rfl
  have hnb : ¬ Byte ws q := not_byte (by rw [ht]; simp)
  have hgt := nx_gt (ws := ws) (q := q) (by rw [ht]; simp) h.le
  have hN := now_ok w rb ws q op h hs hnb
  have heq : S (Tp.tk ws.data.toList q) = ⟨#[40]⟩ := by rw [ht]; rfl
  have hemp : (⟨#[40]⟩ : ByteArray).toList.isEmpty = false := by rw [ByteArray.toList_eq]; rfl
  have f0 : ((S (Tp.tk ws.data.toList q)).toList == [105, 110, 116]) = false := by rw [toList_S, HT.out]; rfl
  have f1 : ((S (Tp.tk ws.data.toList q)).toList == [98, 111, 111, 108]) = false := by rw [toList_S, HT.out]; rfl
  have f2 : ((S (Tp.tk ws.data.toList q)).toList == [116, 101, 120, 116]) = false := by rw [toList_S, HT.out]; rfl
  have f3 : ((S (Tp.tk ws.data.toList q)).toList == [63]) = false := by rw [toList_S, HT.out]; rfl
  have f4 : ((S (Tp.tk ws.data.toList q)).toList == [40]) = true := by rw [toList_S, HT.out]; rfl
  have f5 : ((S (Tp.tk ws.data.toList q)).toList == [91]) = false := by rw [toList_S, HT.out]; rfl
  have f6 : ((S (Tp.tk ws.data.toList q)).toList == [98, 111, 120]) = false := by rw [toList_S, HT.out]; rfl
  clear ht
  cases d with
  | zero =>
    obtain rfl : op = 64 := by omega
    have HA2 : Aside ((Tp.pr ws.data.toList 0).2 q = .error (16, q)) := HA.out
    generalize S (Tp.tk ws.data.toList q) = tok at *
    go_enter Try.func35, Try.ntmps35
    go_wp2_with fail
    refine hN.mono ?_
    rintro e' w1 ⟨rfl, h1, g1⟩
    obtain ⟨c3, -, -, -⟩ := h1.bd
    have hO := ropens_deep w1 rb ws q h1 hs hnb
    clear hN
    go_wp2_with fail
    refine hO.mono ?_
    rintro e' w2 ⟨rfl, h2, g2⟩
    go_wp2_with fail
    refine (rtake_bad w2 rb ws 65 16 q h2 hs _ hemp).mono ?_
    rintro e' w3 ⟨rfl, h3, g3⟩
    go_wp2_with fail
    refine (rone_bad w3 rb ws 65 16 q h3 hs).mono ?_
    rintro e' w4 ⟨rfl, h4, g4⟩
    go_wp2_with fail
    refine (now_bad w4 rb ws 65 16 q h4 hs).mono ?_
    rintro e' w4' ⟨⟨x, rfl⟩, h4', g4'⟩
    go_wp2_with fail
    refine (rtake_bad w4' rb ws 65 16 q h4' hs _ isE_41).mono ?_
    rintro e' w5 ⟨rfl, h5, g5⟩
    obtain ⟨-, -, c2, ff, -⟩ := h5.bd
    have f2 := ff 2
    go_wp2_with fail
    go_ret
    rw [HA2.out]
    exact ⟨⟨[], rfl, by show 0 + q ≤ ws.size; omega, RfBad.setOp h5 64 rfl⟩, grownBy_set (grownBy_trans g1 (grownBy_trans g2 (grownBy_trans g3 (grownBy_trans g4 (grownBy_trans g4' g5))))) _⟩
  | succ d' =>
    have hI := (hin d' rfl).1
    have HA2 : Aside ((Tp.pr ws.data.toList (d' + 1)).2 q = Tp.parenF ws.data.toList (Tp.pr ws.data.toList d').1 q) := HA.out
    clear hin
    have hO := fun w1 h1 => ropens_ok w1 rb ws q op h1 hs hnb (by omega)
    have hK := fun w1 h1 => rtake_ok w1 rb ws q (op + 1) h1 hs hnb _ heq
    generalize S (Tp.tk ws.data.toList q) = tok at *
    go_enter Try.func35, Try.ntmps35
    go_wp2_with fail
    refine hN.mono ?_
    rintro e' w1 ⟨rfl, h1, g1⟩
    obtain ⟨c3, -, -, -⟩ := h1.bd
    clear hN
    go_wp2_with fail
    refine (hO w1 h1).mono ?_
    rintro e' w2 ⟨rfl, h2, g2⟩
    go_wp2_with fail
    refine (hK w2 h2).mono ?_
    rintro e' w3 ⟨rfl, h3, g3⟩
    go_wp2_with fail
    refine (hI w3 rb _ (op + 1) (.inl h3) (by omega)).mono ?_
    rintro e' w4 ⟨⟨g, rfl, hv, hst⟩, g4⟩
    have G4 : w.grownBy w4 (some rb) := grownBy_trans g1 (grownBy_trans g2 (grownBy_trans g3 g4))
    clear hO hK h1 h2 h3 g1 g2 g3 g4
    obtain ⟨r1, hr1⟩ : ∃ r1, r1 = (Tp.pr ws.data.toList d').1 (Tp.nx ws.data.toList q) := ⟨_, rfl⟩
    rw [← hr1] at hv hst
    have HR : Aside (r1 = (Tp.pr ws.data.toList d').1 (Tp.nx ws.data.toList q)) := hr1
    clear hr1
    have hN2 := now_rs w4 rb ws (op + 1) r1 hst hs
    obtain ⟨mo, hmo⟩ : ∃ mo, mo = S (more ws r1) := ⟨_, rfl⟩
    rw [← hmo] at hN2
    go_wp2_with fail
    refine hN2.mono ?_
    rintro e' w5 ⟨⟨x, rfl⟩, h5, g5⟩
    clear hN2
    rcases h5 with ⟨a, q1, hr, hb1, h5⟩ | ⟨hm0, e1, p1, hS, h5⟩
    · subst hr
      obtain ⟨rfl, hv1, hv2⟩ : g = Tp.enc a ∧ g.length + Tp.nx ws.data.toList q ≤ q1 ∧ q1 ≤ ws.size := hv
      have hmo' : mo = S (Tp.tk ws.data.toList q1) := hmo
      obtain ⟨d3, -, -, -⟩ := h5.bd
      by_cases hk : Tp.tk ws.data.toList q1 = [44]
      · have hkt : (mo.toList == [44]) = true := by rw [hmo', toList_S, hk]; rfl
        have hgt1 := nx_gt (ws := ws) (q := q1) (by rw [hk]; simp) hv2
        have hT := rtake_ok w5 rb ws q1 (op + 1) h5 hs hb1 ⟨#[44]⟩ (by rw [hk]; rfl)
        have HP : Aside (Tp.parenF ws.data.toList (Tp.pr ws.data.toList d').1 q = thenClose ws.data.toList 41 (.tp a) ((Tp.pr ws.data.toList d').1 (Tp.nx ws.data.toList q1))) := by
          show _ = _
          unfold Tp.parenF
          rw [← HR.out]
          show Tp.pairF _ _ _ _ = _
          unfold Tp.pairF
          rw [if_pos hk]
          cases (Tp.pr ws.data.toList d').1 (Tp.nx ws.data.toList q1) <;> rfl
        clear hmo hmo' hst
        go_wp2_with fail
        refine hT.mono ?_
        rintro e' w6 ⟨rfl, h6, g6⟩
        clear hT
        have hszg := S_size (Tp.enc a)
        have hcc := cc 44 (Tp.enc a)
        go_wp2_with fail
        refine (hI w6 rb _ (op + 1) (.inl h6) (by omega)).mono ?_
        rintro e' w7 ⟨⟨g2, rfl, hv7, hst7⟩, g7⟩
        have hgl2 := hv7.le
        have hsz2 := S_size g2
        have hcs := cs (44 :: Tp.enc a) g2
        have hsz3 : (S (44 :: Tp.enc a)).size = (Tp.enc a).length + 1 := by rw [S_size]; rfl
        clear hI
        go_wp2_with fail
        refine (rtake_after w7 rb ws (op + 1) hs 41 _ (.tp a) hst7).mono ?_
        rintro e' w8 ⟨rfl, hst8, g8⟩
        obtain ⟨c2, ff⟩ := hst8.cells
        have f2 := ff 2
        go_wp2_with fail
        go_ret
        rw [HA2.out, HP.out]
        refine ⟨⟨_, rfl, rv_close (g := g2) hv7 (by simp; omega) (fun b q' e => ?_), hst8.setOp op (by omega)⟩, grownBy_set (grownBy_trans G4 (grownBy_trans g5 (grownBy_trans g6 (grownBy_trans g7 g8)))) _⟩
        rw [e] at hv7
        rw [hv7.1]
        simp [Tp.enc]
      · have hkt : (mo.toList == [44]) = false := by rw [hmo', toList_S]; simpa using hk
        have HP : Aside (Tp.parenF ws.data.toList (Tp.pr ws.data.toList d').1 q = thenClose ws.data.toList 41 id (.ok (a, q1))) := by
          show _ = _
          unfold Tp.parenF
          rw [← HR.out]
          show Tp.pairF _ _ _ _ = _
          unfold Tp.pairF
          rw [if_neg hk]
          rfl
        have hT := rtake_after w5 rb ws (op + 1) hs 41 (.ok (a, q1)) id (.inl h5)
        clear hmo hmo' hst hI
        go_wp2_with fail
        refine hT.mono ?_
        rintro e' w8 ⟨rfl, hst8, g8⟩
        obtain ⟨c2, ff⟩ := hst8.cells
        have f2 := ff 2
        go_wp2_with fail
        go_ret
        rw [HA2.out, HP.out]
        exact ⟨⟨_, rfl, rv_close (g := Tp.enc a) (q1 := Tp.nx ws.data.toList q) ⟨rfl, hv1, hv2⟩ (by omega) (fun b q' e => by cases e; rfl), hst8.setOp op (by omega)⟩, grownBy_set (grownBy_trans G4 (grownBy_trans g5 g8)) _⟩
    · have hkt : (mo.toList == [44]) = false := by rw [hmo, toList_S, hm0]; rfl
      have hgl := hv.le
      have HP : Aside (Tp.parenF ws.data.toList (Tp.pr ws.data.toList d').1 q = .error (e1, p1)) := by
        show _ = _
        unfold Tp.parenF
        rw [← HR.out]
        rcases hS with rfl | ⟨a, q1, rfl, hb, rfl, rfl⟩
        · rfl
        · show Tp.pairF _ _ _ _ = _
          unfold Tp.pairF
          rw [if_neg (by rw [hb.1]; simp)]
          unfold Tp.close
          rw [if_neg (by rw [hb.1]; simp)]
          have : Tp.bad ws.data.toList p1 = 11 := by unfold Tp.bad; rw [str_len]; exact if_pos hb
          rw [this]
      have hT := rtake_bad w5 rb ws (op + 1) e1 p1 h5 hs ⟨#[41]⟩ isE_41
      clear hmo hst hI hm0
      go_wp2_with fail
      refine hT.mono ?_
      rintro e' w8 ⟨rfl, h8, g8⟩
      obtain ⟨-, -, c2, ff, -⟩ := h8.bd
      have f2 := ff 2
      go_wp2_with fail
      go_ret
      rw [HA2.out, HP.out]
      exact ⟨⟨g, rfl, by show g.length + q ≤ ws.size; omega, h8.setOp op (by omega)⟩, grownBy_set (grownBy_trans G4 (grownBy_trans g5 g8)) _⟩
end Go.Proofs.Ytncnkojbpdemdaa
