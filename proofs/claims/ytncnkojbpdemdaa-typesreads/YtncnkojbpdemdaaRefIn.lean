/- What the document's arm reads of a box, a list, a parenthesis. -/
import Derived.Test.YtncnkojbpdemdaaRefArm
namespace Go.Proofs.Ytncnkojbpdemdaa
open Go.RowKit

theorem cc (c : UInt8) (g : List UInt8) : (⟨#[c]⟩ : ByteArray) ++ S g = S (c :: g) := by apply ByteArray.ext; simp [S]
theorem cs (a b : List UInt8) : S a ++ S b = S (a ++ b) := by apply ByteArray.ext; simp [S]
theorem ccE (c : UInt8) : (⟨#[c]⟩ : ByteArray) ++ (⟨#[]⟩ : ByteArray) = S [c] := cc c []

theorem rbox_ends {w : World} {rb : Nat} {ws : ByteArray} {op q : Nat} {wf : Nat → Tp.Res} {g : List UInt8} (hgt : q + 1 ≤ Tp.nx ws.data.toList q) (hv : RV ws (Tp.nx ws.data.toList q) (wf (Tp.nx ws.data.toList q)) g) (hst : RS w rb ws op (wf (Tp.nx ws.data.toList q))) :
    REnds w rb ws op q (Tp.boxF ws.data.toList wf q) (.returned (.string (S (120 :: g)))) := by
  refine ⟨_, rfl, ?_, ?_⟩
  · unfold Tp.boxF
    revert hv
    cases wf (Tp.nx ws.data.toList q) with
    | error e =>
      intro hv
      have hv : g.length + Tp.nx ws.data.toList q ≤ ws.size := hv
      show (120 :: g).length + q ≤ ws.size
      simp; omega
    | ok x =>
      obtain ⟨b, r⟩ := x
      intro hv
      obtain ⟨rfl, h1, h2⟩ : g = Tp.enc b ∧ g.length + Tp.nx ws.data.toList q ≤ r ∧ r ≤ ws.size := hv
      exact ⟨rfl, by simp; omega, h2⟩
  · unfold Tp.boxF
    revert hst
    cases wf (Tp.nx ws.data.toList q) with
    | error e => exact id
    | ok x => exact id

set_option maxHeartbeats 4000000 in
theorem rarm_box (ws : ByteArray) (hs : ws.size ≤ 2147483647) (d : Nat) (hin : ∀ d', d = d' + 1 → OneC ws d' ∧ RArmC ws d') (w : World) (rb q op : Nat) (hd : op + d = 64) (h : RfOk w rb ws q op) (ht : Tp.tk ws.data.toList q = [98, 111, 120]) :
    Calls Try.prog 35 #[.pointer (some ⟨rb, 0, none⟩)] w fun e w' => REnds w' rb ws op q ((Tp.pr ws.data.toList d).2 q) e ∧ w.grownBy w' (some rb) := by
  have HT : Aside (Tp.tk ws.data.toList q = [98, 111, 120]) := ht
  have HA : Aside ((Tp.pr ws.data.toList d).2 q = Tp.within (Tp.inn ws.data.toList d) q (fun w => Tp.boxF ws.data.toList w.2 q)) := by
    show _ = _
    rw [Tp.pr_eq]
    show Tp.armF _ _ _ = _
    unfold Tp.armF
    rw [ht]
    rfl
  have hnb : ¬ Byte ws q := not_byte (by rw [ht]; simp)
  have hgt := nx_gt (ws := ws) (q := q) (by rw [ht]; simp) h.le
  have hN := now_ok w rb ws q op h hs hnb
  have heq : S (Tp.tk ws.data.toList q) = ⟨#[98, 111, 120]⟩ := by rw [ht]; rfl
  have hemp : (⟨#[98, 111, 120]⟩ : ByteArray).toList.isEmpty = false := by rw [ByteArray.toList_eq]; rfl
  have f0 : ((S (Tp.tk ws.data.toList q)).toList == [105, 110, 116]) = false := by rw [toList_S, HT.out]; rfl
  have f1 : ((S (Tp.tk ws.data.toList q)).toList == [98, 111, 111, 108]) = false := by rw [toList_S, HT.out]; rfl
  have f2 : ((S (Tp.tk ws.data.toList q)).toList == [116, 101, 120, 116]) = false := by rw [toList_S, HT.out]; rfl
  have f3 : ((S (Tp.tk ws.data.toList q)).toList == [63]) = false := by rw [toList_S, HT.out]; rfl
  have f4 : ((S (Tp.tk ws.data.toList q)).toList == [40]) = false := by rw [toList_S, HT.out]; rfl
  have f5 : ((S (Tp.tk ws.data.toList q)).toList == [91]) = false := by rw [toList_S, HT.out]; rfl
  have f6 : ((S (Tp.tk ws.data.toList q)).toList == [98, 111, 120]) = true := by rw [toList_S, HT.out]; rfl
  clear ht
  cases d with
  | zero =>
    obtain rfl : op = 64 := by omega
    have HA2 : Aside ((Tp.pr ws.data.toList 0).2 q = .error (16, q)) := HA.out
    have hce := ccE 120
    generalize S (Tp.tk ws.data.toList q) = tok at *
    go_enter Try.func35, Try.ntmps35
    go_wp2_with fail
    refine hN.mono ?_
    rintro e' w1 ⟨rfl, h1, g1⟩
    obtain ⟨c3, -, -, -⟩ := h1.bd
    have hO := ropens_deep w1 rb ws q h1 hs hnb
    clear hN
    go_wp2_with fail
    refine hO.mono ?_
    rintro e' w2 ⟨rfl, h2, g2⟩
    go_wp2_with fail
    refine (rtake_bad w2 rb ws 65 16 q h2 hs _ hemp).mono ?_
    rintro e' w3 ⟨rfl, h3, g3⟩
    go_wp2_with fail
    refine (rarm_bad w3 rb ws 65 16 q h3 hs).mono ?_
    rintro e' w4 ⟨rfl, h4, g4⟩
    obtain ⟨-, -, c2, ff, -⟩ := h4.bd
    have f2 := ff 2
    go_wp2_with fail
    go_ret
    rw [HA2.out]
    exact ⟨⟨[120], by rw [← hce]; rfl, by show 1 + q ≤ ws.size; omega, RfBad.setOp h4 64 rfl⟩, grownBy_set (grownBy_trans g1 (grownBy_trans g2 (grownBy_trans g3 g4))) _⟩
  | succ d' =>
    have hI := (hin d' rfl).2
    have HA2 : Aside ((Tp.pr ws.data.toList (d' + 1)).2 q = Tp.boxF ws.data.toList (Tp.pr ws.data.toList d').2 q) := HA.out
    clear hin
    have hO := fun w1 h1 => ropens_ok w1 rb ws q op h1 hs hnb (by omega)
    have hK := fun w1 h1 => rtake_ok w1 rb ws q (op + 1) h1 hs hnb _ heq
    generalize S (Tp.tk ws.data.toList q) = tok at *
    go_enter Try.func35, Try.ntmps35
    go_wp2_with fail
    refine hN.mono ?_
    rintro e' w1 ⟨rfl, h1, g1⟩
    obtain ⟨c3, -, -, -⟩ := h1.bd
    clear hN
    go_wp2_with fail
    refine (hO w1 h1).mono ?_
    rintro e' w2 ⟨rfl, h2, g2⟩
    go_wp2_with fail
    refine (hK w2 h2).mono ?_
    rintro e' w3 ⟨rfl, h3, g3⟩
    go_wp2_with fail
    refine (hI w3 rb _ (op + 1) (.inl h3) (by omega)).mono ?_
    rintro e' w4 ⟨⟨g, rfl, hv, hst⟩, g4⟩
    obtain ⟨c2, ff⟩ := hst.cells
    have f2 := ff 2
    have hgl := hv.le
    have hsz := S_size g
    have hcc := cc 120 g
    clear hO hK hI
    go_wp2_with fail
    go_ret
    rw [HA2.out]
    exact ⟨rbox_ends hgt.1 hv (hst.setOp op (by omega)), grownBy_set (grownBy_trans g1 (grownBy_trans g2 (grownBy_trans g3 g4))) _⟩
end Go.Proofs.Ytncnkojbpdemdaa
