/- The reader in memory: what the program's next, refuse and take do to it. -/
import Derived.Test.YtncnkojbpdemdaaGreatDoorTok
namespace Go.Proofs.YtncnkojbpdemdaaGreatDoor
open Go.RowKit

/-- The block rb holds a reader: the words, the token, where it stands, how many are open, the fault. -/
def Rd (w : World) (rb : Nat) (ws tok : ByteArray) (at_ op fl : Nat) : Prop :=
  w.heap[rb]? = some (.cells #[.string ws, .string tok, .int .i64 at_, .int .i64 op, .int .i64 fl] 129 (0, 0))
theorem Rd.c {w : World} {rb : Nat} {ws tok : ByteArray} {at_ op fl : Nat} (h : Rd w rb ws tok at_ op fl) :
    w.cell? ⟨rb, 0, none⟩ = some (.string ws) ∧ w.cell? ⟨rb, 1, none⟩ = some (.string tok) ∧ w.cell? ⟨rb, 2, none⟩ = some (.int .i64 at_) ∧ w.cell? ⟨rb, 3, none⟩ = some (.int .i64 op) ∧ w.cell? ⟨rb, 4, none⟩ = some (.int .i64 fl) := by
  unfold Rd at h
  simp [World.cell?, h]
theorem Rd.f {w : World} {rb : Nat} {ws tok : ByteArray} {at_ op fl : Nat} (h : Rd w rb ws tok at_ op fl) (o : Nat) : w.frozen? ⟨rb, o, none⟩ = false := by
  unfold Rd at h
  simp [World.frozen?, h]
theorem Rd.lt {w : World} {rb : Nat} {ws tok : ByteArray} {at_ op fl : Nat} (h : Rd w rb ws tok at_ op fl) : rb < w.heap.size := by
  unfold Rd at h
  exact (Array.getElem?_eq_some_iff.1 h).1
theorem Rd.setTok {w : World} {rb : Nat} {ws tok : ByteArray} {at_ op fl : Nat} (h : Rd w rb ws tok at_ op fl) (t : ByteArray) : Rd (w.setCell ⟨rb, 1, none⟩ (.string t)) rb ws t at_ op fl := by
  unfold Rd at *
  simp [World.setCell, Array.getElem?_modify, h]
theorem Rd.setAt {w : World} {rb : Nat} {ws tok : ByteArray} {at_ op fl : Nat} (h : Rd w rb ws tok at_ op fl) {x : Int} (k : Nat) (hx : x = k) : Rd (w.setCell ⟨rb, 2, none⟩ (.int .i64 x)) rb ws tok k op fl := by
  subst hx
  unfold Rd at *
  simp [World.setCell, Array.getElem?_modify, h]
theorem Rd.setOp {w : World} {rb : Nat} {ws tok : ByteArray} {at_ op fl : Nat} (h : Rd w rb ws tok at_ op fl) {x : Int} (k : Nat) (hx : x = k) : Rd (w.setCell ⟨rb, 3, none⟩ (.int .i64 x)) rb ws tok at_ k fl := by
  subst hx
  unfold Rd at *
  simp [World.setCell, Array.getElem?_modify, h]
theorem Rd.setFl {w : World} {rb : Nat} {ws tok : ByteArray} {at_ op fl : Nat} (h : Rd w rb ws tok at_ op fl) {x : Int} (k : Nat) (hx : x = k) : Rd (w.setCell ⟨rb, 4, none⟩ (.int .i64 x)) rb ws tok at_ op k := by
  subst hx
  unfold Rd at *
  simp [World.setCell, Array.getElem?_modify, h]
theorem Rd.kept {w w' : World} {rb : Nat} {ws tok : ByteArray} {at_ op fl : Nat} (h : Rd w rb ws tok at_ op fl) (hg : w.grownBy w' none) : Rd w' rb ws tok at_ op fl :=
  (hg.block rb h.lt (by simp)).trans h

theorem grown_of {w w' : World} (h : Below w.heap.size w w') : w.grownBy w' none := ⟨h.os, h.tape, h.output, h.size, fun k hk _ => h.block k hk⟩

set_option maxRecDepth 100000 in
set_option maxHeartbeats 2000000 in
theorem next_any (w : World) (rb : Nat) (ws tok : ByteArray) (at_ op fl : Nat) (hR : Rd w rb ws tok at_ op fl) (hs : ws.size ≤ 2147483647) (hk : at_ + tok.size ≤ ws.size) :
    Calls Tryz.prog 66 #[.pointer (some ⟨rb, 0, none⟩)] w fun e w' => e = .returned (.tuple #[]) ∧ Rd w' rb ws (S (Tp.tk ws.data.toList (Tp.sk ws.data.toList (at_ + tok.size)))) (Tp.sk ws.data.toList (at_ + tok.size)) op fl ∧ w.grownBy w' (some rb) := by
  obtain ⟨c0, c1, c2, -, -⟩ := hR.c
  have f1 := hR.f 1
  have f2 := hR.f 2
  have hwr : IntKind.i64.wrap ((at_ : Int) + (tok.size : Int)) = (at_ : Int) + (tok.size : Int) := IntWalk.i64_in _ (by omega)
  have hk' : (at_ : Int) + (tok.size : Int) ≤ (ws.size : Int) := by omega
  have hk0 : (0 : Int) ≤ (at_ : Int) + (tok.size : Int) := by omega
  go_enter Tryz.func66, Tryz.ntmps66
  go_wp2_with fail
  go_quiet (fail)
  go_wp2_with fail
  obtain ⟨rs, hrs⟩ : ∃ rs, rs = ws.extract (at_ + tok.size) ws.size := ⟨_, rfl⟩
  rw [← hrs]
  have hrl : rs.data.toList = ws.data.toList.drop (at_ + tok.size) := by
    have h1 := S_cut ws.data.toList (at_ + tok.size) ws.size
    rw [← S_of, ← hrs] at h1
    rw [h1, S_list, List.take_of_length_le]
    rw [List.length_drop, str_len]
    exact Nat.le_refl _
  have hrz : (at_ + tok.size) + rs.size = ws.size := by
    have := congrArg List.length hrl
    rw [str_len, List.length_drop, str_len] at this
    omega
  clear hrs
  have HE : Aside (∀ j, Tp.span Tp.blankB rs.data.toList = j + Tp.span Tp.blankB (rs.data.toList.drop j) → Tp.span Tp.blankB (rs.data.toList.drop j) = 0 → Tp.sk ws.data.toList (at_ + tok.size) = at_ + tok.size + j ∧ Tp.tk ws.data.toList (at_ + tok.size + j) = (rs.data.toList.drop j).take (Tp.tokL (rs.data.toList.drop j))) := by
    intro j h1 h2
    have hd : ws.data.toList.drop (at_ + tok.size + j) = rs.data.toList.drop j := by rw [hrl, List.drop_drop]
    refine ⟨by unfold Tp.sk; rw [← hrl, h1, h2]; omega, ?_⟩
    unfold Tp.tk Tp.tl
    rw [hd]
  have HL : Aside (rs.data.toList.length = rs.size) := str_len rs
  clear hrl
  have hlt := hR.lt
  go_loopg [] rs.size (fun g wr => ∃ j : Nat, j + g = rs.size ∧ Rd wr rb ws ⟨#[]⟩ ws.size op fl ∧ wr.heap[w.heap.size]? = some (.stringIter rs j) ∧ w.grownBy wr (some rb) ∧ Aside (Tp.span Tp.blankB rs.data.toList = j + Tp.span Tp.blankB (rs.data.toList.drop j)))
  case atStart =>
    have hR1 : Rd (((w.drewN nq).setCell ⟨rb, 2, none⟩ (.int .i64 ws.size)).setCell ⟨rb, 1, none⟩ (.string ⟨#[]⟩)) rb ws ⟨#[]⟩ ws.size op fl := Rd.setTok (Rd.setAt (show Rd (w.drewN nq) rb ws tok at_ op fl from hR) ws.size rfl) _
    have hg1 : w.grownBy (((w.drewN nq).setCell ⟨rb, 2, none⟩ (.int .i64 ws.size)).setCell ⟨rb, 1, none⟩ (.string ⟨#[]⟩)) (some rb) := grownBy_set (grownBy_set (grownBy_drewN (grownBy_refl _ _) _) _) _
    generalize hw : (((w.drewN nq).setCell ⟨rb, 2, none⟩ (.int .i64 ws.size)).setCell ⟨rb, 1, none⟩ (.string ⟨#[]⟩)) = W at *
    have hz : W.heap.size = w.heap.size := by rw [← hw]; simp [World.setCell, World.drewN]
    refine ⟨0, by omega, hR1.kept (grownBy_alloc (grownBy_refl _ _) _), ?_, grownBy_alloc hg1 _, by show _ = _; simp⟩
    rw [← hz]
    exact World.iter_heap W rs 0
  case round =>
    obtain ⟨j, hjg, hRj, hit, hg, HJ⟩ := hrel
    have hltj := hRj.lt
    by_cases hj : j < rs.size
    · have hnx : ∀ ty, (Instr.next (.pointer (some ⟨w.heap.size, 0, none⟩)) true ty).run Tryz.prog wr = _ := fun ty => Lib.run_next_any_at wr w.heap.size rs j ty hit hj
      have hit2 := Lib.iterAt_heap wr w.heap.size rs j (j + (Utf8.decode rs j).2) hit
      have hR2 : Rd (wr.iterAt w.heap.size rs (j + (Utf8.decode rs j).2)) rb ws ⟨#[]⟩ ws.size op fl := (Lib.iterAt_other wr w.heap.size rb rs _ (by omega)).trans hRj
      have hg2 : w.grownBy (wr.iterAt w.heap.size rs (j + (Utf8.decode rs j).2)) (some rb) := ⟨hg.os, hg.tape, hg.output, by rw [Lib.iterAt_size]; exact hg.size, fun x hx hne => (Lib.iterAt_other wr w.heap.size x rs _ (by omega)).trans (hg.block x hx hne)⟩
      obtain ⟨-, -, q3, q4⟩ := decode_facts rs j hj
      have hjl : j < rs.data.toList.length := by rw [HL.out]; exact hj
      have cb := isBlank_any ((Utf8.decode rs j).1 : Int)
      rw [q3] at cb
      generalize (Utf8.decode rs j).1 = c at *
      generalize (Utf8.decode rs j).2 = n at *
      by_cases hb : Tp.blankB (Tp.B rs.data.toList j) = true
      · obtain rfl := q4 (.inr (.inr hb))
        have HN : Aside (Tp.span Tp.blankB rs.data.toList = j + 1 + Tp.span Tp.blankB (rs.data.toList.drop (j + 1))) := by
          show _ = _
          rw [HJ.out, Tp.span_in hjl hb]; omega
        rw [hb] at cb
        clear q3 q4
        go_wp2_with (go_at_call 77; refine (cb _).mono ?_; rintro e w' ⟨rfl, hw'⟩; replace hw' := hw'.symm; subst hw')
        go_roundg (gk - 1)
        case measure => omega
        case rel => exact ⟨j + 1, by omega, hR2, hit2, hg2, HN⟩
      · have hb' : Tp.blankB (Tp.B rs.data.toList j) = false := by simpa using hb
        have HX := HE.out j HJ.out (Tp.span_out hjl hb')
        rw [hb'] at cb
        clear q3 q4
        generalize wr.iterAt w.heap.size rs (j + n) = W at *
        obtain ⟨d0, d1, d2, -, -⟩ := hR2.c
        have e1 := hR2.f 1
        have e2 := hR2.f 2
        go_wp2_with (go_at_call 77; refine (cb _).mono ?_; rintro e w' ⟨rfl, hw'⟩; replace hw' := hw'.symm; subst hw')
        have hR3 : Rd (W.setCell ⟨rb, 2, none⟩ (.int .i64 ((ws.size : Int) + ((j : Int) - (rs.size : Int))))) rb ws ⟨#[]⟩ (at_ + tok.size + j) op fl := Rd.setAt hR2 _ (by omega)
        have hg3 : w.grownBy (W.setCell ⟨rb, 2, none⟩ (.int .i64 ((ws.size : Int) + ((j : Int) - (rs.size : Int))))) (some rb) := grownBy_set hg2 _
        have hxl : (rs.extract j rs.size).data.toList = rs.data.toList.drop j := by
          have h1 := S_cut rs.data.toList j rs.size
          rw [← S_of] at h1
          rw [h1, S_list, List.take_of_length_le]
          rw [List.length_drop, HL.out]
          exact Nat.le_refl _
        have hxs : (rs.extract j rs.size).size = rs.size - j := by rw [← str_len, hxl, List.length_drop, HL.out]
        have hT := tokenOf_any (rs.extract j rs.size) (by rw [hxs]; omega) (by rw [hxs]; omega)
        rw [hxl, ← HX.2] at hT
        have HX1 : Aside (Tp.sk ws.data.toList (at_ + tok.size) = at_ + tok.size + j) := HX.1
        clear HX HE HJ HL hxl hxs
        generalize (W.setCell ⟨rb, 2, none⟩ (.int .i64 ((ws.size : Int) + ((j : Int) - (rs.size : Int))))) = W3 at *
        refine (hT W3).mono ?_
        rintro e w4 ⟨rfl, hB4⟩
        have hR4 := hR3.kept (grown_of hB4)
        have g1 := hR4.f 1
        obtain ⟨-, i1, -, -, -⟩ := hR4.c
        go_wp2_with fail
        refine bodyPost_ret (v := .tuple #[]) (by simp [results, Tryz.results66, go_sem]) rfl ?_
        rw [HX1.out]
        exact ⟨rfl, Rd.setTok hR4 _, grownBy_set (grownBy_below hg3 hB4) _⟩
    · have hnx : ∀ ty, (Instr.next (.pointer (some ⟨w.heap.size, 0, none⟩)) true ty).run Tryz.prog wr = _ := fun ty => Lib.run_next_end_at wr w.heap.size rs j ty hit hj
      obtain rfl : j = rs.size := by omega
      have hnil : rs.data.toList.drop rs.size = [] := List.drop_eq_nil_of_le (by rw [HL.out]; omega)
      have HX := HE.out rs.size HJ.out (by rw [hnil]; rfl)
      rw [hnil] at HX
      go_wp2_with fail
      go_end0
      rw [HX.1, HX.2, hrz]
      exact ⟨rfl, hRj, hg⟩
end Go.Proofs.YtncnkojbpdemdaaGreatDoor
