/- What the document's one and Read answer. -/
import Derived.Test.YtncnkojbpdemdaaRefPar
import Derived.Test.YtncnkojbpdemdaaRead
namespace Go.Proofs.Ytncnkojbpdemdaa
open Go.RowKit

theorem rarm_step (ws : ByteArray) (hs : ws.size ≤ 2147483647) (d : Nat) (hin : ∀ d', d = d' + 1 → OneC ws d' ∧ RArmC ws d') : RArmC ws d := by
  intro w rb q op h hd
  by_cases hb : Byte ws q
  · exact rarm_byte ws hs d w rb q op h hb
  replace h : RfOk w rb ws q op := h.elim id (fun h => absurd h.1 hb)
  by_cases n0 : Tp.tk ws.data.toList q = [105, 110, 116]
  · exact rarm_ti ws hs d w rb q op h n0
  by_cases n1 : Tp.tk ws.data.toList q = [98, 111, 111, 108]
  · exact rarm_tb ws hs d w rb q op h n1
  by_cases n2 : Tp.tk ws.data.toList q = [116, 101, 120, 116]
  · exact rarm_tt ws hs d w rb q op h n2
  by_cases n3 : Tp.tk ws.data.toList q = [63]
  · exact rarm_tq ws hs d w rb q op h n3
  by_cases n4 : Tp.tk ws.data.toList q = [40]
  · exact rarm_paren ws hs d hin w rb q op hd h n4
  by_cases n5 : Tp.tk ws.data.toList q = [91]
  · exact rarm_list ws hs d hin w rb q op hd h n5
  by_cases n6 : Tp.tk ws.data.toList q = [98, 111, 120]
  · exact rarm_box ws hs d hin w rb q op hd h n6
  exact rarm_else ws hs d w rb q op h hb n0 n1 n2 n3 n4 n5 n6

theorem rfun_ends {w : World} {rb : Nat} {ws : ByteArray} {op q q1 : Nat} {wf : Nat → Tp.Res} {a : Tp.Ty} {g : List UInt8} (h1 : (Tp.enc a).length + q ≤ q1) (hgt : q1 + 1 ≤ Tp.nx ws.data.toList q1) (hv : RV ws (Tp.nx ws.data.toList q1) (wf (Tp.nx ws.data.toList q1)) g) (hst : RS w rb ws op (wf (Tp.nx ws.data.toList q1))) :
    REnds w rb ws op q (Tp.funF ws.data.toList wf a q1) (.returned (.string (S (62 :: Tp.enc a ++ g)))) := by
  refine ⟨_, rfl, ?_, ?_⟩
  · unfold Tp.funF
    revert hv
    cases wf (Tp.nx ws.data.toList q1) with
    | error e =>
      intro hv
      have hv : g.length + Tp.nx ws.data.toList q1 ≤ ws.size := hv
      show (62 :: Tp.enc a ++ g).length + q ≤ ws.size
      simp; omega
    | ok x =>
      obtain ⟨b, r⟩ := x
      intro hv
      obtain ⟨rfl, h2, h3⟩ : g = Tp.enc b ∧ g.length + Tp.nx ws.data.toList q1 ≤ r ∧ r ≤ ws.size := hv
      exact ⟨rfl, by simp; omega, h3⟩
  · unfold Tp.funF
    revert hst
    cases wf (Tp.nx ws.data.toList q1) with
    | error e => exact id
    | ok x => exact id

set_option maxHeartbeats 4000000 in
theorem rone_step (ws : ByteArray) (hs : ws.size ≤ 2147483647) (d : Nat) (hA : RArmC ws d) (hin : ∀ d', d = d' + 1 → OneC ws d') : OneC ws d := by
  intro w rb q op h hd
  have hC := hA w rb q op h hd
  rw [Tp.pr_eq] at hC ⊢
  show Calls Try.prog 19 _ w fun e w' => REnds w' rb ws op q (Tp.wholeF ws.data.toList (Tp.inn ws.data.toList d) q) e ∧ w.grownBy w' (some rb)
  replace hC : Calls Try.prog 35 #[.pointer (some ⟨rb, 0, none⟩)] w fun e w' => REnds w' rb ws op q (Tp.armF ws.data.toList (Tp.inn ws.data.toList d) q) e ∧ w.grownBy w' (some rb) := hC
  have HF : Aside (Tp.wholeF ws.data.toList (Tp.inn ws.data.toList d) q = (match Tp.armF ws.data.toList (Tp.inn ws.data.toList d) q with | .error e => .error e | .ok (a, q) => if Tp.tk ws.data.toList q = [45, 62] then Tp.within (Tp.inn ws.data.toList d) q (fun w => Tp.funF ws.data.toList w.1 a q) else .ok (a, q))) := rfl
  generalize Tp.armF ws.data.toList (Tp.inn ws.data.toList d) q = r1 at *
  go_enter Try.func19, Try.ntmps19
  go_wp2_with fail
  refine hC.mono ?_
  rintro e w1 ⟨⟨g, rfl, hv, hst⟩, g1⟩
  clear hC hA
  have hN2 := now_rs w1 rb ws op r1 hst hs
  obtain ⟨mo, hmo⟩ : ∃ mo, mo = S (more ws r1) := ⟨_, rfl⟩
  rw [← hmo] at hN2
  go_wp2_with fail
  refine hN2.mono ?_
  rintro e' w2 ⟨⟨x, rfl⟩, h2, g2⟩
  clear hN2
  rcases h2 with ⟨a, q1, hr, hb1, h2⟩ | ⟨hm0, e1, p1, hS, h2⟩
  · subst hr
    obtain ⟨rfl, hv1, hv2⟩ : g = Tp.enc a ∧ g.length + q ≤ q1 ∧ q1 ≤ ws.size := hv
    have hmo' : mo = S (Tp.tk ws.data.toList q1) := hmo
    obtain ⟨d3, -, -, -⟩ := h2.bd
    by_cases hk : Tp.tk ws.data.toList q1 = [45, 62]
    · have hkt : (mo.toList == [45, 62]) = true := by rw [hmo', toList_S, hk]; rfl
      have hgt1 := nx_gt (ws := ws) (q := q1) (by rw [hk]; simp) hv2
      have hemp : (⟨#[45, 62]⟩ : ByteArray).toList.isEmpty = false := by rw [ByteArray.toList_eq]; rfl
      have HW : Aside (Tp.wholeF ws.data.toList (Tp.inn ws.data.toList d) q = Tp.within (Tp.inn ws.data.toList d) q1 (fun w => Tp.funF ws.data.toList w.1 a q1)) := by show _ = _; rw [HF.out]; simp only []; rw [if_pos hk]
      have hszg := S_size (Tp.enc a)
      have hcc := cc 62 (Tp.enc a)
      have hsz3 : (S (62 :: Tp.enc a)).size = (Tp.enc a).length + 1 := by rw [S_size]; rfl
      cases d with
      | zero =>
        obtain rfl : op = 64 := by omega
        have hO := ropens_deep w2 rb ws q1 h2 hs hb1
        have hce : S (62 :: Tp.enc a) ++ (⟨#[]⟩ : ByteArray) = S (62 :: Tp.enc a) := by have := cs (62 :: Tp.enc a) []; rw [List.append_nil] at this; exact this
        clear hmo hmo' hst hin HF
        go_wp2_with fail
        refine hO.mono ?_
        rintro e' w3 ⟨rfl, h3, g3⟩
        go_wp2_with fail
        refine (rtake_bad w3 rb ws 65 16 q1 h3 hs _ hemp).mono ?_
        rintro e' w4 ⟨rfl, h4, g4⟩
        go_wp2_with fail
        refine (rone_bad w4 rb ws 65 16 q1 h4 hs).mono ?_
        rintro e' w5 ⟨rfl, h5, g5⟩
        obtain ⟨-, -, c2, ff, -⟩ := h5.bd
        have f2 := ff 2
        go_wp2_with fail
        go_ret
        rw [HW.out]
        exact ⟨⟨62 :: Tp.enc a, rfl, by show (62 :: Tp.enc a).length + q ≤ ws.size; simp; omega, RfBad.setOp h5 64 rfl⟩, grownBy_set (grownBy_trans g1 (grownBy_trans g2 (grownBy_trans g3 (grownBy_trans g4 g5)))) _⟩
      | succ d' =>
        have hI := hin d' rfl
        have hO := ropens_ok w2 rb ws q1 op h2 hs hb1 (by omega)
        have hK := fun w3 h3 => rtake_ok w3 rb ws q1 (op + 1) h3 hs hb1 ⟨#[45, 62]⟩ (by rw [hk]; rfl)
        clear hmo hmo' hst hin HF
        go_wp2_with fail
        refine hO.mono ?_
        rintro e' w3 ⟨rfl, h3, g3⟩
        go_wp2_with fail
        refine (hK w3 h3).mono ?_
        rintro e' w4 ⟨rfl, h4, g4⟩
        go_wp2_with fail
        refine (hI w4 rb _ (op + 1) (.inl h4) (by omega)).mono ?_
        rintro e' w5 ⟨⟨g', rfl, hv5, hst5⟩, g5⟩
        obtain ⟨c2, ff⟩ := hst5.cells
        have f2 := ff 2
        have hgl2 := hv5.le
        have hsz2 := S_size g'
        have hcs := cs (62 :: Tp.enc a) g'
        clear hI hO hK
        go_wp2_with fail
        go_ret
        rw [HW.out]
        exact ⟨rfun_ends hv1 hgt1.1 hv5 (hst5.setOp op (by omega)), grownBy_set (grownBy_trans g1 (grownBy_trans g2 (grownBy_trans g3 (grownBy_trans g4 g5)))) _⟩
    · have hkt : (mo.toList == [45, 62]) = false := by rw [hmo', toList_S]; simpa using hk
      have HW : Aside (Tp.wholeF ws.data.toList (Tp.inn ws.data.toList d) q = .ok (a, q1)) := by show _ = _; rw [HF.out]; simp only []; rw [if_neg hk]
      clear hmo hmo' hst hin HF
      go_wp2_with fail
      go_ret
      rw [HW.out]
      exact ⟨⟨_, rfl, ⟨rfl, hv1, hv2⟩, .inl h2⟩, grownBy_trans g1 g2⟩
  · have hkt : (mo.toList == [45, 62]) = false := by rw [hmo, toList_S, hm0]; rfl
    obtain ⟨d3, -, -, -, -⟩ := h2.bd
    clear hmo hm0 hst hin
    go_wp2_with fail
    go_ret
    rcases hS with rfl | ⟨a, q1, rfl, hb, rfl, rfl⟩
    · rw [HF.out]
      exact ⟨⟨g, rfl, hv, h2⟩, grownBy_trans g1 g2⟩
    · have HW : Tp.wholeF ws.data.toList (Tp.inn ws.data.toList d) q = .ok (a, p1) := by rw [HF.out]; simp only []; rw [if_neg (by rw [hb.1]; simp)]
      rw [HW]
      exact ⟨⟨g, rfl, hv, .inr ⟨hb, Nat.le_of_lt hb.2, h2⟩⟩, grownBy_trans g1 g2⟩

theorem rboth (ws : ByteArray) (hs : ws.size ≤ 2147483647) : ∀ d, OneC ws d ∧ RArmC ws d
  | 0 => by
    have h := rarm_step ws hs 0 (fun d' e => by omega)
    exact ⟨rone_step ws hs 0 h (fun d' e => by omega), h⟩
  | d + 1 => by
    have ih := rboth ws hs d
    have h := rarm_step ws hs (d + 1) (fun d' e => by obtain rfl : d = d' := by omega
                                                      exact ih)
    exact ⟨rone_step ws hs (d + 1) h (fun d' e => by obtain rfl : d = d' := by omega
                                                     exact ih.1), h⟩

set_option maxHeartbeats 4000000 in
theorem rread_any (ws : ByteArray) (hs : ws.size ≤ 2147483647) (w : World) :
    Calls Try.prog 7 #[.string ws] w fun e w' => e = .returned (readV ws.data.toList) ∧ Below w.heap.size w w' := by
  have h0 : Rf (w.alloc (.cells #[.string ws, .int .i64 0, .int .i64 0, .int .i64 0, .int .i64 0] 44)) w.heap.size ws 0 0 0 0 := heap_alloc_new _ _
  have hB0 : Below w.heap.size w (w.alloc (.cells #[.string ws, .int .i64 0, .int .i64 0, .int .i64 0, .int .i64 0] 44)) := (Below.refl _ _).alloc (Nat.le_refl _) _
  have hfin : ∀ w1, (w.alloc (.cells #[.string ws, .int .i64 0, .int .i64 0, .int .i64 0, .int .i64 0] 44)).grownBy w1 (some w.heap.size) → Below w.heap.size w w1 := fun w1 g => hB0.trans ⟨g.os, g.tape, g.output, g.size, fun k hk => g.block k (by simp; omega) (by simp; omega)⟩
  have hA0 : RfAt (w.alloc (.cells #[.string ws, .int .i64 0, .int .i64 0, .int .i64 0, .int .i64 0] 44)) w.heap.size ws (Tp.sk ws.data.toList 0) 0 := .inl ⟨0, 0, h0, Nat.zero_le _, rfl⟩
  have HL : Aside (ws.data.toList.length = ws.size) := str_len ws
  have hO := (rboth ws hs 64).1 _ w.heap.size _ 0 hA0 (by omega)
  clear hB0 h0 hA0
  go_enter Try.func7, Try.ntmps7
  go_wp2_with fail
  refine hO.mono ?_
  rintro e w1 ⟨⟨g, rfl, hv, hst⟩, g1⟩
  clear hO
  cases hr : (Tp.pr ws.data.toList 64).1 (Tp.sk ws.data.toList 0) with
  | error y =>
    obtain ⟨e1, e2⟩ := y
    rw [hr] at hst
    have HA : Aside (Tp.readA ws.data.toList = ([], e1, e2)) := Tp.readA_err hr
    have hN := now_bad w1 w.heap.size ws 0 e1 e2 hst hs
    clear hr hv hst
    go_wp2_with fail
    refine hN.mono ?_
    rintro e w2 ⟨⟨x, rfl⟩, h2, g2⟩
    obtain ⟨c3, c4, -, -, he⟩ := h2.bd
    have hf2 := hfin w2 (grownBy_trans g1 g2)
    clear hfin hN
    go_wp2_with fail
    go_quiet (fail)
    go_wp2_with fail
    refine bodyPost_ret (v := .tuple #[.string ⟨#[]⟩, .int .i64 e1, .int .i64 e2]) (by simp [results, Try.results7, go_sem]) rfl ?_
    exact ⟨readV_of HA.out rfl, below_drewN hf2 _⟩
  | ok y =>
    obtain ⟨a, q⟩ := y
    rw [hr] at hst hv
    obtain ⟨rfl, -, hq⟩ : g = Tp.enc a ∧ g.length + Tp.sk ws.data.toList 0 ≤ q ∧ q ≤ ws.size := hv
    by_cases hb : Byte ws q
    · have HA : Aside (Tp.readA ws.data.toList = ([], 11, q)) := by
        show _ = _
        rw [Tp.readA_more hr (by rw [HL.out]; exact hb.2)]
        have : Tp.bad ws.data.toList q = 11 := by unfold Tp.bad; rw [str_len]; exact if_pos hb
        rw [this]
      have hN := now_rs w1 w.heap.size ws 0 _ hst hs
      have hm : more ws (.ok (a, q)) = [] := hb.1
      rw [hm] at hN
      have he0 : (S []).toList.isEmpty = true := by rw [ByteArray.toList_eq]; rfl
      clear hr hst
      generalize S [] = em at *
      go_wp2_with fail
      refine hN.mono ?_
      rintro e w2 ⟨⟨x, rfl⟩, h2, g2⟩
      replace h2 : RfBad w2 w.heap.size ws 0 11 q := by
        rcases h2 with ⟨a', q', he, hb', _⟩ | ⟨_, e, p, hS, h2⟩
        · cases he; exact absurd hb hb'
        · rcases hS with he | ⟨a', q', he, _, rfl, rfl⟩
          · cases he
          · cases he; exact h2
      obtain ⟨c3, c4, -, -, he⟩ := h2.bd
      have hf2 := hfin w2 (grownBy_trans g1 g2)
      clear hfin hN
      go_wp2_with fail
      go_quiet (fail)
      go_wp2_with fail
      refine bodyPost_ret (v := .tuple #[.string ⟨#[]⟩, .int .i64 11, .int .i64 q]) (by simp [results, Try.results7, go_sem]) rfl ?_
      exact ⟨readV_of HA.out rfl, below_drewN hf2 _⟩
    · have hO : RfOk w1 w.heap.size ws q 0 := Or.elim hst id (fun h => absurd h.1 hb)
      have hN := now_ok w1 w.heap.size ws q 0 hO hs hb
      by_cases hk : Tp.tk ws.data.toList q = []
      · have hqe : ¬ q < ws.size := fun h => hb ⟨hk, h⟩
        rw [hk] at hN
        have hsz := S_size (Tp.enc a)
        by_cases h64 : (Tp.enc a).length ≤ 64
        · have HA : Aside (Tp.readA ws.data.toList = (Tp.enc a, 0, 0)) := Tp.readA_ok hr (by rw [HL.out]; exact hqe) h64
          have h64' : decide ((64 : Int) < ((S (Tp.enc a)).size : Int)) = false := by rw [hsz]; simp; omega
          have he0 : (S []).toList.isEmpty = true := by rw [ByteArray.toList_eq]; rfl
          clear hr hst hsz
          generalize S [] = em at *
          go_wp2_with fail
          refine hN.mono ?_
          rintro e w2 ⟨rfl, h2, g2⟩
          obtain ⟨c3, -, -, -⟩ := h2.bd
          have hf2 := hfin w2 (grownBy_trans g1 g2)
          clear hfin hN
          go_wp2_with fail
          refine bodyPost_ret (v := .tuple #[.string (S (Tp.enc a)), .int .i64 0, .int .i64 0]) (by simp [results, Try.results7, go_sem]) rfl ?_
          exact ⟨readV_of HA.out rfl, hf2⟩
        · have HA : Aside (Tp.readA ws.data.toList = ([], 21, 0)) := Tp.readA_large hr (by rw [HL.out]; exact hqe) h64
          have h64' : (64 : Int) < ((S (Tp.enc a)).size : Int) := by rw [hsz]; omega
          have he0 : (S []).toList.isEmpty = true := by rw [ByteArray.toList_eq]; rfl
          clear hr hst hsz
          generalize S [] = em at *
          go_wp2_with fail
          refine hN.mono ?_
          rintro e w2 ⟨rfl, h2, g2⟩
          obtain ⟨c3, -, -, -⟩ := h2.bd
          have hf2 := hfin w2 (grownBy_trans g1 g2)
          clear hfin hN
          go_wp2_with fail
          refine bodyPost_ret (v := .tuple #[.string ⟨#[]⟩, .int .i64 21, .int .i64 0]) (by simp [results, Try.results7, go_sem]) rfl ?_
          exact ⟨readV_of HA.out rfl, hf2⟩
      · have hql : q < ws.size := by
          have := (nx_gt (ws := ws) (q := q) hk hq)
          omega
        have HA : Aside (Tp.readA ws.data.toList = ([], 15, q)) := by
          show _ = _
          rw [Tp.readA_more hr (by rw [HL.out]; exact hql)]
          have : Tp.bad ws.data.toList q = 15 := by unfold Tp.bad; rw [str_len]; exact if_neg hb
          rw [this]
        have he0 := S_isEmpty _ hk
        clear hr hst
        generalize S (Tp.tk ws.data.toList q) = tok at *
        go_wp2_with fail
        refine hN.mono ?_
        rintro e w2 ⟨rfl, h2, g2⟩
        have hWr := wrong_ok w2 w.heap.size ws q 0 h2 15 q (by decide)
        clear hN
        go_wp2_with fail
        refine hWr.mono ?_
        rintro e w3 ⟨rfl, h3, g3⟩
        obtain ⟨c3, c4, -, -, he⟩ := h3.bd
        have hf3 := hfin w3 (grownBy_trans (grownBy_trans g1 g2) g3)
        clear hfin
        go_wp2_with fail
        go_quiet (fail)
        go_wp2_with fail
        refine bodyPost_ret (v := .tuple #[.string ⟨#[]⟩, .int .i64 15, .int .i64 q]) (by simp [results, Try.results7, go_sem]) rfl ?_
        exact ⟨readV_of HA.out rfl, below_drewN hf3 _⟩
end Go.Proofs.Ytncnkojbpdemdaa
