/- What the program's parser reads as an atom. What the program's parser reads as a call. What the program's parser reads as a rank. What the program's parser reads as a sum. What the program's parser reads as an expression: all rules together. What the document's IsWord and IsName answer. -/
import Derived.Test.YtohjfikjbeafiaaGreatDoorGam
import Derived.Test.YtohjfikjbeafiaaGreatDoorGan
import Derived.Test.YtohjfikjbeafiaaGreatDoorGao
import Derived.Test.YtohjfikjbeafiaaGreatDoorGal
import Derived.Test.YtohjfikjbeafiaaGreatDoorGai
namespace Go.Proofs.YtohjfikjbeafiaaGreatDoor
open Go.RowKit Ps
set_option maxRecDepth 100000
set_option linter.unusedSimpArgs false

theorem atoms_app {s : List UInt8} (h : appK s ≠ 0) : atomsF s = 135 := by
  unfold appK at h
  by_cases h1 : s = [98, 111, 120]
  · rw [h1]; rfl
  by_cases h2 : s = [115, 105, 122, 101]
  · rw [h2]; rfl
  by_cases h3 : s = [102, 105, 114, 115, 116]
  · rw [h3]; rfl
  by_cases h4 : s = [115, 101, 99, 111, 110, 100]
  · rw [h4]; rfl
  by_cases h5 : s = [104, 101, 97, 100]
  · rw [h5]; rfl
  by_cases h6 : s = [116, 97, 105, 108]
  · rw [h6]; rfl
  by_cases h7 : s = [101, 109, 112, 116, 121]
  · rw [h7]; rfl
  simp [h1, h2, h3, h4, h5, h6, h7] at h
theorem app_lt {L : List PT} {k : Nat} (h : appK (sg L k) ≠ 0) : k < L.length := by
  by_cases hk : k < L.length
  · exact hk
  · exfalso
    apply h
    have : sg L k = [] := by
      unfold sg
      rw [List.getElem?_eq_none (by omega)]
    rw [this]; rfl
theorem atoms_none {s : List UInt8} (h1 : ¬ (s = [116, 114, 117, 101] ∨ s = [102, 97, 108, 115, 101])) (h2 : s ≠ [40]) (h3 : s ≠ [91]) (h4 : ¬ appK s ≠ 0) (h5 : s ≠ [99, 111, 110, 115]) : atomsF s = 0 := by
  have h4 : appK s = 0 := by simpa using h4
  unfold appK at h4
  have q1 : s ≠ [98, 111, 120] := by intro q; rw [q] at h4; simp at h4
  have q2 : s ≠ [115, 105, 122, 101] := by intro q; rw [q] at h4; simp at h4
  have q3 : s ≠ [102, 105, 114, 115, 116] := by intro q; rw [q] at h4; simp at h4
  have q4 : s ≠ [115, 101, 99, 111, 110, 100] := by intro q; rw [q] at h4; simp at h4
  have q5 : s ≠ [104, 101, 97, 100] := by intro q; rw [q] at h4; simp at h4
  have q6 : s ≠ [116, 97, 105, 108] := by intro q; rw [q] at h4; simp at h4
  have q7 : s ≠ [101, 109, 112, 116, 121] := by intro q; rw [q] at h4; simp at h4
  have q8 : s ≠ [116, 114, 117, 101] := fun q => h1 (.inl q)
  have q9 : s ≠ [102, 97, 108, 115, 101] := fun q => h1 (.inr q)
  simp [atomsF, putR, q1, q2, q3, q4, q5, q6, q7, q8, q9, h2, h3, h5]

set_option maxHeartbeats 6000000 in
theorem atom_step {pb : Nat} {L : List PT} {e : PT} {fm am : Value} (he : e.kind = 0) (hTS : ∀ j, (tok L e j).s.length ≤ 65536) {d : Nat} (hF : ∀ d', d' ≤ d → ExC pb L e fm am d') : AtC pb L e fm am (d + 1) := by
  intro k hd w lm nd hnd hM h
  have hX := hF d (Nat.le_refl _)
  have hin := (pe_in L e d).1
  have hlt := h.lt
  have hsl := sg_len hTS he k
  have hki := pkind_any h he
  have hsi : ∀ n, _ := fun n => psign_any (h.drewN n).drew he
  obtain ⟨mb, ab, rfl, rfl, hmb, hab, hI, hJ⟩ := hM
  have hM : Mp w pb (.map (some mb)) (.map (some ab)) := ⟨mb, ab, rfl, rfl, hmb, hab, hI, hJ⟩
  have CF : Aside (∀ n, (w.drewN n).cell? ⟨pb, 13, none⟩ = some (.map (some ab))) := fun n => by
    obtain ⟨tb, o, c, h1, _⟩ := h.blk
    exact (block_cells h1).1 13
  have hIn : ∀ n, IsRules (w.drewN n) ab atomsF := fun n => hJ.kept (r := some pb) (grownBy_drewN (grownBy_refl w _) n) (by simp; omega)
  have G0 : ∀ n, w.grownBy (w.drewN n) (some pb) := fun n => grownBy_drewN (grownBy_refl w _) n
  rw [pe]
  by_cases hk0 : kd L k = 3
  · have hk := kd_lt (L := L) (k := k) (by rw [hk0]; decide)
    rw [if_pos hk0]
    rw [hk0] at hki
    clear hk0 hsi hIn CF
    obtain ⟨rr, hrr⟩ : ∃ rr, rr = leafR L e 1 k := ⟨_, rfl⟩
    have hc : ∀ n, _ := fun n => leaf_any hk hnd (h.drewN n) 1
    rw [← hrr]
    simp only [← hrr] at hc
    have HRR : Aside (rr = leafR L e 1 k) := hrr
    clear hrr
    go_enter Tryz.func247, Tryz.ntmps247
    go_wp2_with fail
    refine hki.mono ?_
    rintro e0 w0 ⟨rfl, n0, rfl⟩
    go_wp2_with fail
    refine (hc _).mono ?_
    intro e2 w2 hx
    rw [HRR.out] at hx
    obtain ⟨b, nd2, rfl, hb, P2, hn2, g2⟩ := hx
    have GG := grownBy_trans (G0 n0) g2
    clear hc
    go_wp2_with fail
    go_ret
    rw [HRR.out]
    exact ExEnd.ok b nd2 rfl hb P2 hn2 GG
  rw [if_neg hk0]
  by_cases hk1 : kd L k = 4
  · have hk := kd_lt (L := L) (k := k) (by rw [hk1]; decide)
    rw [if_pos hk1]
    rw [hk1] at hki
    clear hk1 hsi hIn CF
    obtain ⟨rr, hrr⟩ : ∃ rr, rr = leafR L e 2 k := ⟨_, rfl⟩
    have hc : ∀ n, _ := fun n => leaf_any hk hnd (h.drewN n) 2
    rw [← hrr]
    simp only [← hrr] at hc
    have HRR : Aside (rr = leafR L e 2 k) := hrr
    clear hrr
    go_enter Tryz.func247, Tryz.ntmps247
    go_wp2_with fail
    refine hki.mono ?_
    rintro e0 w0 ⟨rfl, n0, rfl⟩
    go_wp2_with fail
    refine (hc _).mono ?_
    intro e2 w2 hx
    rw [HRR.out] at hx
    obtain ⟨b, nd2, rfl, hb, P2, hn2, g2⟩ := hx
    have GG := grownBy_trans (G0 n0) g2
    clear hc
    go_wp2_with fail
    go_ret
    rw [HRR.out]
    exact ExEnd.ok b nd2 rfl hb P2 hn2 GG
  rw [if_neg hk1]
  by_cases hk2 : kd L k = 2
  · have hk := kd_lt (L := L) (k := k) (by rw [hk2]; decide)
    rw [if_pos hk2]
    rw [hk2] at hki
    clear hk2 hsi hIn CF
    obtain ⟨rr, hrr⟩ : ∃ rr, rr = leafR L e 4 k := ⟨_, rfl⟩
    have hc : ∀ n, _ := fun n => leaf_any hk hnd (h.drewN n) 4
    rw [← hrr]
    simp only [← hrr] at hc
    have HRR : Aside (rr = leafR L e 4 k) := hrr
    clear hrr
    go_enter Tryz.func247, Tryz.ntmps247
    go_wp2_with fail
    refine hki.mono ?_
    rintro e0 w0 ⟨rfl, n0, rfl⟩
    go_wp2_with fail
    refine (hc _).mono ?_
    intro e2 w2 hx
    rw [HRR.out] at hx
    obtain ⟨b, nd2, rfl, hb, P2, hn2, g2⟩ := hx
    have GG := grownBy_trans (G0 n0) g2
    clear hc
    go_wp2_with fail
    go_ret
    rw [HRR.out]
    exact ExEnd.ok b nd2 rfl hb P2 hn2 GG
  rw [if_neg hk2]
  have p0 : (kd L k == 3) = false := by simpa using hk0
  have p1 : (kd L k == 4) = false := by simpa using hk1
  have p2 : (kd L k == 2) = false := by simpa using hk2
  have r0 : decide (kd L k = 3) = false := by simpa using hk0
  have r1 : decide (kd L k = 4) = false := by simpa using hk1
  have r2 : decide (kd L k = 2) = false := by simpa using hk2
  generalize kd L k = kk at *
  by_cases hs0 : sg L k = [116, 114, 117, 101] ∨ sg L k = [102, 97, 108, 115, 101]
  · have hk := hs0.elim sg_lt sg_lt
    rw [if_pos hs0]
    have HS : Aside (sg L k = [116, 114, 117, 101] ∨ sg L k = [102, 97, 108, 115, 101]) := hs0
    have HL : Aside (∀ n, (Instr.lookup 126 (.map (some ab)) (.string (S (sg L k))) true).run Tryz.prog (w.drewN n) = .ok (.tuple #[rule 132, .bool true]) (w.drewN n)) := fun n => rules_yes (hIn n) _ hsl 132 (by decide) (by rcases hs0 with q | q <;> rw [q] <;> rfl)
    clear hs0 hIn
    cases hr : truthR L e k with
    | error j =>
      go_enter Tryz.func247, Tryz.ntmps247
      go_wp2_with fail
      refine hki.mono ?_
      rintro e0 w0 ⟨rfl, n0, rfl⟩
      have cf := CF.out n0
      have hsi2 := hsi n0
      go_upto_region 8 with fail
      go_region_held (fun w' => w'.cell? ⟨pb, 13, none⟩ = some (.map (some ab))) (first | assumption | go_keep) (first | (go_at_call 81; refine hsi2.mono ?_; rintro e1 w1 ⟨rfl, n1, rfl⟩; have hlk := HL.out (n0 + 1 + n1)))
      have g1 : w.grownBy (w.drewN (n0 + 1 + n1)) (some pb) := G0 (n0 + 1 + n1)
      have PW := h.drewN (n0 + 1 + n1)
      have MW := hM.grown g1
      have hc := truth_any hk hnd PW
      rw [hr] at hc
      clear hlk hsi hsi2 HL
      go_wp2_with fail
      refine hc.mono ?_
      rintro e2 w2 ⟨rfl, g2⟩
      have GG := grownBy_trans g1 g2
      go_wp2_with fail
      exact ⟨rfl, ExEnd.bad rfl GG⟩
    | ok q =>
      obtain ⟨t, j, l⟩ := q
      go_enter Tryz.func247, Tryz.ntmps247
      go_wp2_with fail
      refine hki.mono ?_
      rintro e0 w0 ⟨rfl, n0, rfl⟩
      have cf := CF.out n0
      have hsi2 := hsi n0
      go_upto_region 8 with fail
      go_region_held (fun w' => w'.cell? ⟨pb, 13, none⟩ = some (.map (some ab))) (first | assumption | go_keep) (first | (go_at_call 81; refine hsi2.mono ?_; rintro e1 w1 ⟨rfl, n1, rfl⟩; have hlk := HL.out (n0 + 1 + n1)))
      have g1 : w.grownBy (w.drewN (n0 + 1 + n1)) (some pb) := G0 (n0 + 1 + n1)
      have PW := h.drewN (n0 + 1 + n1)
      have MW := hM.grown g1
      have hc := truth_any hk hnd PW
      rw [hr] at hc
      clear hlk hsi hsi2 HL
      go_wp2_with fail
      refine hc.mono ?_
      rintro e2 w2 ⟨b, nd2, rfl, hb, P2, hn2, g2⟩
      have GG := grownBy_trans g1 g2
      clear hc
      go_wp2_with fail
      go_ret
      exact ExEnd.ok b nd2 rfl hb P2 hn2 GG
  rw [if_neg hs0]
  by_cases hs1 : sg L k = [40]
  · have hk := sg_lt hs1
    rw [if_pos hs1]
    have HS : Aside (sg L k = [40]) := hs1
    have HL : Aside (∀ n, (Instr.lookup 126 (.map (some ab)) (.string (S (sg L k))) true).run Tryz.prog (w.drewN n) = .ok (.tuple #[rule 133, .bool true]) (w.drewN n)) := fun n => rules_yes (hIn n) _ hsl 133 (by decide) (by rw [hs1]; rfl)
    clear hs1 hIn
    cases hr : brR L e (pe L e d .ex) k with
    | error j =>
      go_enter Tryz.func247, Tryz.ntmps247
      go_wp2_with fail
      refine hki.mono ?_
      rintro e0 w0 ⟨rfl, n0, rfl⟩
      have cf := CF.out n0
      have hsi2 := hsi n0
      go_upto_region 8 with fail
      go_region_held (fun w' => w'.cell? ⟨pb, 13, none⟩ = some (.map (some ab))) (first | assumption | go_keep) (first | (go_at_call 81; refine hsi2.mono ?_; rintro e1 w1 ⟨rfl, n1, rfl⟩; have hlk := HL.out (n0 + 1 + n1)))
      have g1 : w.grownBy (w.drewN (n0 + 1 + n1)) (some pb) := G0 (n0 + 1 + n1)
      have PW := h.drewN (n0 + 1 + n1)
      have MW := hM.grown g1
      have hc := brackets_any he hin (fun j hj => hX j (by omega)) HS.out hnd MW PW
      rw [hr] at hc
      clear hlk hsi hsi2 HL
      go_wp2_with fail
      refine hc.mono ?_
      rintro e2 w2 ⟨rfl, g2⟩
      have GG := grownBy_trans g1 g2
      go_wp2_with fail
      exact ⟨rfl, ExEnd.bad rfl GG⟩
    | ok q =>
      obtain ⟨t, j, l⟩ := q
      go_enter Tryz.func247, Tryz.ntmps247
      go_wp2_with fail
      refine hki.mono ?_
      rintro e0 w0 ⟨rfl, n0, rfl⟩
      have cf := CF.out n0
      have hsi2 := hsi n0
      go_upto_region 8 with fail
      go_region_held (fun w' => w'.cell? ⟨pb, 13, none⟩ = some (.map (some ab))) (first | assumption | go_keep) (first | (go_at_call 81; refine hsi2.mono ?_; rintro e1 w1 ⟨rfl, n1, rfl⟩; have hlk := HL.out (n0 + 1 + n1)))
      have g1 : w.grownBy (w.drewN (n0 + 1 + n1)) (some pb) := G0 (n0 + 1 + n1)
      have PW := h.drewN (n0 + 1 + n1)
      have MW := hM.grown g1
      have hc := brackets_any he hin (fun j hj => hX j (by omega)) HS.out hnd MW PW
      rw [hr] at hc
      clear hlk hsi hsi2 HL
      go_wp2_with fail
      refine hc.mono ?_
      rintro e2 w2 ⟨b, nd2, rfl, hb, P2, hn2, g2⟩
      have GG := grownBy_trans g1 g2
      clear hc
      go_wp2_with fail
      go_ret
      exact ExEnd.ok b nd2 rfl hb P2 hn2 GG
  rw [if_neg hs1]
  by_cases hs2 : sg L k = [91]
  · have hk := sg_lt hs2
    rw [if_pos hs2]
    have HS : Aside (sg L k = [91]) := hs2
    have HL : Aside (∀ n, (Instr.lookup 126 (.map (some ab)) (.string (S (sg L k))) true).run Tryz.prog (w.drewN n) = .ok (.tuple #[rule 134, .bool true]) (w.drewN n)) := fun n => rules_yes (hIn n) _ hsl 134 (by decide) (by rw [hs2]; rfl)
    clear hs2 hIn
    cases hr : lsR L e (pe L e d .ex) (fun p l k => pe L e d (.lsl p l) k) k with
    | error j =>
      go_enter Tryz.func247, Tryz.ntmps247
      go_wp2_with fail
      refine hki.mono ?_
      rintro e0 w0 ⟨rfl, n0, rfl⟩
      have cf := CF.out n0
      have hsi2 := hsi n0
      go_upto_region 8 with fail
      go_region_held (fun w' => w'.cell? ⟨pb, 13, none⟩ = some (.map (some ab))) (first | assumption | go_keep) (first | (go_at_call 81; refine hsi2.mono ?_; rintro e1 w1 ⟨rfl, n1, rfl⟩; have hlk := HL.out (n0 + 1 + n1)))
      have g1 : w.grownBy (w.drewN (n0 + 1 + n1)) (some pb) := G0 (n0 + 1 + n1)
      have PW := h.drewN (n0 + 1 + n1)
      have MW := hM.grown g1
      have hc := list_step he hF HS.out (by omega) _ _ _ hnd MW PW
      rw [hr] at hc
      clear hlk hsi hsi2 HL
      go_wp2_with fail
      refine hc.mono ?_
      rintro e2 w2 ⟨rfl, g2⟩
      have GG := grownBy_trans g1 g2
      go_wp2_with fail
      exact ⟨rfl, ExEnd.bad rfl GG⟩
    | ok q =>
      obtain ⟨t, j, l⟩ := q
      go_enter Tryz.func247, Tryz.ntmps247
      go_wp2_with fail
      refine hki.mono ?_
      rintro e0 w0 ⟨rfl, n0, rfl⟩
      have cf := CF.out n0
      have hsi2 := hsi n0
      go_upto_region 8 with fail
      go_region_held (fun w' => w'.cell? ⟨pb, 13, none⟩ = some (.map (some ab))) (first | assumption | go_keep) (first | (go_at_call 81; refine hsi2.mono ?_; rintro e1 w1 ⟨rfl, n1, rfl⟩; have hlk := HL.out (n0 + 1 + n1)))
      have g1 : w.grownBy (w.drewN (n0 + 1 + n1)) (some pb) := G0 (n0 + 1 + n1)
      have PW := h.drewN (n0 + 1 + n1)
      have MW := hM.grown g1
      have hc := list_step he hF HS.out (by omega) _ _ _ hnd MW PW
      rw [hr] at hc
      clear hlk hsi hsi2 HL
      go_wp2_with fail
      refine hc.mono ?_
      rintro e2 w2 ⟨b, nd2, rfl, hb, P2, hn2, g2⟩
      have GG := grownBy_trans g1 g2
      clear hc
      go_wp2_with fail
      go_ret
      exact ExEnd.ok b nd2 rfl hb P2 hn2 GG
  rw [if_neg hs2]
  by_cases hs3 : appK (sg L k) ≠ 0
  · have hk := app_lt hs3
    rw [if_pos hs3]
    have HS : Aside (appK (sg L k) ≠ 0) := hs3
    have HL : Aside (∀ n, (Instr.lookup 126 (.map (some ab)) (.string (S (sg L k))) true).run Tryz.prog (w.drewN n) = .ok (.tuple #[rule 135, .bool true]) (w.drewN n)) := fun n => rules_yes (hIn n) _ hsl 135 (by decide) (atoms_app hs3)
    clear hs3 hIn
    cases hr : appR L e (pe L e d .ex) k with
    | error j =>
      go_enter Tryz.func247, Tryz.ntmps247
      go_wp2_with fail
      refine hki.mono ?_
      rintro e0 w0 ⟨rfl, n0, rfl⟩
      have cf := CF.out n0
      have hsi2 := hsi n0
      go_upto_region 8 with fail
      go_region_held (fun w' => w'.cell? ⟨pb, 13, none⟩ = some (.map (some ab))) (first | assumption | go_keep) (first | (go_at_call 81; refine hsi2.mono ?_; rintro e1 w1 ⟨rfl, n1, rfl⟩; have hlk := HL.out (n0 + 1 + n1)))
      have g1 : w.grownBy (w.drewN (n0 + 1 + n1)) (some pb) := G0 (n0 + 1 + n1)
      have PW := h.drewN (n0 + 1 + n1)
      have MW := hM.grown g1
      have hc := applied_any he hTS hin (fun j hj => hX j (by omega)) HS.out hnd MW PW
      rw [hr] at hc
      clear hlk hsi hsi2 HL
      go_wp2_with fail
      refine hc.mono ?_
      rintro e2 w2 ⟨rfl, g2⟩
      have GG := grownBy_trans g1 g2
      go_wp2_with fail
      exact ⟨rfl, ExEnd.bad rfl GG⟩
    | ok q =>
      obtain ⟨t, j, l⟩ := q
      go_enter Tryz.func247, Tryz.ntmps247
      go_wp2_with fail
      refine hki.mono ?_
      rintro e0 w0 ⟨rfl, n0, rfl⟩
      have cf := CF.out n0
      have hsi2 := hsi n0
      go_upto_region 8 with fail
      go_region_held (fun w' => w'.cell? ⟨pb, 13, none⟩ = some (.map (some ab))) (first | assumption | go_keep) (first | (go_at_call 81; refine hsi2.mono ?_; rintro e1 w1 ⟨rfl, n1, rfl⟩; have hlk := HL.out (n0 + 1 + n1)))
      have g1 : w.grownBy (w.drewN (n0 + 1 + n1)) (some pb) := G0 (n0 + 1 + n1)
      have PW := h.drewN (n0 + 1 + n1)
      have MW := hM.grown g1
      have hc := applied_any he hTS hin (fun j hj => hX j (by omega)) HS.out hnd MW PW
      rw [hr] at hc
      clear hlk hsi hsi2 HL
      go_wp2_with fail
      refine hc.mono ?_
      rintro e2 w2 ⟨b, nd2, rfl, hb, P2, hn2, g2⟩
      have GG := grownBy_trans g1 g2
      clear hc
      go_wp2_with fail
      go_ret
      exact ExEnd.ok b nd2 rfl hb P2 hn2 GG
  rw [if_neg hs3]
  by_cases hs4 : sg L k = [99, 111, 110, 115]
  · have hk := sg_lt hs4
    rw [if_pos hs4]
    have HS : Aside (sg L k = [99, 111, 110, 115]) := hs4
    have HL : Aside (∀ n, (Instr.lookup 126 (.map (some ab)) (.string (S (sg L k))) true).run Tryz.prog (w.drewN n) = .ok (.tuple #[rule 136, .bool true]) (w.drewN n)) := fun n => rules_yes (hIn n) _ hsl 136 (by decide) (by rw [hs4]; rfl)
    clear hs4 hIn
    cases hr : consR L e (pe L e d .ex) k with
    | error j =>
      go_enter Tryz.func247, Tryz.ntmps247
      go_wp2_with fail
      refine hki.mono ?_
      rintro e0 w0 ⟨rfl, n0, rfl⟩
      have cf := CF.out n0
      have hsi2 := hsi n0
      go_upto_region 8 with fail
      go_region_held (fun w' => w'.cell? ⟨pb, 13, none⟩ = some (.map (some ab))) (first | assumption | go_keep) (first | (go_at_call 81; refine hsi2.mono ?_; rintro e1 w1 ⟨rfl, n1, rfl⟩; have hlk := HL.out (n0 + 1 + n1)))
      have g1 : w.grownBy (w.drewN (n0 + 1 + n1)) (some pb) := G0 (n0 + 1 + n1)
      have PW := h.drewN (n0 + 1 + n1)
      have MW := hM.grown g1
      have hc := cons_any he hin (fun j hj => hX j (by omega)) HS.out hnd MW PW
      rw [hr] at hc
      clear hlk hsi hsi2 HL
      go_wp2_with fail
      refine hc.mono ?_
      rintro e2 w2 ⟨rfl, g2⟩
      have GG := grownBy_trans g1 g2
      go_wp2_with fail
      exact ⟨rfl, ExEnd.bad rfl GG⟩
    | ok q =>
      obtain ⟨t, j, l⟩ := q
      go_enter Tryz.func247, Tryz.ntmps247
      go_wp2_with fail
      refine hki.mono ?_
      rintro e0 w0 ⟨rfl, n0, rfl⟩
      have cf := CF.out n0
      have hsi2 := hsi n0
      go_upto_region 8 with fail
      go_region_held (fun w' => w'.cell? ⟨pb, 13, none⟩ = some (.map (some ab))) (first | assumption | go_keep) (first | (go_at_call 81; refine hsi2.mono ?_; rintro e1 w1 ⟨rfl, n1, rfl⟩; have hlk := HL.out (n0 + 1 + n1)))
      have g1 : w.grownBy (w.drewN (n0 + 1 + n1)) (some pb) := G0 (n0 + 1 + n1)
      have PW := h.drewN (n0 + 1 + n1)
      have MW := hM.grown g1
      have hc := cons_any he hin (fun j hj => hX j (by omega)) HS.out hnd MW PW
      rw [hr] at hc
      clear hlk hsi hsi2 HL
      go_wp2_with fail
      refine hc.mono ?_
      rintro e2 w2 ⟨b, nd2, rfl, hb, P2, hn2, g2⟩
      have GG := grownBy_trans g1 g2
      clear hc
      go_wp2_with fail
      go_ret
      exact ExEnd.ok b nd2 rfl hb P2 hn2 GG
  rw [if_neg hs4]
  have HL : Aside (∀ n, (Instr.lookup 126 (.map (some ab)) (.string (S (sg L k))) true).run Tryz.prog (w.drewN n) = .ok (.tuple #[.nilFunc, .bool false]) (w.drewN n)) := fun n => rules_no (hIn n) _ hsl (atoms_none hs0 hs1 hs2 hs3 hs4)
  clear hs0 hs1 hs2 hs3 hs4 hIn
  go_enter Tryz.func247, Tryz.ntmps247
  go_wp2_with fail
  refine hki.mono ?_
  rintro e0 w0 ⟨rfl, n0, rfl⟩
  have cf := CF.out n0
  have hsi2 := hsi n0
  go_upto_region 8 with fail
  go_region_held (fun w' => w'.cell? ⟨pb, 13, none⟩ = some (.map (some ab))) (first | assumption | go_keep) (first | (go_at_call 81; refine hsi2.mono ?_; rintro e1 w1 ⟨rfl, n1, rfl⟩; have hlk := HL.out (n0 + 1 + n1)))
  have g1 : w.grownBy (w.drewN (n0 + 1 + n1)) (some pb) := G0 (n0 + 1 + n1)
  have hms := pmis_any (h.drewN (n0 + 1 + n1))
  clear hlk hsi hsi2 HL
  go_wp2_with fail
  refine hms.mono ?_
  rintro e2 w2 ⟨rfl, hb⟩
  have GG := grownBy_below g1 hb
  clear hms hb
  go_wp2_with fail
  exact ⟨rfl, ExEnd.bad rfl GG⟩
end Go.Proofs.YtohjfikjbeafiaaGreatDoor
namespace Go.Proofs.YtohjfikjbeafiaaGreatDoor
open Go.RowKit Ps
set_option maxRecDepth 100000
set_option linter.unusedSimpArgs false

set_option maxHeartbeats 6000000 in
theorem call_step {pb : Nat} {L : List PT} {e : PT} {fm am : Value} (he : e.kind = 0) {d : Nat} (hA : AtC pb L e fm am d) (hF : ∀ d', d' ≤ d → ExC pb L e fm am d') : ClC pb L e fm am (d + 1) := by
  intro k hd w lm nd hnd hM h
  have hfc := hA k (by omega) w lm nd hnd hM h
  have hin := (pe_in L e d).2.2.2.2.2.2.1
  have hlt := h.lt
  have hat := h.at'
  rw [pe]
  cases hr : pe L e d .at k with
  | error j =>
    rw [hr] at hfc
    rw [bnd_err _ rfl]
    clear h hF
    go_enter Tryz.func244, Tryz.ntmps244
    go_wp2_with fail
    refine hfc.mono ?_
    rintro e1 w1 ⟨rfl, g1⟩
    go_wp2_with fail
    exact ⟨rfl, ExEnd.bad rfl g1⟩
  | ok q =>
    obtain ⟨a, j, l⟩ := q
    rw [hr] at hfc
    have ho := hin.ok hat hr
    rw [bnd_pre _ rfl]
    obtain ⟨r0, hr0⟩ : ∃ r0, r0 = pre l (pe L e d (.cll a) j) := ⟨_, rfl⟩
    rw [← hr0]
    have HR0 : Aside (r0 = pre l (pe L e d (.cll a) j)) := hr0
    clear hr0 hr
    go_enter Tryz.func244, Tryz.ntmps244
    go_wp2_with fail
    refine hfc.mono ?_
    rintro e1 w1 ⟨b1, nd1, rfl, hb1, P1, hn1, g1⟩
    clear hfc
    go_wp2_with fail
    go_loopg [3] d (fun g v wr => ∃ (d' b' nd' j' : Nat) (a' : Tr.T) (l' : List Nat), g = d' ∧ d' ≤ d ∧ v = .pointer (some ⟨b', 0, none⟩) ∧ Br wr pb b' a' ∧ Prs wr pb L e j' (eff L e lm l') fm am nd' ∧ nd' = nd + sz a' ∧ w.grownBy wr (some pb) ∧ 10 * (L.length - j') + 1 ≤ d' ∧ nd' + (L.length - j') ≤ 200000 ∧ k < j' ∧ Aside (r0 = pre l' (pe L e d' (.cll a') j')))
    case atStart => exact ⟨d, b1, nd1, j, a, l, rfl, Nat.le_refl _, rfl, hb1, P1, by omega, g1, by omega, by omega, by omega, HR0.out⟩
    case round =>
      clear hb1 P1 hn1 g1 HR0
      obtain ⟨d', b', nd', j', a', l', rfl, hdd, rfl, hB, hP, hn, hg, hfu, hnn, hkj, HR⟩ := hrel
      have hl0 := hP.lt
      obtain ⟨d2, rfl⟩ : ∃ d2, gk = d2 + 1 := ⟨gk - 1, by omega⟩
      by_cases hs : sg L j' = [40]
      · have hj := sg_lt hs
        have hq : ((S (sg L j')).toList == [40]) = true := by rw [beq_SL]; simpa using hs
        have HR2 : Aside (r0 = pre l' (bnd (pe L e d2 .ex (j' + 1)) fun b i => bnd (expc L e [41] i) fun _ i => pe L e d2 (.cll (two 7 (tok L e j') a' b)) i)) := by
          show _ = _
          rw [HR.out, pe, if_pos hs]
        clear HR hs
        have hin2 := (pe_in L e d2).1
        have hfl := fldAt (.int .i8 (tok L e j').kind) (.int .i64 (tok L e j').n) (.string (S (tok L e j').s)) (.int .i64 (tok L e j').ln) (.int .i64 (tok L e j').co)
        cases hr : pe L e d2 .ex (j' + 1) with
        | error i =>
          have HR3 : Aside (r0 = .error i) := by show _ = _; rw [HR2.out, bnd_err _ hr]; rfl
          clear HR2
          have hsi1 := psign_any hP he
          go_wp2_with fail
          refine hsi1.mono ?_
          rintro ee1 ww1 ⟨rfl, nn1, rfl⟩
          have hBs1 : Below wr.heap.size wr (wr.drewN nn1) := ⟨rfl, rfl, rfl, Nat.le_refl _, fun _ _ => rfl⟩
          have PP1 := hP.drewN nn1
          have GG1 : w.grownBy (wr.drewN nn1) (some pb) := grownBy_drewN hg nn1
          have hB1_0 := hB.stay hBs1
          clear hsi1 hBs1
          have hc2 := ptake_any PP1 hj
          go_wp2_with fail
          refine hc2.mono ?_
          rintro ee2 ww2 ⟨rfl, PP2, gg2⟩
          have hB2_0 := hB1_0.grown gg2
          have GG2 := grownBy_trans GG1 gg2
          have hl2 := PP2.lt
          clear hc2 gg2
          unfold tagg
          have hBa3 : Below ww2.heap.size ww2 (ww2.alloc (.cells #[.int .i64 (tok L e j').ln, .int .i64 (tok L e j').co] 28)) := (Below.refl _ _).alloc (Nat.le_refl _) _
          have PP3 := PP2.kept hBa3
          have GG3 : w.grownBy (ww2.alloc (.cells #[.int .i64 (tok L e j').ln, .int .i64 (tok L e j').co] 28)) (some pb) := grownBy_below GG2 hBa3
          have hB3_0 := hB2_0.stay hBa3
          have hlB3 := PP2.lt
          have kp3 : (ww2.alloc (.cells #[.int .i64 (tok L e j').ln, .int .i64 (tok L e j').co] 28)).heap[ww2.heap.size]? = some (.cells #[.int .i64 (tok L e j').ln, .int .i64 (tok L e j').co] 28) := heap_alloc_new _ _
          clear hBa3
          have hc := hF d2 (by omega) (j' + 1) (by omega) (ww2.alloc (.cells #[.int .i64 (tok L e j').ln, .int .i64 (tok L e j').co] 28)) _ nd' (by omega) (hM.grown GG3) PP3
          rw [hr] at hc
          go_wp2_with fail
          refine hc.mono ?_
          rintro e5 w5 ⟨rfl, g5⟩
          have GG := grownBy_trans GG3 g5
          go_wp2_with fail
          exact ⟨rfl, by rw [HR3.out]; exact ExEnd.bad rfl GG⟩
        | ok q2 =>
          obtain ⟨b2, i, m⟩ := q2
          have hx2 := hin2.ok hj hr
          by_cases hs2 : sg L i = [41]
          · have hi := sg_lt hs2
            have HR3 : Aside (r0 = pre (l' ++ m) (pe L e d2 (.cll (two 7 (tok L e j') a' b2)) (i + 1))) := by
              show _ = _
              rw [HR2.out, bnd_pre _ hr, pre_pre, bnd_nil _ (show expc L e [41] i = .ok (tok L e i, i + 1, []) by unfold expc; rw [if_pos hs2])]
            have HS2 : Aside (sg L i = [41]) := hs2
            clear HR2 hs2
            have hsi1 := psign_any hP he
            go_wp2_with fail
            refine hsi1.mono ?_
            rintro ee1 ww1 ⟨rfl, nn1, rfl⟩
            have hBs1 : Below wr.heap.size wr (wr.drewN nn1) := ⟨rfl, rfl, rfl, Nat.le_refl _, fun _ _ => rfl⟩
            have PP1 := hP.drewN nn1
            have GG1 : w.grownBy (wr.drewN nn1) (some pb) := grownBy_drewN hg nn1
            have hB1_0 := hB.stay hBs1
            clear hsi1 hBs1
            have hc2 := ptake_any PP1 hj
            go_wp2_with fail
            refine hc2.mono ?_
            rintro ee2 ww2 ⟨rfl, PP2, gg2⟩
            have hB2_0 := hB1_0.grown gg2
            have GG2 := grownBy_trans GG1 gg2
            have hl2 := PP2.lt
            clear hc2 gg2
            unfold tagg
            have hBa3 : Below ww2.heap.size ww2 (ww2.alloc (.cells #[.int .i64 (tok L e j').ln, .int .i64 (tok L e j').co] 28)) := (Below.refl _ _).alloc (Nat.le_refl _) _
            have PP3 := PP2.kept hBa3
            have GG3 : w.grownBy (ww2.alloc (.cells #[.int .i64 (tok L e j').ln, .int .i64 (tok L e j').co] 28)) (some pb) := grownBy_below GG2 hBa3
            have hB3_0 := hB2_0.stay hBa3
            have hlB3 := PP2.lt
            have kp3 : (ww2.alloc (.cells #[.int .i64 (tok L e j').ln, .int .i64 (tok L e j').co] 28)).heap[ww2.heap.size]? = some (.cells #[.int .i64 (tok L e j').ln, .int .i64 (tok L e j').co] 28) := heap_alloc_new _ _
            clear hBa3
            have hc4 := hF d2 (by omega) (j' + 1) (by omega) (ww2.alloc (.cells #[.int .i64 (tok L e j').ln, .int .i64 (tok L e j').co] 28)) _ nd' (by omega) (hM.grown GG3) PP3
            rw [hr] at hc4
            go_wp2_with fail
            refine hc4.mono ?_
            rintro ee4 ww4 ⟨bX, nX, rfl, HX, PP4, hnX, gg4⟩
            have hB4_0 := hB3_0.grown gg4
            have kb4_0 := (gg4.block ww2.heap.size (Array.getElem?_eq_some_iff.1 kp3).1 (by simp; omega)).trans kp3
            have GG4 := grownBy_trans GG3 gg4
            have hl4 := PP4.lt
            clear hc4 gg4
            have hc5 := pexpect_yes PP4 he 41 [] HS2.out
            go_wp2_with fail
            refine hc5.mono ?_
            rintro ee5 ww5 ⟨rfl, PP5, gg5⟩
            have hB5_0 := hB4_0.grown gg5
            have HX5_1 := HX.grown gg5
            have kb5_0 := (gg5.block ww2.heap.size (Array.getElem?_eq_some_iff.1 kb4_0).1 (by simp; omega)).trans kb4_0
            have GG5 := grownBy_trans GG4 gg5
            have hl5 := PP5.lt
            clear hc5 gg5
            have i0_6 : ww5.cell? ⟨ww2.heap.size, 0, none⟩ = some (.int .i64 (tok L e j').ln) := (block_cells kb5_0).1 0
            have i1_6 : ww5.cell? ⟨ww2.heap.size, 1, none⟩ = some (.int .i64 (tok L e j').co) := (block_cells kb5_0).1 1
            have hBt6 : Below ww5.heap.size ww5 (ww5.alloc (.cells #[.pointer (some ⟨b', 0, none⟩), .pointer (some ⟨bX, 0, none⟩)] 215)) := (Below.refl _ _).alloc (Nat.le_refl _) _
            have hgr6 := pgrow_any (PP5.kept hBt6) (by omega) 7 (tok L e j').ln (tok L e j').co (some ⟨ww5.heap.size, 0, none⟩) 2 2
            go_wp2_with fail
            refine hgr6.mono ?_
            rintro e3 w3 ⟨rfl, k3, P4, g3, hz3⟩
            have GG6 : w.grownBy w3 (some pb) := grownBy_trans (grownBy_below GG5 hBt6) g3
            have hs6 : (ww5.alloc (.cells #[.pointer (some ⟨b', 0, none⟩), .pointer (some ⟨bX, 0, none⟩)] 215)).heap.size = ww5.heap.size + 1 := by simp
            rw [hs6] at k3 hz3
            have hp6 := PP5.lt
            have kl6_0 := hB5_0.lt
            have kl6_1 := HX5_1.lt
            have BR6 : Br w3 pb (ww5.heap.size + 1 + 1) (.nd (mkN 7 2 (tok L e j')) [a', b2]) := by
              refine br_up [b', bX] [a', b2] ww5.heap.size (by omega) k3 ((g3.block ww5.heap.size (by simp) (by simp; omega)).trans (heap_alloc_new _ _)) (by omega) (by omega) rfl ?_ ?_
              · intro i c t h1 h2
                match i, h1, h2 with
                | 0, h1, h2 => cases h1; cases h2; exact (hB5_0.stay hBt6).grown g3
                | 1, h1, h2 => cases h1; cases h2; exact (HX5_1.stay hBt6).grown g3
              · intro i c h1
                match i, h1 with
                | 0, h1 => cases h1; omega
                | 1, h1 => cases h1; omega
            clear hgr6
            rw [← eff_app] at P4
            go_wp2_with fail
            go_roundg d2
            case measure => omega
            case rel => exact ⟨d2, _, nX + 1, i + 1, two 7 (tok L e j') a' b2, l' ++ m, rfl, by omega, rfl, BR6, P4, by (simp [sz, two, Tr.flat, Tr.flats] at *; omega), GG6, by omega, by omega, by omega, HR3.out⟩
          · have HR3 : Aside (r0 = .error i) := by
              show _ = _
              rw [HR2.out, bnd_pre _ hr, bnd_err _ (show expc L e [41] i = .error i by unfold expc; rw [if_neg hs2])]
              rfl
            have HS2 : Aside (sg L i ≠ [41]) := hs2
            clear HR2 hs2
            have hsi1 := psign_any hP he
            go_wp2_with fail
            refine hsi1.mono ?_
            rintro ee1 ww1 ⟨rfl, nn1, rfl⟩
            have hBs1 : Below wr.heap.size wr (wr.drewN nn1) := ⟨rfl, rfl, rfl, Nat.le_refl _, fun _ _ => rfl⟩
            have PP1 := hP.drewN nn1
            have GG1 : w.grownBy (wr.drewN nn1) (some pb) := grownBy_drewN hg nn1
            have hB1_0 := hB.stay hBs1
            clear hsi1 hBs1
            have hc2 := ptake_any PP1 hj
            go_wp2_with fail
            refine hc2.mono ?_
            rintro ee2 ww2 ⟨rfl, PP2, gg2⟩
            have hB2_0 := hB1_0.grown gg2
            have GG2 := grownBy_trans GG1 gg2
            have hl2 := PP2.lt
            clear hc2 gg2
            unfold tagg
            have hBa3 : Below ww2.heap.size ww2 (ww2.alloc (.cells #[.int .i64 (tok L e j').ln, .int .i64 (tok L e j').co] 28)) := (Below.refl _ _).alloc (Nat.le_refl _) _
            have PP3 := PP2.kept hBa3
            have GG3 : w.grownBy (ww2.alloc (.cells #[.int .i64 (tok L e j').ln, .int .i64 (tok L e j').co] 28)) (some pb) := grownBy_below GG2 hBa3
            have hB3_0 := hB2_0.stay hBa3
            have hlB3 := PP2.lt
            have kp3 : (ww2.alloc (.cells #[.int .i64 (tok L e j').ln, .int .i64 (tok L e j').co] 28)).heap[ww2.heap.size]? = some (.cells #[.int .i64 (tok L e j').ln, .int .i64 (tok L e j').co] 28) := heap_alloc_new _ _
            clear hBa3
            have hc4 := hF d2 (by omega) (j' + 1) (by omega) (ww2.alloc (.cells #[.int .i64 (tok L e j').ln, .int .i64 (tok L e j').co] 28)) _ nd' (by omega) (hM.grown GG3) PP3
            rw [hr] at hc4
            go_wp2_with fail
            refine hc4.mono ?_
            rintro ee4 ww4 ⟨bX, nX, rfl, HX, PP4, hnX, gg4⟩
            have hB4_0 := hB3_0.grown gg4
            have kb4_0 := (gg4.block ww2.heap.size (Array.getElem?_eq_some_iff.1 kp3).1 (by simp; omega)).trans kp3
            have GG4 := grownBy_trans GG3 gg4
            have hl4 := PP4.lt
            clear hc4 gg4
            have hc := pexpect_no PP4 he [41] HS2.out
            go_wp2_with fail
            refine hc.mono ?_
            rintro e5 w5 ⟨rfl, g5⟩
            have GG := grownBy_trans GG4 g5
            go_wp2_with fail
            exact ⟨rfl, by rw [HR3.out]; exact ExEnd.bad rfl GG⟩
      · have hq : ((S (sg L j')).toList == [40]) = false := by rw [beq_SL]; simpa using hs
        have HR2 : Aside (r0 = .ok (a', j', l')) := by
          show _ = _
          rw [HR.out, pe, if_neg hs]
          simp [pre]
        have hsi := psign_any hP he
        clear HR hs
        go_wp2_with fail
        refine hsi.mono ?_
        rintro e2 w2 ⟨rfl, n2, rfl⟩
        have g2 := grownBy_drewN hg n2
        have hB2 := hB.stay (w' := wr.drewN n2) ⟨rfl, rfl, rfl, Nat.le_refl _, fun _ _ => rfl⟩
        go_wp2_with fail
        go_ret
        rw [HR2.out]
        exact ExEnd.ok b' nd' rfl hB2 (hP.drewN n2) (by omega) g2
end Go.Proofs.YtohjfikjbeafiaaGreatDoor
namespace Go.Proofs.YtohjfikjbeafiaaGreatDoor
open Go.RowKit Ps
set_option maxRecDepth 100000
set_option linter.unusedSimpArgs false

set_option maxHeartbeats 4000000 in
theorem rank_step {pb : Nat} {L : List PT} {e : PT} {fm am : Value} (he : e.kind = 0) {d : Nat} (hS : SmC pb L e fm am d) : RkC pb L e fm am (d + 1) := by
  intro k hd w lm nd hnd hM h
  have hsm := hS k (by omega) w lm nd hnd hM h
  have hin := (pe_in L e d).2.2.1
  have hlt := h.lt
  have hat := h.at'
  rw [pe]
  cases hr : pe L e d .sm k with
  | error j =>
    rw [hr] at hsm
    rw [bnd_err _ rfl]
    clear h hS
    go_enter Tryz.func179, Tryz.ntmps179
    go_wp2_with fail
    refine hsm.mono ?_
    rintro e1 w1 ⟨rfl, g1⟩
    go_wp2_with fail
    exact ⟨rfl, ExEnd.bad rfl g1⟩
  | ok q =>
    obtain ⟨a, j, l⟩ := q
    rw [hr] at hsm
    have ho := hin.ok hat hr
    rw [bnd_pre _ rfl]
    clear hr
    by_cases hs0 : sg L j = [61, 61]
    · have hj := sg_lt hs0
      have hsk : relK (sg L j) = 14 := by rw [hs0]; rfl
      have q0 : ((S (sg L j)).toList == [61, 61]) = true := by rw [beq_SL, hs0]; decide
      have q1 : ((S (sg L j)).toList == [60]) = false := by rw [beq_SL, hs0]; decide
      rw [hsk, if_pos (by decide)]
      clear hs0 hsk
      cases hr : binR L e 14 a (pe L e d .sm) j with
      | error i =>
        show Calls _ _ _ _ (ExEnd w pb L e lm fm am nd 0 (.error i))
        go_enter Tryz.func179, Tryz.ntmps179
        go_wp2_with fail
        refine hsm.mono ?_
        rintro e1 w1 ⟨b1, nd1, rfl, hb1, P1, hn1, g1⟩
        have hsi := psign_any P1 he
        clear hsm
        go_wp2_with fail
        refine hsi.mono ?_
        rintro e2 w2 ⟨rfl, n2, rfl⟩
        have g2 := grownBy_drewN g1 n2
        have hbi := binary_sum hin (hS (j + 1) (by omega)) hj (by omega) (hM.grown g2) (P1.drewN n2) 14 b1 a (hb1.stay ⟨rfl, rfl, rfl, Nat.le_refl _, fun _ _ => rfl⟩)
        rw [hr] at hbi
        go_wp2_with fail
        refine hbi.mono ?_
        rintro e3 w3 ⟨rfl, g3⟩
        have GG := grownBy_trans g2 g3
        go_wp2_with fail
        exact ⟨rfl, ExEnd.bad rfl GG⟩
      | ok q2 =>
        obtain ⟨t, i, m⟩ := q2
        show Calls _ _ _ _ (ExEnd w pb L e lm fm am nd 0 (.ok (t, i, l ++ m)))
        go_enter Tryz.func179, Tryz.ntmps179
        go_wp2_with fail
        refine hsm.mono ?_
        rintro e1 w1 ⟨b1, nd1, rfl, hb1, P1, hn1, g1⟩
        have hsi := psign_any P1 he
        clear hsm
        go_wp2_with fail
        refine hsi.mono ?_
        rintro e2 w2 ⟨rfl, n2, rfl⟩
        have g2 := grownBy_drewN g1 n2
        have hbi := binary_sum hin (hS (j + 1) (by omega)) hj (by omega) (hM.grown g2) (P1.drewN n2) 14 b1 a (hb1.stay ⟨rfl, rfl, rfl, Nat.le_refl _, fun _ _ => rfl⟩)
        rw [hr] at hbi
        go_wp2_with fail
        refine hbi.mono ?_
        rintro e3 w3 ⟨b3, nd3, rfl, hB3, P3, hn3, g3⟩
        have GG := grownBy_trans g2 g3
        rw [← eff_app] at P3
        clear hbi hsi
        go_wp2_with fail
        go_ret
        exact ExEnd.ok b3 nd3 rfl hB3 P3 (by omega) GG
    by_cases hs1 : sg L j = [60]
    · have hj := sg_lt hs1
      have hsk : relK (sg L j) = 15 := by rw [hs1]; rfl
      have q0 : ((S (sg L j)).toList == [61, 61]) = false := by rw [beq_SL, hs1]; decide
      have q1 : ((S (sg L j)).toList == [60]) = true := by rw [beq_SL, hs1]; decide
      rw [hsk, if_pos (by decide)]
      clear hs1 hsk
      cases hr : binR L e 15 a (pe L e d .sm) j with
      | error i =>
        show Calls _ _ _ _ (ExEnd w pb L e lm fm am nd 0 (.error i))
        go_enter Tryz.func179, Tryz.ntmps179
        go_wp2_with fail
        refine hsm.mono ?_
        rintro e1 w1 ⟨b1, nd1, rfl, hb1, P1, hn1, g1⟩
        have hsi := psign_any P1 he
        clear hsm
        go_wp2_with fail
        refine hsi.mono ?_
        rintro e2 w2 ⟨rfl, n2, rfl⟩
        have g2 := grownBy_drewN g1 n2
        have hbi := binary_sum hin (hS (j + 1) (by omega)) hj (by omega) (hM.grown g2) (P1.drewN n2) 15 b1 a (hb1.stay ⟨rfl, rfl, rfl, Nat.le_refl _, fun _ _ => rfl⟩)
        rw [hr] at hbi
        go_wp2_with fail
        refine hbi.mono ?_
        rintro e3 w3 ⟨rfl, g3⟩
        have GG := grownBy_trans g2 g3
        go_wp2_with fail
        exact ⟨rfl, ExEnd.bad rfl GG⟩
      | ok q2 =>
        obtain ⟨t, i, m⟩ := q2
        show Calls _ _ _ _ (ExEnd w pb L e lm fm am nd 0 (.ok (t, i, l ++ m)))
        go_enter Tryz.func179, Tryz.ntmps179
        go_wp2_with fail
        refine hsm.mono ?_
        rintro e1 w1 ⟨b1, nd1, rfl, hb1, P1, hn1, g1⟩
        have hsi := psign_any P1 he
        clear hsm
        go_wp2_with fail
        refine hsi.mono ?_
        rintro e2 w2 ⟨rfl, n2, rfl⟩
        have g2 := grownBy_drewN g1 n2
        have hbi := binary_sum hin (hS (j + 1) (by omega)) hj (by omega) (hM.grown g2) (P1.drewN n2) 15 b1 a (hb1.stay ⟨rfl, rfl, rfl, Nat.le_refl _, fun _ _ => rfl⟩)
        rw [hr] at hbi
        go_wp2_with fail
        refine hbi.mono ?_
        rintro e3 w3 ⟨b3, nd3, rfl, hB3, P3, hn3, g3⟩
        have GG := grownBy_trans g2 g3
        rw [← eff_app] at P3
        clear hbi hsi
        go_wp2_with fail
        go_ret
        exact ExEnd.ok b3 nd3 rfl hB3 P3 (by omega) GG
    have hsk : ¬ (relK (sg L j) ≠ 0) := by simp [relK, hs0, hs1]
    have q0 : ((S (sg L j)).toList == [61, 61]) = false := by rw [beq_SL]; simpa using hs0
    have q1 : ((S (sg L j)).toList == [60]) = false := by rw [beq_SL]; simpa using hs1
    rw [if_neg hsk]
    clear hs0 hs1 hsk
    show Calls _ _ _ _ (ExEnd w pb L e lm fm am nd 0 (.ok (a, j, l ++ [])))
    go_enter Tryz.func179, Tryz.ntmps179
    go_wp2_with fail
    refine hsm.mono ?_
    rintro e1 w1 ⟨b1, nd1, rfl, hb1, P1, hn1, g1⟩
    have hsi := psign_any P1 he
    clear hsm
    go_wp2_with fail
    refine hsi.mono ?_
    rintro e2 w2 ⟨rfl, n2, rfl⟩
    have g2 := grownBy_drewN g1 n2
    have hb2 := hb1.stay (w' := w1.drewN n2) ⟨rfl, rfl, rfl, Nat.le_refl _, fun _ _ => rfl⟩
    clear hsi
    go_wp2_with fail
    go_ret
    exact ExEnd.ok b1 nd1 rfl hb2 (by rw [List.append_nil]; exact P1.drewN n2) (by omega) g2
end Go.Proofs.YtohjfikjbeafiaaGreatDoor
namespace Go.Proofs.YtohjfikjbeafiaaGreatDoor
open Go.RowKit Ps
set_option maxRecDepth 100000
set_option linter.unusedSimpArgs false

set_option maxHeartbeats 4000000 in
theorem sum_step {pb : Nat} {L : List PT} {e : PT} {fm am : Value} (he : e.kind = 0) {d : Nat} (hF : ∀ d', d' ≤ d → TmC pb L e fm am d') : SmC pb L e fm am (d + 1) := by
  intro k hd w lm nd hnd hM h
  have hfc := hF d (Nat.le_refl _) k (by omega) w lm nd hnd hM h
  have hin := (pe_in L e d).2.2.2.1
  have hlt := h.lt
  have hat := h.at'
  rw [pe]
  cases hr : pe L e d .tm k with
  | error j =>
    rw [hr] at hfc
    rw [bnd_err _ rfl]
    clear h hF
    go_enter Tryz.func198, Tryz.ntmps198
    go_wp2_with fail
    refine hfc.mono ?_
    rintro e1 w1 ⟨rfl, g1⟩
    go_wp2_with fail
    exact ⟨rfl, ExEnd.bad rfl g1⟩
  | ok q =>
    obtain ⟨a, j, l⟩ := q
    rw [hr] at hfc
    have ho := hin.ok hat hr
    rw [bnd_pre _ rfl]
    have HR : Aside (pre l (pe L e d (.sml a) j) = pre l (pe L e d (.sml a) j)) := rfl
    generalize hr0 : pre l (pe L e d (.sml a) j) = r0 at HR ⊢
    clear HR
    have HR0 : Aside (r0 = pre l (pe L e d (.sml a) j)) := hr0.symm
    clear hr0 hr
    go_enter Tryz.func198, Tryz.ntmps198
    go_wp2_with fail
    refine hfc.mono ?_
    rintro e1 w1 ⟨b1, nd1, rfl, hb1, P1, hn1, g1⟩
    clear hfc
    go_wp2_with fail
    go_loopg [3] d (fun g v wr => ∃ (d' b' nd' j' : Nat) (a' : Tr.T) (l' : List Nat), g = d' ∧ d' ≤ d ∧ v = .pointer (some ⟨b', 0, none⟩) ∧ Br wr pb b' a' ∧ Prs wr pb L e j' (eff L e lm l') fm am nd' ∧ nd' = nd + sz a' ∧ w.grownBy wr (some pb) ∧ 10 * (L.length - j') + 1 ≤ d' ∧ nd' + (L.length - j') ≤ 200000 ∧ k < j' ∧ Aside (r0 = pre l' (pe L e d' (.sml a') j')))
    case atStart => exact ⟨d, b1, nd1, j, a, l, rfl, Nat.le_refl _, rfl, hb1, P1, by omega, g1, by omega, by omega, by omega, HR0.out⟩
    case round =>
      clear hb1 P1 hn1 g1 HR0
      obtain ⟨d', b', nd', j', a', l', rfl, hdd, rfl, hB, hP, hn, hg, hfu, hnn, hkj, HR⟩ := hrel
      have hsi := psign_any hP he
      obtain ⟨d2, rfl⟩ : ∃ d2, gk = d2 + 1 := ⟨gk - 1, by omega⟩
      by_cases hs0 : sg L j' = [43]
      · have hj := sg_lt hs0
        have q0 : ((S (sg L j')).toList == [43]) = true := by rw [beq_SL, hs0]; decide
        have q1 : ((S (sg L j')).toList == [45]) = false := by rw [beq_SL, hs0]; decide
        have q2 : ((S (sg L j')).toList == [43, 43]) = false := by rw [beq_SL, hs0]; decide
        have hsk : sumK (sg L j') = 10 := by rw [hs0]; rfl
        have HR2 : Aside (r0 = pre l' (bnd (binR L e 10 a' (pe L e d2 .tm) j') fun b k => pe L e d2 (.sml b) k)) := by
          show _ = _
          rw [HR.out, pe, hsk, if_pos (by decide)]
        clear HR hs0 hsk
        have hin2 := (pe_in L e d2).2.2.2.1
        have hbp := bin_pr (e := e) hin2 10 a' j' hj
        cases hr : binR L e 10 a' (pe L e d2 .tm) j' with
        | error i =>
          have HR3 : Aside (r0 = .error i) := by show _ = _; rw [HR2.out, bnd_err _ hr]; rfl
          clear HR2
          go_wp2_with fail
          refine hsi.mono ?_
          rintro e2 w2 ⟨rfl, n2, rfl⟩
          have g2 := grownBy_drewN hg n2
          have hbi := binary_term hin2 (hF d2 (by omega) (j' + 1) (by omega)) hj hnn (hM.grown g2) (hP.drewN n2) 10 b' a' (hB.stay ⟨rfl, rfl, rfl, Nat.le_refl _, fun _ _ => rfl⟩)
          rw [hr] at hbi
          go_wp2_with fail
          refine hbi.mono ?_
          rintro e3 w3 ⟨rfl, g3⟩
          have GG := grownBy_trans g2 g3
          go_wp2_with fail
          exact ⟨rfl, by rw [HR3.out]; exact ExEnd.bad rfl GG⟩
        | ok q2 =>
          obtain ⟨b2, j2, l2⟩ := q2
          rw [hr] at hbp
          obtain ⟨hb1, hb2, hb3, hb4⟩ := hbp
          have hb1 := hb1 rfl
          have HR3 : Aside (r0 = pre (l' ++ l2) (pe L e d2 (.sml b2) j2)) := by show _ = _; rw [HR2.out, bnd_pre _ hr, pre_pre]
          clear HR2
          go_wp2_with fail
          refine hsi.mono ?_
          rintro e2 w2 ⟨rfl, n2, rfl⟩
          have g2 := grownBy_drewN hg n2
          have hbi := binary_term hin2 (hF d2 (by omega) (j' + 1) (by omega)) hj hnn (hM.grown g2) (hP.drewN n2) 10 b' a' (hB.stay ⟨rfl, rfl, rfl, Nat.le_refl _, fun _ _ => rfl⟩)
          rw [hr] at hbi
          go_wp2_with fail
          refine hbi.mono ?_
          rintro e3 w3 ⟨b3, nd3, rfl, hB3, P3, hn3, g3⟩
          have GG := grownBy_trans g2 g3
          rw [← eff_app] at P3
          clear hbi hsi
          go_wp2_with fail
          go_roundg d2
          case measure => omega
          case rel => exact ⟨d2, b3, nd3, j2, b2, l' ++ l2, rfl, by omega, rfl, hB3, P3, by omega, GG, by omega, by omega, by omega, HR3.out⟩
      by_cases hs1 : sg L j' = [45]
      · have hj := sg_lt hs1
        have q0 : ((S (sg L j')).toList == [43]) = false := by rw [beq_SL, hs1]; decide
        have q1 : ((S (sg L j')).toList == [45]) = true := by rw [beq_SL, hs1]; decide
        have q2 : ((S (sg L j')).toList == [43, 43]) = false := by rw [beq_SL, hs1]; decide
        have hsk : sumK (sg L j') = 11 := by rw [hs1]; rfl
        have HR2 : Aside (r0 = pre l' (bnd (binR L e 11 a' (pe L e d2 .tm) j') fun b k => pe L e d2 (.sml b) k)) := by
          show _ = _
          rw [HR.out, pe, hsk, if_pos (by decide)]
        clear HR hs1 hsk
        have hin2 := (pe_in L e d2).2.2.2.1
        have hbp := bin_pr (e := e) hin2 11 a' j' hj
        cases hr : binR L e 11 a' (pe L e d2 .tm) j' with
        | error i =>
          have HR3 : Aside (r0 = .error i) := by show _ = _; rw [HR2.out, bnd_err _ hr]; rfl
          clear HR2
          go_wp2_with fail
          refine hsi.mono ?_
          rintro e2 w2 ⟨rfl, n2, rfl⟩
          have g2 := grownBy_drewN hg n2
          have hbi := binary_term hin2 (hF d2 (by omega) (j' + 1) (by omega)) hj hnn (hM.grown g2) (hP.drewN n2) 11 b' a' (hB.stay ⟨rfl, rfl, rfl, Nat.le_refl _, fun _ _ => rfl⟩)
          rw [hr] at hbi
          go_wp2_with fail
          refine hbi.mono ?_
          rintro e3 w3 ⟨rfl, g3⟩
          have GG := grownBy_trans g2 g3
          go_wp2_with fail
          exact ⟨rfl, by rw [HR3.out]; exact ExEnd.bad rfl GG⟩
        | ok q2 =>
          obtain ⟨b2, j2, l2⟩ := q2
          rw [hr] at hbp
          obtain ⟨hb1, hb2, hb3, hb4⟩ := hbp
          have hb1 := hb1 rfl
          have HR3 : Aside (r0 = pre (l' ++ l2) (pe L e d2 (.sml b2) j2)) := by show _ = _; rw [HR2.out, bnd_pre _ hr, pre_pre]
          clear HR2
          go_wp2_with fail
          refine hsi.mono ?_
          rintro e2 w2 ⟨rfl, n2, rfl⟩
          have g2 := grownBy_drewN hg n2
          have hbi := binary_term hin2 (hF d2 (by omega) (j' + 1) (by omega)) hj hnn (hM.grown g2) (hP.drewN n2) 11 b' a' (hB.stay ⟨rfl, rfl, rfl, Nat.le_refl _, fun _ _ => rfl⟩)
          rw [hr] at hbi
          go_wp2_with fail
          refine hbi.mono ?_
          rintro e3 w3 ⟨b3, nd3, rfl, hB3, P3, hn3, g3⟩
          have GG := grownBy_trans g2 g3
          rw [← eff_app] at P3
          clear hbi hsi
          go_wp2_with fail
          go_roundg d2
          case measure => omega
          case rel => exact ⟨d2, b3, nd3, j2, b2, l' ++ l2, rfl, by omega, rfl, hB3, P3, by omega, GG, by omega, by omega, by omega, HR3.out⟩
      by_cases hs2 : sg L j' = [43, 43]
      · have hj := sg_lt hs2
        have q0 : ((S (sg L j')).toList == [43]) = false := by rw [beq_SL, hs2]; decide
        have q1 : ((S (sg L j')).toList == [45]) = false := by rw [beq_SL, hs2]; decide
        have q2 : ((S (sg L j')).toList == [43, 43]) = true := by rw [beq_SL, hs2]; decide
        have hsk : sumK (sg L j') = 13 := by rw [hs2]; rfl
        have HR2 : Aside (r0 = pre l' (bnd (binR L e 13 a' (pe L e d2 .tm) j') fun b k => pe L e d2 (.sml b) k)) := by
          show _ = _
          rw [HR.out, pe, hsk, if_pos (by decide)]
        clear HR hs2 hsk
        have hin2 := (pe_in L e d2).2.2.2.1
        have hbp := bin_pr (e := e) hin2 13 a' j' hj
        cases hr : binR L e 13 a' (pe L e d2 .tm) j' with
        | error i =>
          have HR3 : Aside (r0 = .error i) := by show _ = _; rw [HR2.out, bnd_err _ hr]; rfl
          clear HR2
          go_wp2_with fail
          refine hsi.mono ?_
          rintro e2 w2 ⟨rfl, n2, rfl⟩
          have g2 := grownBy_drewN hg n2
          have hbi := binary_term hin2 (hF d2 (by omega) (j' + 1) (by omega)) hj hnn (hM.grown g2) (hP.drewN n2) 13 b' a' (hB.stay ⟨rfl, rfl, rfl, Nat.le_refl _, fun _ _ => rfl⟩)
          rw [hr] at hbi
          go_wp2_with fail
          refine hbi.mono ?_
          rintro e3 w3 ⟨rfl, g3⟩
          have GG := grownBy_trans g2 g3
          go_wp2_with fail
          exact ⟨rfl, by rw [HR3.out]; exact ExEnd.bad rfl GG⟩
        | ok q2 =>
          obtain ⟨b2, j2, l2⟩ := q2
          rw [hr] at hbp
          obtain ⟨hb1, hb2, hb3, hb4⟩ := hbp
          have hb1 := hb1 rfl
          have HR3 : Aside (r0 = pre (l' ++ l2) (pe L e d2 (.sml b2) j2)) := by show _ = _; rw [HR2.out, bnd_pre _ hr, pre_pre]
          clear HR2
          go_wp2_with fail
          refine hsi.mono ?_
          rintro e2 w2 ⟨rfl, n2, rfl⟩
          have g2 := grownBy_drewN hg n2
          have hbi := binary_term hin2 (hF d2 (by omega) (j' + 1) (by omega)) hj hnn (hM.grown g2) (hP.drewN n2) 13 b' a' (hB.stay ⟨rfl, rfl, rfl, Nat.le_refl _, fun _ _ => rfl⟩)
          rw [hr] at hbi
          go_wp2_with fail
          refine hbi.mono ?_
          rintro e3 w3 ⟨b3, nd3, rfl, hB3, P3, hn3, g3⟩
          have GG := grownBy_trans g2 g3
          rw [← eff_app] at P3
          clear hbi hsi
          go_wp2_with fail
          go_roundg d2
          case measure => omega
          case rel => exact ⟨d2, b3, nd3, j2, b2, l' ++ l2, rfl, by omega, rfl, hB3, P3, by omega, GG, by omega, by omega, by omega, HR3.out⟩
      have q0 : ((S (sg L j')).toList == [43]) = false := by rw [beq_SL]; simpa using hs0
      have q1 : ((S (sg L j')).toList == [45]) = false := by rw [beq_SL]; simpa using hs1
      have q2 : ((S (sg L j')).toList == [43, 43]) = false := by rw [beq_SL]; simpa using hs2
      have hsk : ¬ (sumK (sg L j') ≠ 0) := by simp [sumK, hs0, hs1, hs2]
      have HR2 : Aside (r0 = .ok (a', j', l')) := by
        show _ = _
        rw [HR.out, pe, if_neg hsk]
        simp [pre]
      clear HR hs0 hs1 hs2 hsk
      go_wp2_with fail
      refine hsi.mono ?_
      rintro e2 w2 ⟨rfl, n2, rfl⟩
      have g2 := grownBy_drewN hg n2
      have hB2 := hB.stay (w' := wr.drewN n2) ⟨rfl, rfl, rfl, Nat.le_refl _, fun _ _ => rfl⟩
      go_wp2_with fail
      go_ret
      rw [HR2.out]
      exact ExEnd.ok b' nd' rfl hB2 (hP.drewN n2) (by omega) g2

end Go.Proofs.YtohjfikjbeafiaaGreatDoor
namespace Go.Proofs.YtohjfikjbeafiaaGreatDoor
open Go.RowKit Ps
set_option maxRecDepth 100000

theorem rules_all {pb : Nat} {L : List PT} {e : PT} {fm am : Value} (he : e.kind = 0) (hTS : ∀ j, (tok L e j).s.length ≤ 65536) (d : Nat) :
    ∀ d', d' ≤ d → ExC pb L e fm am d' ∧ RkC pb L e fm am d' ∧ SmC pb L e fm am d' ∧ TmC pb L e fm am d' ∧ FcC pb L e fm am d' ∧ ClC pb L e fm am d' ∧ AtC pb L e fm am d' := by
  induction d with
  | zero =>
    intro d' h
    obtain rfl : d' = 0 := by omega
    exact ⟨fun j hj => absurd hj (by omega), fun j hj => absurd hj (by omega), fun j hj => absurd hj (by omega), fun j hj => absurd hj (by omega), fun j hj => absurd hj (by omega), fun j hj => absurd hj (by omega), fun j hj => absurd hj (by omega)⟩
  | succ d ih =>
    intro d' h
    by_cases hd : d' ≤ d
    · exact ih d' hd
    · obtain rfl : d' = d + 1 := by omega
      obtain ⟨hX, hR, hS, hT, hF, hC, hA⟩ := ih d (Nat.le_refl _)
      exact ⟨expr_step he hTS hX hR, rank_step he hS, sum_step he (fun d' h => (ih d' h).2.2.2.1), term_step he (fun d' h => (ih d' h).2.2.2.2.1), factor_step he hF hC, call_step he hA (fun d' h => (ih d' h).1), atom_step he hTS (fun d' h => (ih d' h).1)⟩

/-- The program's expr reads as the plain grammar does. -/
theorem expr_any {w : World} {pb : Nat} {L : List PT} {e : PT} {k : Nat} {lm : Lim} {fm am : Value} {nd : Nat} (he : e.kind = 0) (hTS : ∀ j, (tok L e j).s.length ≤ 65536) (hnd : nd + (L.length - k) ≤ 200000) (hM : Mp w pb fm am) (h : Prs w pb L e k lm fm am nd) :
    Calls Tryz.prog 149 #[.pointer (some ⟨pb, 0, none⟩)] w (ExEnd w pb L e lm fm am nd 0 (pe L e (10 * (L.length - k) + 7) .ex k)) :=
  (rules_all he hTS _ _ (Nat.le_refl _)).1 k (Nat.le_refl _) w lm nd hnd hM h
end Go.Proofs.YtohjfikjbeafiaaGreatDoor
namespace Go.Proofs.YtohjfikjbeafiaaGreatDoor
open Go.RowKit
set_option maxRecDepth 100000

/-- Is a text one of a list? -/
def hasB (ws : List (List UInt8)) (l : List UInt8) : Bool := ws.contains l

theorem beq_bytes (a b : ByteArray) : (a.toList == b.toList) = (a.data.toList == b.data.toList) := by rw [ByteArray.toList_eq, ByteArray.toList_eq]

set_option maxHeartbeats 1000000 in
theorem in_any (w : World) (g cap : Nat) (ws : List (List UInt8)) (hlen : ws.length ≤ 1000) (s : ByteArray) (hc : ∀ j (h : j < ws.length), w.cell? ⟨g, j, none⟩ = some (.string ⟨(ws[j]'h).toArray⟩)) :
    Calls Tryz.prog 157 #[.slice (some ⟨g, 0, none⟩) ws.length cap, .string s] w fun e w' => e = .returned (.bool (hasB ws s.data.toList)) ∧ w' = w := by
  go_enter Tryz.func157, Tryz.ntmps157
  go_wp2_with fail
  go_loopg [5] ws.length (fun n t wr => wr = w ∧ ∃ k : Nat, k + n = ws.length ∧ t = .int .i64 k ∧ Aside (hasB ws s.data.toList = hasB (ws.drop k) s.data.toList))
  case atStart => exact ⟨rfl, 0, by omega, rfl, rfl⟩
  case round =>
    obtain ⟨rfl, k, hkg, rfl, HK⟩ := hrel
    by_cases hk : k < ws.length
    · have hk' : (k : Int) < (ws.length : Int) := by omega
      have hk0 : (0 : Int) ≤ (k : Int) := by omega
      have cx := hc k hk
      have hdr : hasB (ws.drop k) s.data.toList = ((ws[k] == s.data.toList) || hasB (ws.drop (k + 1)) s.data.toList) := by
        unfold hasB
        rw [List.drop_eq_getElem_cons hk, List.contains_cons]
        congr 1
        rw [Bool.eq_iff_iff]; simp; exact ⟨fun h => h.symm, fun h => h.symm⟩
      obtain ⟨x, hx⟩ : ∃ x : ByteArray, x = ⟨(ws[k]).toArray⟩ := ⟨_, rfl⟩
      have hxe : (x.toList == s.toList) = (ws[k] == s.data.toList) := by rw [beq_bytes, hx]
      rw [← hx] at cx
      clear hc hx
      cases hb : ws[k] == s.data.toList
      · rw [hb] at hxe hdr
        have HS : Aside (hasB ws s.data.toList = hasB (ws.drop (k + 1)) s.data.toList) := by rw [HK.out]; show _ = _; rw [hdr]; simp
        clear hb hdr
        go_wp2_with fail
        go_roundg (gk - 1)
        case measure => omega
        case rel => exact ⟨rfl, k + 1, by omega, by go_num, HS⟩
      · rw [hb] at hxe hdr
        have HS : Aside (hasB ws s.data.toList = true) := by rw [HK.out]; show _ = _; rw [hdr]; simp
        clear hb hdr
        go_wp2_with fail
        go_ret
        rw [HS.out]
        exact ⟨rfl, rfl⟩
    · have hk' : ¬ (k : Int) < (ws.length : Int) := by omega
      have HS : Aside (hasB ws s.data.toList = false) := by rw [HK.out]; show _ = _; rw [List.drop_eq_nil_of_le (by omega)]; rfl
      go_wp2_with fail
      go_ret
      rw [HS.out]
      exact ⟨rfl, rfl⟩

/-- Texts as cells. -/
def scells (ws : List (List UInt8)) : List Value := ws.map fun l => Value.string ⟨l.toArray⟩
theorem scells_cell (w : World) (ws : List (List UInt8)) (t : TypeId) (j : Nat) (h : j < ws.length) : (w.alloc (.cells (scells ws).toArray t)).cell? ⟨w.heap.size, j, none⟩ = some (.string ⟨(ws[j]'h).toArray⟩) := by
  rw [World.cell?_alloc_mark]
  unfold scells
  simp [List.getElem?_eq_getElem h]

set_option maxRecDepth 100000 in
set_option maxHeartbeats 400000 in
theorem Words_any (w : World) : Calls Tryz.prog 158 #[] w fun e w' => e = .returned (.slice (some ⟨w.heap.size, 0, none⟩) 23 23) ∧ w' = w.alloc (.cells (scells Tx.words).toArray 9) := by
  go_enter Tryz.func158, Tryz.ntmps158
  go_wp2_with fail
  go_ret
  exact ⟨rfl, rfl⟩

set_option maxHeartbeats 400000 in
theorem refIsWord_any (s : ByteArray) (w : World) :
    Calls Tryz.prog 109 #[.string s] w fun e w' => e = .returned (.bool (Tx.wordB s.data.toList)) ∧ Below w.heap.size w w' := by
  go_enter Tryz.func109, Tryz.ntmps109
  go_wp2_with fail
  refine (Words_any _).mono ?_
  rintro e w1 ⟨rfl, hw1⟩
  have hc := fun j h => scells_cell w Tx.words 9 j h
  rw [← hw1] at hc
  have hB : Below w.heap.size w w1 := by rw [hw1]; exact (Below.refl _ _).alloc (Nat.le_refl _) _
  clear hw1
  go_wp2_with fail
  refine (in_any w1 w.heap.size 23 Tx.words (by decide) s hc).mono ?_
  rintro e w2 ⟨rfl, rfl⟩
  go_wp2_with fail
  go_ret
  exact ⟨rfl, hB⟩

theorem nameB_word {l : List UInt8} (h : Tx.wordB l = true) : nameB l = false := by simp [nameB, h]

end Go.Proofs.YtohjfikjbeafiaaGreatDoor
