/- CoreOne: long; the walk's first half. -/
import Derived.Test.YtnhihajhhlilfaaMgbu
import Derived.Test.YtnhihajhhlilfaaMgbv
namespace Go.Proofs.Ytnhihajhhlilfaa
open Go.RowKit Co
open T3.Tp (Ty enc cns)
open Tr (T Nd flat flats high highs)
set_option maxRecDepth 100000
set_option linter.unusedSimpArgs false
set_option linter.unusedVariables false

set_option maxHeartbeats 1000000 in
theorem long10_any (l : List Tr.Nd) (hlen : l.length ≤ 2199023255552) (hT : Texts l) (v : Value) (w : World) (hl : IsNodes w v l) :
    Calls Try.prog 6 #[v] w fun e w' => ∃ b : Bool, e = .returned (.bool b) ∧ (b = false → l.length ≤ 32768) ∧ Below w.heap.size w w' := by
  have hs := sizeNodes_any l hlen hT v w hl
  obtain ⟨a, c, rfl⟩ := hl.form
  clear hl
  by_cases h : 32768 < l.length
  · have h' : (32768 : Int) < (l.length : Int) := by omega
    go_enter Try.func6, Try.ntmps6
    go_wp2_with fail
    go_ret
    exact ⟨true, rfl, (fun h => by cases h), Below.refl _ _⟩
  · have h' : ¬ (32768 : Int) < (l.length : Int) := by omega
    go_enter Try.func6, Try.ntmps6
    go_wp2_with fail
    refine hs.mono ?_
    rintro e w1 ⟨z, rfl, -, n, rfl⟩
    clear hs
    go_wp2_with (go_at_call 20; refine (long_any _ _).mono ?_; rintro e w2 ⟨rfl, rfl⟩)
    go_ret
    exact ⟨_, rfl, (fun _ => by omega), below_drewN (Below.refl _ _) _⟩
theorem ck_any (l : List Nd) (hl : l.length ≤ 100000) (hf : FitC l) (v : Value) (w : World) (hv : IsNodes w v l) :
    Calls Try.prog 9 #[v] w fun e w' => e = .returned (.tuple #[.string (ckS (Co.check l)), .int .i64 (ckE (Co.check l)), .int .i64 (ckA (Co.check l))]) ∧ Below w.heap.size w w' := by
  have := ccheck_any l hl hf v w hv
  rw [ckV_eq] at this
  exact this
theorem ckS_len (l : List Nd) : (ckS (Co.check l)).size ≤ 64 := by
  cases h : Co.check l with
  | ok s =>
    obtain ⟨t, -, -, -, h4, -⟩ := check_term h
    have := tyT_len t [] 0 s (fun t ht => by simp at ht) h4
    show (S (enc s)).size ≤ 64
    rw [S_size]; exact this
  | error q => show (0 : Nat) ≤ 64; omega
theorem alloc_size10 (w : World) (o : Obj) : w.heap.size + 1 = (w.alloc o).heap.size := by simp
theorem nd1 {x : Nd} {l L : List Nd} (hL : L = setK x 1 :: l) (hl : l.length ≤ 5000) (h0 : l ≠ []) : ∀ (W W2 : World) (n : Nat) (v : Value), IsNodes W v l → W2 = W.alloc (.cells #[v] 22) → n = W.heap.size → Calls Try.prog 17 #[ndV x, .slice (some ⟨n, 0, none⟩) 1 1] W2 (NdEnd W L) := fun W W2 n v h hW hn => by
  rw [hL]; exact node1 rfl hl h0 h hW hn
theorem nd2 {x : Nd} {l1 l2 L : List Nd} (hL : L = setK x 2 :: (l1 ++ l2)) (hl : l1.length + l2.length ≤ 5000) (h01 : l1 ≠ []) (h02 : l2 ≠ []) : ∀ (W W2 : World) (n : Nat) (v1 v2 : Value), IsNodes W v1 l1 → IsNodes W v2 l2 → W2 = W.alloc (.cells #[v1, v2] 22) → n = W.heap.size → Calls Try.prog 17 #[ndV x, .slice (some ⟨n, 0, none⟩) 2 2] W2 (NdEnd W L) := fun W W2 n v1 v2 h1 h2 hW hn => by
  rw [hL]; exact node2 rfl hl h01 h02 h1 h2 hW hn
theorem nd3 {x : Nd} {l1 l2 l3 L : List Nd} (hL : L = setK x 3 :: (l1 ++ (l2 ++ l3))) (hl : l1.length + (l2.length + l3.length) ≤ 5000) (h01 : l1 ≠ []) (h02 : l2 ≠ []) (h03 : l3 ≠ []) : ∀ (W W2 : World) (n : Nat) (v1 v2 v3 : Value), IsNodes W v1 l1 → IsNodes W v2 l2 → IsNodes W v3 l3 → W2 = W.alloc (.cells #[v1, v2, v3] 22) → n = W.heap.size → Calls Try.prog 17 #[ndV x, .slice (some ⟨n, 0, none⟩) 3 3] W2 (NdEnd W L) := fun W W2 n v1 v2 v3 h1 h2 h3 hW hn => by
  rw [hL]; exact node3 rfl hl h01 h02 h03 h1 h2 h3 hW hn
theorem isC {L : List Nd} {τ : Ty} {h : Nat} (c : Cl L τ h) (hh : h ≤ 1024) (hl : L.length ≤ 16384) : ∀ (v : Value) (s : ByteArray) (W : World), s = S (enc τ) → IsNodes W v L → Calls Try.prog 18 #[v, .string s] W fun e w' => e = .returned (.bool true) ∧ Below W.heap.size W w' := fun v s W hs hv => is_any L (by omega) c.fit τ (c.check hh hl) v s hs W hv
theorem reC {L : List Nd} (hf : FitC L) (hl : L.length ≤ 16384) (hc : Co.check L = .error (23, 0)) : ∀ (v : Value) (W : World), IsNodes W v L → Calls Try.prog 19 #[v, .int .i64 23] W fun e w' => e = .returned (.bool true) ∧ Below W.heap.size W w' := fun v W hv => refused_any L (by omega) hf 23 hc v W hv
theorem S_cat (a b : List UInt8) : S a ++ S b = S (a ++ b) := by
  apply ByteArray.ext
  simp [S]
theorem S_one (c : UInt8) : (⟨#[c]⟩ : ByteArray) = S [c] := rfl
theorem enc_p (s t : Ty) : (⟨#[44]⟩ : ByteArray) ++ S (enc s) ++ S (enc t) = S (enc (.tp s t)) := by rw [S_one, S_cat, S_cat]; simp [enc]
theorem enc_f (s t : Ty) : (⟨#[62]⟩ : ByteArray) ++ S (enc s) ++ S (enc t) = S (enc (.tf s t)) := by rw [S_one, S_cat, S_cat]; simp [enc]
theorem enc_l (s : Ty) : (⟨#[108]⟩ : ByteArray) ++ S (enc s) = S (enc (.tl s)) := by rw [S_one, S_cat]; simp [enc]
theorem enc_x (s : Ty) : (⟨#[120]⟩ : ByteArray) ++ S (enc s) = S (enc (.tx s)) := by rw [S_one, S_cat]; simp [enc]
set_option maxHeartbeats 8000000 in
theorem coreOne_any (la lb : List Nd) (hla : la.length ≤ 2199023255552) (hlb : lb.length ≤ 2199023255552) (hfa : FitC la) (hfb : FitC lb) (hTa : Texts la) (hTb : Texts lb) (va vb : Value) (w : World) (hva : IsNodes w va la) (hvb : IsNodes w vb lb) :
    Calls Try.prog 5 #[va, vb] w fun e w' => e = .returned (.bool true) ∧ Below w.heap.size w w' := by
  have hwk := works_any
  have hLa := long10_any la hla hTa va w hva
  have HLb : Aside (∀ w', Below w.heap.size w w' → _) := fun w' hB => long10_any lb hlb hTb vb w' (hvb.below hB)
  have HVa : Aside (∀ w', Below w.heap.size w w' → IsNodes w' va la) := fun w' hB => hva.below hB
  have HVb : Aside (∀ w', Below w.heap.size w w' → IsNodes w' vb lb) := fun w' hB => hvb.below hB
  obtain ⟨aa, ac, rfl⟩ := hva.form
  obtain ⟨ba, bc, rfl⟩ := hvb.form
  clear hva hvb
  obtain ⟨sa, hsa⟩ : ∃ x, x = ckS (Co.check la) := ⟨_, rfl⟩
  obtain ⟨sb, hsb⟩ : ∃ x, x = ckS (Co.check lb) := ⟨_, rfl⟩
  obtain ⟨ea, hea⟩ : ∃ x, x = ckE (Co.check la) := ⟨_, rfl⟩
  obtain ⟨eb, heb⟩ : ∃ x, x = ckE (Co.check lb) := ⟨_, rfl⟩
  obtain ⟨za, hza⟩ : ∃ x, x = ckA (Co.check la) := ⟨_, rfl⟩
  obtain ⟨zb, hzb⟩ : ∃ x, x = ckA (Co.check lb) := ⟨_, rfl⟩
  have HA : Aside (sa = ckS (Co.check la) ∧ ea = ckE (Co.check la)) := ⟨hsa, hea⟩
  have HB : Aside (sb = ckS (Co.check lb) ∧ eb = ckE (Co.check lb)) := ⟨hsb, heb⟩
  have hsal : sa.size ≤ 64 := by rw [hsa]; exact ckS_len la
  have hsbl : sb.size ≤ 64 := by rw [hsb]; exact ckS_len lb
  have HCa : Aside (la.length ≤ 500 → ∀ (v : Value) (W : World), IsNodes W v la → Calls Try.prog 9 #[v] W fun e w' => e = .returned (.tuple #[.string sa, .int .i64 ea, .int .i64 za]) ∧ Below W.heap.size W w') := fun hl v W hv => by
    rw [hsa, hea, hza]; exact ck_any la (by omega) hfa v W hv
  have HCb : Aside (lb.length ≤ 500 → ∀ (v : Value) (W : World), IsNodes W v lb → Calls Try.prog 9 #[v] W fun e w' => e = .returned (.tuple #[.string sb, .int .i64 eb, .int .i64 zb]) ∧ Below W.heap.size W w') := fun hl v W hv => by
    rw [hsb, heb, hzb]; exact ck_any lb (by omega) hfb v W hv
  clear hsa hsb hea heb hza hzb
  by_cases h5 : 500 < la.length + lb.length
  · have h5' : (500 : Int) < (la.length : Int) + (lb.length : Int) := by omega
    clear hLa HLb HVa HVb
    go_enter Try.func5, Try.ntmps5
    go_wp2_with fail
    refine (hwk _).mono ?_
    rintro e w1 ⟨rfl, hB1⟩
    clear hwk
    go_wp2_with fail
    go_ret
    exact ⟨rfl, hB1⟩
  · have h5' : ¬ (500 : Int) < (la.length : Int) + (lb.length : Int) := by omega
    go_enter Try.func5, Try.ntmps5
    go_wp2_with fail
    refine hLa.mono ?_
    rintro e w1 ⟨b1, rfl, hb1, hB1⟩
    clear hLa
    cases b1 with
    | true =>
      clear HLb HVa HVb hb1
      go_wp2_with fail
      refine (hwk _).mono ?_
      rintro e w2 ⟨rfl, hB2⟩
      have hBb := hB1.trans (hB2.mono hB1.size)
      clear hwk hB1 hB2
      go_wp2_with fail
      go_ret
      exact ⟨rfl, hBb⟩
    | false =>
      have hLb := HLb.out w1 hB1
      clear HLb
      go_wp2_with fail
      refine hLb.mono ?_
      rintro e w2 ⟨b2, rfl, hb2, hB2⟩
      have hBb := hB1.trans (hB2.mono hB1.size)
      clear hLb hB1 hB2
      cases b2 with
      | true =>
        clear HVa HVb hb1 hb2
        go_wp2_with fail
        refine (hwk _).mono ?_
        rintro e w3 ⟨rfl, hB3⟩
        have hBc := hBb.trans (hB3.mono hBb.size)
        clear hwk hBb hB3
        go_wp2_with fail
        go_ret
        exact ⟨rfl, hBc⟩
      | false =>
        have hl1 : la.length ≤ 500 := by omega
        have hl2 : lb.length ≤ 500 := by omega
        clear hb1 hb2
        go_wp2_with fail
        refine (copy_any la (by omega) _ w2 (HVa.out w2 hBb)).mono ?_
        rintro e w3 ⟨v3, rfl, hv3, hB3⟩
        have hBc := hBb.trans (hB3.mono hBb.size)
        obtain ⟨a3, c3, rfl⟩ := hv3.form
        clear hBb hB3
        go_wp2_with fail
        refine (HCa.out hl1 _ w3 hv3).mono ?_
        rintro e w4 ⟨rfl, hB4⟩
        have hBd := hBc.trans (hB4.mono hBc.size)
        clear hBc hB4 hv3
        go_wp2_with fail
        refine (copy_any lb (by omega) _ w4 (HVb.out w4 hBd)).mono ?_
        rintro e w5 ⟨v5, rfl, hv5, hB5⟩
        have hBe := hBd.trans (hB5.mono hBd.size)
        obtain ⟨a5, c5, rfl⟩ := hv5.form
        clear hBd hB5
        go_wp2_with fail
        refine (HCb.out hl2 _ w5 hv5).mono ?_
        rintro e w6 ⟨rfl, hB6⟩
        have hBf := hBe.trans (hB6.mono hBe.size)
        clear hBe hB6 hv5
        by_cases hea : ea = 0
        · have hea' : (ea != 0) = false := by simp [hea]
          clear hea
          by_cases heb : eb = 0
          · have heb' : (eb != 0) = false := by simp [heb]
            have HZ : Aside (ea = 0 ∧ eb = 0) := ⟨by simpa using hea', heb⟩
            clear heb
            by_cases h40 : 40 < sa.size + sb.size
            · have h40' : (40 : Int) < (sa.size : Int) + (sb.size : Int) := by omega
              clear HVa HVb HCa HCb HA HB HZ
              go_wp2_with fail
              refine (hwk _).mono ?_
              rintro e wz ⟨rfl, hBz⟩
              have hBy := hBf.trans (hBz.mono hBf.size)
              clear hwk hBf hBz
              go_wp2_with fail
              go_ret
              exact ⟨rfl, hBy⟩
            · have h40' : ¬ (40 : Int) < (sa.size : Int) + (sb.size : Int) := by omega
              go_wp2_with fail
              refine (ldeep_any la (by omega) hfa _ w6 (HVa.out w6 hBf)).mono ?_
              rintro e w7 ⟨rfl, hB7⟩
              have hBg := hBf.trans (hB7.mono hBf.size)
              clear hBf hB7
              by_cases hd1 : 50 < Co.run la [] 0
              · have hd1' : (50 : Int) < (Co.run la [] 0 : Int) := by omega
                clear HVa HVb HCa HCb HA HB HZ
                go_wp2_with fail
                refine (hwk _).mono ?_
                rintro e wz ⟨rfl, hBz⟩
                have hBy := hBg.trans (hBz.mono hBg.size)
                clear hwk hBg hBz
                go_wp2_with fail
                go_ret
                exact ⟨rfl, hBy⟩
              · have hd1' : ¬ (50 : Int) < (Co.run la [] 0 : Int) := by omega
                go_wp2_with fail
                refine (ldeep_any lb (by omega) hfb _ w7 (HVb.out w7 hBg)).mono ?_
                rintro e w8 ⟨rfl, hB8⟩
                have hBh := hBg.trans (hB8.mono hBg.size)
                clear hBg hB8
                by_cases hd2 : 50 < Co.run lb [] 0
                · have hd2' : (50 : Int) < (Co.run lb [] 0 : Int) := by omega
                  clear HVa HVb HCa HCb HA HB HZ
                  go_wp2_with fail
                  refine (hwk _).mono ?_
                  rintro e wz ⟨rfl, hBz⟩
                  have hBy := hBh.trans (hBz.mono hBh.size)
                  clear hwk hBh hBz
                  go_wp2_with fail
                  go_ret
                  exact ⟨rfl, hBy⟩
                · have hd2' : ¬ (50 : Int) < (Co.run lb [] 0 : Int) := by omega
                  obtain ⟨s, t, hs, ht, cla, clb⟩ : ∃ s t, sa = S (enc s) ∧ sb = S (enc t) ∧ Cl la s 50 ∧ Cl lb t 50 := by
                    have key : ∀ (l : List Nd) (x : ByteArray) (e : Int), FitC l → x = ckS (Co.check l) → e = ckE (Co.check l) → e = 0 → ¬ 50 < Co.run l [] 0 → ∃ s, x = S (enc s) ∧ Cl l s 50 := by
                      intro l x e hf h1 h2 h3 h4
                      cases hc : Co.check l with
                      | error q =>
                        rw [hc] at h2
                        exact absurd (h2.symm.trans h3) (Co.check_pos hc)
                      | ok s =>
                        rw [hc] at h1
                        obtain ⟨u, h5, h6, h7, h8, -⟩ := check_term hc
                        refine ⟨s, h1, ⟨⟨u, h5, h6, ?_, h8⟩, hf⟩⟩
                        rw [h5, run_term h6] at h4
                        omega
                    obtain ⟨s, h1, h2⟩ := key la sa ea hfa HA.out.1 HA.out.2 HZ.out.1 hd1
                    obtain ⟨t, h3, h4⟩ := key lb sb eb hfb HB.out.1 HB.out.2 HZ.out.2 hd2
                    exact ⟨s, t, h1, h3, h2, h4⟩
                  have hzs : sa.size = sz s := by rw [hs, S_size]
                  have hzt : sb.size = sz t := by rw [ht, S_size]
                  have z1 : sz s ≤ 64 := by omega
                  have z2 : sz t ≤ 64 := by omega
                  have z3 : sz (.tp s t) ≤ 64 := by simp [sz, enc] at *; omega
                  have z4 : sz (.tf s t) ≤ 64 := by simp [sz, enc] at *; omega
                  have z5 : sz (.tl s) ≤ 64 := by simp [sz, enc] at *; omega
                  have z6 : sz (.tx s) ≤ 64 := by simp [sz, enc] at *; omega
                  have na := cla.ne
                  have nb := clb.ne
                  have hcp := enc_p s t
                  have hcf := enc_f s t
                  have hcl := enc_l s
                  have hcx := enc_x s
                  rw [← hs, ← ht] at hcp hcf
                  rw [← hs] at hcl hcx
                  obtain ⟨Lp, eLp⟩ : ∃ x, x = setK (N0 18 0 ⟨#[]⟩ ⟨#[]⟩) 2 :: (la ++ lb) := ⟨_, rfl⟩
                  have cLp : Cl Lp (.tp s t) 51 := by rw [eLp]; exact Cl.pair cla clb z3
                  have lLp : Lp.length ≤ 1001 := by rw [eLp]; simp; try omega
                  have nLp := nd2 eLp (by omega) na nb
                  have mLp := cLp.ne
                  obtain ⟨Lf, eLf⟩ : ∃ x, x = setK (N0 5 0 (S (enc s)) (S (enc t))) 1 :: lb := ⟨_, rfl⟩
                  have cLf : Cl Lf (.tf s t) 51 := by rw [eLf]; exact Cl.fn clb z1 z2 z4
                  have lLf : Lf.length ≤ 1001 := by rw [eLf]; simp; try omega
                  have nLf := nd1 eLf (by omega) nb
                  have mLf := cLf.ne
                  obtain ⟨Lo, eLo⟩ : ∃ x, x = setK (N0 6 0 (S (enc s)) (S (enc t))) 1 :: (setK (N0 7 0 ⟨#[]⟩ ⟨#[]⟩) 2 :: ([vr 1] ++ [vr 0])) := ⟨_, rfl⟩
                  have cLo : Cl Lo (.tf s t) 51 := by rw [eLo]; exact (Cl.own z1 z2 z4).up (by omega)
                  have lLo : Lo.length ≤ 1001 := by rw [eLo]; simp; try omega
                  have nLo := nd1 eLo (by simp) (by simp)
                  have mLo := cLo.ne
                  obtain ⟨Ll, eLl⟩ : ∃ x, x = setK (N0 21 0 (S (enc s)) ⟨#[]⟩) 2 :: (la ++ la) := ⟨_, rfl⟩
                  have cLl : Cl Ll (.tl s) 51 := by rw [eLl]; exact Cl.list cla cla z5 z1
                  have lLl : Ll.length ≤ 1001 := by rw [eLl]; simp; try omega
                  have nLl := nd2 eLl (by omega) na na
                  have mLl := cLl.ne
                  obtain ⟨Lx, eLx⟩ : ∃ x, x = setK (N0 26 0 ⟨#[]⟩ ⟨#[]⟩) 1 :: la := ⟨_, rfl⟩
                  have cLx : Cl Lx (.tx s) 51 := by rw [eLx]; exact Cl.box (C := .tq) cla z6
                  have lLx : Lx.length ≤ 1001 := by rw [eLx]; simp; try omega
                  have nLx := nd1 eLx (by omega) na
                  have mLx := cLx.ne
                  obtain ⟨Q1, eQ1⟩ : ∃ x, x = setK (N0 19 0 ⟨#[]⟩ ⟨#[]⟩) 1 :: Lp := ⟨_, rfl⟩
                  have cQ1 : Cl Q1 s 52 := by rw [eQ1]; exact Cl.first (A := s) (C := t) cLp
                  have lQ1 : Q1.length ≤ 2500 := by rw [eQ1]; simp; try omega
                  have nQ1 := nd1 eQ1 (by omega) mLp
                  obtain ⟨Q2, eQ2⟩ : ∃ x, x = setK (N0 20 0 ⟨#[]⟩ ⟨#[]⟩) 1 :: Lp := ⟨_, rfl⟩
                  have cQ2 : Cl Q2 t 52 := by rw [eQ2]; exact Cl.second (A := t) (C := s) cLp
                  have lQ2 : Q2.length ≤ 2500 := by rw [eQ2]; simp; try omega
                  have nQ2 := nd1 eQ2 (by omega) mLp
                  obtain ⟨Q3, eQ3⟩ : ∃ x, x = setK (N0 7 0 ⟨#[]⟩ ⟨#[]⟩) 2 :: (Lf ++ la) := ⟨_, rfl⟩
                  have cQ3 : Cl Q3 t 52 := by rw [eQ3]; exact Cl.call cLf (cla.up (by omega))
                  have lQ3 : Q3.length ≤ 2500 := by rw [eQ3]; simp; try omega
                  have nQ3 := nd2 eQ3 (by omega) mLf na
                  obtain ⟨Q4, eQ4⟩ : ∃ x, x = setK (N0 8 0 ⟨#[]⟩ ⟨#[]⟩) 2 :: (la ++ lb) := ⟨_, rfl⟩
                  have cQ4 : Cl Q4 t 52 := by rw [eQ4]; exact (Cl.leT cla clb).up (by omega)
                  have lQ4 : Q4.length ≤ 2500 := by rw [eQ4]; simp; try omega
                  have nQ4 := nd2 eQ4 (by omega) na nb
                  obtain ⟨Q5, eQ5⟩ : ∃ x, x = setK (N0 8 0 ⟨#[]⟩ ⟨#[]⟩) 2 :: (la ++ [vr 0]) := ⟨_, rfl⟩
                  have cQ5 : Cl Q5 s 52 := by rw [eQ5]; exact (Cl.leV cla (by omega)).up (by omega)
                  have lQ5 : Q5.length ≤ 2500 := by rw [eQ5]; simp; try omega
                  have nQ5 := nd2 eQ5 (by simp; omega) na (by simp)
                  obtain ⟨Q6, eQ6⟩ : ∃ x, x = setK (N0 22 0 ⟨#[]⟩ ⟨#[]⟩) 1 :: Ll := ⟨_, rfl⟩
                  have cQ6 : Cl Q6 s 52 := by rw [eQ6]; exact Cl.head (C := .tq) cLl
                  have lQ6 : Q6.length ≤ 2500 := by rw [eQ6]; simp; try omega
                  have nQ6 := nd1 eQ6 (by omega) mLl
                  obtain ⟨Q7, eQ7⟩ : ∃ x, x = setK (N0 23 0 ⟨#[]⟩ ⟨#[]⟩) 1 :: Ll := ⟨_, rfl⟩
                  have cQ7 : Cl Q7 (.tl s) 52 := by rw [eQ7]; exact Cl.tail (C := .tq) cLl
                  have lQ7 : Q7.length ≤ 2500 := by rw [eQ7]; simp; try omega
                  have nQ7 := nd1 eQ7 (by omega) mLl
                  obtain ⟨Q8, eQ8⟩ : ∃ x, x = setK (N0 24 0 ⟨#[]⟩ ⟨#[]⟩) 1 :: Ll := ⟨_, rfl⟩
                  have cQ8 : Cl Q8 .tb 52 := by rw [eQ8]; exact Cl.empty (A := s) (C := .tq) cLl
                  have lQ8 : Q8.length ≤ 2500 := by rw [eQ8]; simp; try omega
                  have nQ8 := nd1 eQ8 (by omega) mLl
                  obtain ⟨Q9, eQ9⟩ : ∃ x, x = setK (N0 27 0 ⟨#[]⟩ ⟨#[]⟩) 1 :: Lx := ⟨_, rfl⟩
                  have cQ9 : Cl Q9 s 52 := by rw [eQ9]; exact Cl.get (C := .tq) cLx
                  have lQ9 : Q9.length ≤ 2500 := by rw [eQ9]; simp; try omega
                  have nQ9 := nd1 eQ9 (by omega) mLx
                  have nCi := nd2 (x := N0 7 0 ⟨#[]⟩ ⟨#[]⟩) (l1 := [vr 1]) (l2 := [vr 0]) rfl (by simp) (by simp) (by simp)
                  rw [← hs, ← ht] at nLf nLo
                  rw [← hs] at nLl
                  have HR1 : Aside (s ≠ t → ∃ x, (∀ (W W2 : World) (n : Nat) (v1 v2 : Value), IsNodes W v1 la → IsNodes W v2 lb → W2 = W.alloc (.cells #[v1, v2] 22) → n = W.heap.size → Calls Try.prog 17 #[ndV (N0 21 0 sa ⟨#[]⟩), .slice (some ⟨n, 0, none⟩) 2 2] W2 (NdEnd W x)) ∧ ∀ (v : Value) (W : World), IsNodes W v x → Calls Try.prog 19 #[v, .int .i64 23] W fun e w' => e = .returned (.bool true) ∧ Below W.heap.size W w') := fun hne => by
                    refine ⟨setK (N0 21 0 (S (enc s)) ⟨#[]⟩) 2 :: (la ++ lb), ?_, reC (fitN (cla.fit.app clb.fit) rfl (by simp) (by omega)) (by simp; omega) (list_err cla clb z1 (Ne.symm hne) (by simp; omega) (by omega))⟩
                    have := nd2 (x := N0 21 0 (S (enc s)) ⟨#[]⟩) (L := setK (N0 21 0 (S (enc s)) ⟨#[]⟩) 2 :: (la ++ lb)) rfl (by omega) na nb
                    rw [← hs] at this
                    rw [← hs]
                    exact this
                  have HR2 : Aside (s ≠ t → ∃ x, (∀ (W W2 : World) (n : Nat) (v1 v2 : Value), IsNodes W v1 lb → IsNodes W v2 Ll → W2 = W.alloc (.cells #[v1, v2] 22) → n = W.heap.size → Calls Try.prog 17 #[ndV (N0 25 0 ⟨#[]⟩ ⟨#[]⟩), .slice (some ⟨n, 0, none⟩) 2 2] W2 (NdEnd W x)) ∧ ∀ (v : Value) (W : World), IsNodes W v x → Calls Try.prog 19 #[v, .int .i64 23] W fun e w' => e = .returned (.bool true) ∧ Below W.heap.size W w') := fun hne => by
                    refine ⟨setK (N0 25 0 ⟨#[]⟩ ⟨#[]⟩) 2 :: (lb ++ Ll), ?_, reC (fitN (clb.fit.app cLl.fit) rfl (by simp) (by omega)) (by simp; omega) (cons_err (D := .tq) (clb.up (by omega)) cLl (Ne.symm hne) (by simp; omega) (by omega))⟩
                    have := nd2 (x := N0 25 0 ⟨#[]⟩ ⟨#[]⟩) (L := setK (N0 25 0 ⟨#[]⟩ ⟨#[]⟩) 2 :: (lb ++ Ll)) rfl (by omega) nb mLl
                    skip
                    skip
                    exact this
                  have HR3 : Aside (s ≠ t → ∃ x, (∀ (W W2 : World) (n : Nat) (v1 v2 : Value), IsNodes W v1 Lx → IsNodes W v2 lb → W2 = W.alloc (.cells #[v1, v2] 22) → n = W.heap.size → Calls Try.prog 17 #[ndV (N0 28 0 ⟨#[]⟩ ⟨#[]⟩), .slice (some ⟨n, 0, none⟩) 2 2] W2 (NdEnd W x)) ∧ ∀ (v : Value) (W : World), IsNodes W v x → Calls Try.prog 19 #[v, .int .i64 23] W fun e w' => e = .returned (.bool true) ∧ Below W.heap.size W w') := fun hne => by
                    refine ⟨setK (N0 28 0 ⟨#[]⟩ ⟨#[]⟩) 2 :: (Lx ++ lb), ?_, reC (fitN (cLx.fit.app clb.fit) rfl (by simp) (by omega)) (by simp; omega) (set_err (D := .tq) cLx (clb.up (by omega)) (Ne.symm hne) (by simp; omega) (by omega))⟩
                    have := nd2 (x := N0 28 0 ⟨#[]⟩ ⟨#[]⟩) (L := setK (N0 28 0 ⟨#[]⟩ ⟨#[]⟩) 2 :: (Lx ++ lb)) rfl (by omega) mLx nb
                    skip
                    skip
                    exact this
                  have HR4 : Aside (s ≠ t → ∃ x, (∀ (W W2 : World) (n : Nat) (v1 v2 : Value), IsNodes W v1 Lf → IsNodes W v2 lb → W2 = W.alloc (.cells #[v1, v2] 22) → n = W.heap.size → Calls Try.prog 17 #[ndV (N0 7 0 ⟨#[]⟩ ⟨#[]⟩), .slice (some ⟨n, 0, none⟩) 2 2] W2 (NdEnd W x)) ∧ ∀ (v : Value) (W : World), IsNodes W v x → Calls Try.prog 19 #[v, .int .i64 23] W fun e w' => e = .returned (.bool true) ∧ Below W.heap.size W w') := fun hne => by
                    refine ⟨setK (N0 7 0 ⟨#[]⟩ ⟨#[]⟩) 2 :: (Lf ++ lb), ?_, reC (fitN (cLf.fit.app clb.fit) rfl (by simp) (by omega)) (by simp; omega) (call_err cLf (clb.up (by omega)) (Ne.symm hne) (by simp; omega) (by omega))⟩
                    have := nd2 (x := N0 7 0 ⟨#[]⟩ ⟨#[]⟩) (L := setK (N0 7 0 ⟨#[]⟩ ⟨#[]⟩) 2 :: (Lf ++ lb)) rfl (by omega) mLf nb
                    skip
                    skip
                    exact this
                  have HE1 : Aside (s = t → ∃ x, (∀ (W W2 : World) (n : Nat) (v1 v2 : Value), IsNodes W v1 lb → IsNodes W v2 Ll → W2 = W.alloc (.cells #[v1, v2] 22) → n = W.heap.size → Calls Try.prog 17 #[ndV (N0 25 0 ⟨#[]⟩ ⟨#[]⟩), .slice (some ⟨n, 0, none⟩) 2 2] W2 (NdEnd W x)) ∧ ∀ (v : Value) (z : ByteArray) (W : World), z = S (enc (.tl s)) → IsNodes W v x → Calls Try.prog 18 #[v, .string z] W fun e w' => e = .returned (.bool true) ∧ Below W.heap.size W w') := fun heq => by
                    refine ⟨setK (N0 25 0 ⟨#[]⟩ ⟨#[]⟩) 2 :: (lb ++ Ll), nd2 rfl (by omega) nb mLl, isC (h := 52) (Cl.cons (C := .tq) (by rw [heq]; exact clb.up (by omega)) cLl) (by omega) (by simp; omega)⟩
                  have HE2 : Aside (s = t → ∃ x, (∀ (W W2 : World) (n : Nat) (v1 v2 : Value), IsNodes W v1 Lx → IsNodes W v2 lb → W2 = W.alloc (.cells #[v1, v2] 22) → n = W.heap.size → Calls Try.prog 17 #[ndV (N0 28 0 ⟨#[]⟩ ⟨#[]⟩), .slice (some ⟨n, 0, none⟩) 2 2] W2 (NdEnd W x)) ∧ ∀ (v : Value) (z : ByteArray) (W : World), z = S (enc s) → IsNodes W v x → Calls Try.prog 18 #[v, .string z] W fun e w' => e = .returned (.bool true) ∧ Below W.heap.size W w') := fun heq => by
                    refine ⟨setK (N0 28 0 ⟨#[]⟩ ⟨#[]⟩) 2 :: (Lx ++ lb), nd2 rfl (by omega) mLx nb, isC (h := 52) (Cl.set (C := .tq) cLx (by rw [heq]; exact clb.up (by omega))) (by omega) (by simp; omega)⟩
                  have HE3 : Aside (s = t → ∃ x, (∀ (W W2 : World) (n : Nat) (v1 v2 v3 : Value), IsNodes W v1 [⟨3, 0, 1, ⟨#[]⟩, ⟨#[]⟩, ⟨#[]⟩, 0, 0⟩] → IsNodes W v2 la → IsNodes W v3 lb → W2 = W.alloc (.cells #[v1, v2, v3] 22) → n = W.heap.size → Calls Try.prog 17 #[ndV (N0 9 0 ⟨#[]⟩ ⟨#[]⟩), .slice (some ⟨n, 0, none⟩) 3 3] W2 (NdEnd W x)) ∧ ∀ (v : Value) (z : ByteArray) (W : World), z = S (enc s) → IsNodes W v x → Calls Try.prog 18 #[v, .string z] W fun e w' => e = .returned (.bool true) ∧ Below W.heap.size W w') := fun heq => by
                    refine ⟨setK (N0 9 0 ⟨#[]⟩ ⟨#[]⟩) 3 :: ([⟨3, 0, 1, ⟨#[]⟩, ⟨#[]⟩, ⟨#[]⟩, 0, 0⟩] ++ (la ++ lb)), nd3 rfl (by simp; omega) (by simp) na nb, isC (h := 52) ((Cl.choice (Cl.truth.up (by omega)) cla (by rw [heq]; exact clb)).up (by omega)) (by omega) (by simp; omega)⟩
                  have HEQ : Aside ((sa.toList == sb.toList) = decide (s = t)) := by show _ = _; rw [hs, ht]; exact Sx_eq s t
                  have HST : Aside (sa = S (enc s) ∧ sb = S (enc t)) := ⟨hs, ht⟩
                  have HCP : Aside _ := hcp
                  have HCF : Aside _ := hcf
                  have HCL : Aside _ := hcl
                  have HCX : Aside _ := hcx
                  clear hcp hcf hcl hcx
                  have iLp := isC cLp (by omega) (by omega)
                  have iLf := isC cLf (by omega) (by omega)
                  have iLo := isC cLo (by omega) (by omega)
                  have iLl := isC cLl (by omega) (by omega)
                  have iLx := isC cLx (by omega) (by omega)
                  have iQ1 := isC cQ1 (by omega) (by omega)
                  have iQ2 := isC cQ2 (by omega) (by omega)
                  have iQ3 := isC cQ3 (by omega) (by omega)
                  have iQ4 := isC cQ4 (by omega) (by omega)
                  have iQ5 := isC cQ5 (by omega) (by omega)
                  have iQ6 := isC cQ6 (by omega) (by omega)
                  have iQ7 := isC cQ7 (by omega) (by omega)
                  have iQ8 := isC cQ8 (by omega) (by omega)
                  have iQ9 := isC cQ9 (by omega) (by omega)
                  clear cla clb hs ht hzs hzt z1 z2 z3 z4 z5 z6 HA HB HZ HCa HCb hd1 hd2 hfa hfb hTa hTb
                  clear eLp eLf eLo eLl eLx eQ1 eQ2 eQ3 eQ4 eQ5 eQ6 eQ7 eQ8 eQ9
                  go_wp2_with fail
                  refine (nLp w8 _ _ _ _ (HVa.out _ hBh) (HVb.out _ hBh) rfl rfl).mono ?_
                  rintro e w9 ⟨vp, rfl, hvp, hBn⟩
                  obtain ⟨vpa, vpc, rfl⟩ := hvp.form
                  have hBq9 := hBh.trans (hBn.mono hBh.size)
                  clear hBh hBn
                  go_wp2_with fail
                  refine (nLf w9 _ _ _ (HVb.out _ hBq9) rfl rfl).mono ?_
                  rintro e w10 ⟨vf, rfl, hvf, hBn⟩
                  obtain ⟨vfa, vfc, rfl⟩ := hvf.form
                  have hBq10 := hBq9.trans (hBn.mono hBq9.size)
                  have vp_10 := hvp.below hBn
                  clear hBq9 hBn hvp
                  go_wp2_with fail
                  refine (nCi _ _ _ _ _ (by first | exact lit1 rfl (by simp) | exact (lit1 rfl (by simp)).below (T3.below_alloc _ _)) (by first | exact lit1 rfl (by simp) | exact (lit1 rfl (by simp)).below (T3.below_alloc _ _)) rfl (by simp)).mono ?_
                  rintro e w11 ⟨vi, rfl, hvi, hBn0⟩
                  have hBn : Below w10.heap.size w10 w11 := ((T3.below_alloc w10 _).trans ((T3.below_alloc _ _).mono (by simp))).trans (hBn0.mono (by simp <;> omega))
                  clear hBn0
                  obtain ⟨via, vic, rfl⟩ := hvi.form
                  have hBq11 := hBq10.trans (hBn.mono hBq10.size)
                  have vp_11 := vp_10.below hBn
                  have vf_11 := hvf.below hBn
                  clear hBq10 hBn vp_10 hvf
                  go_wp2_with fail
                  refine (nLo w11 _ _ _ hvi rfl rfl).mono ?_
                  rintro e w12 ⟨vo, rfl, hvo, hBn⟩
                  obtain ⟨voa, voc, rfl⟩ := hvo.form
                  have hBq12 := hBq11.trans (hBn.mono hBq11.size)
                  have vp_12 := vp_11.below hBn
                  have vf_12 := vf_11.below hBn
                  have vi_12 := hvi.below hBn
                  clear hBq11 hBn vp_11 vf_11 hvi
                  clear vi_12
                  go_wp2_with fail
                  refine (iLp _ _ w12 (HCP.out) vp_12).mono ?_
                  rintro e w13 ⟨rfl, hBn⟩
                  have hBq13 := hBq12.trans (hBn.mono hBq12.size)
                  have vp_13 := vp_12.below hBn
                  have vf_13 := vf_12.below hBn
                  have vo_13 := hvo.below hBn
                  clear hBq12 hBn vp_12 vf_12 hvo
                  go_wp2_with fail
                  refine (nQ1 w13 _ _ _ vp_13 rfl rfl).mono ?_
                  rintro e w14 ⟨q1, rfl, hq1, hBn⟩
                  have hBq14 := hBq13.trans (hBn.mono hBq13.size)
                  have vp_14 := vp_13.below hBn
                  have vf_14 := vf_13.below hBn
                  have vo_14 := vo_13.below hBn
                  clear hBq13 hBn vp_13 vf_13 vo_13
                  go_wp2_with fail
                  refine (iQ1 _ _ w14 (HST.out.1) hq1).mono ?_
                  rintro e w15 ⟨rfl, hBn⟩
                  clear hq1
                  have hBq15 := hBq14.trans (hBn.mono hBq14.size)
                  have vp_15 := vp_14.below hBn
                  have vf_15 := vf_14.below hBn
                  have vo_15 := vo_14.below hBn
                  clear hBq14 hBn vp_14 vf_14 vo_14
                  go_wp2_with fail
                  refine (nQ2 w15 _ _ _ vp_15 rfl rfl).mono ?_
                  rintro e w16 ⟨q2, rfl, hq2, hBn⟩
                  have hBq16 := hBq15.trans (hBn.mono hBq15.size)
                  have vp_16 := vp_15.below hBn
                  have vf_16 := vf_15.below hBn
                  have vo_16 := vo_15.below hBn
                  clear hBq15 hBn vp_15 vf_15 vo_15
                  go_wp2_with fail
                  refine (iQ2 _ _ w16 (HST.out.2) hq2).mono ?_
                  rintro e w17 ⟨rfl, hBn⟩
                  clear hq2
                  have hBq17 := hBq16.trans (hBn.mono hBq16.size)
                  have vp_17 := vp_16.below hBn
                  have vf_17 := vf_16.below hBn
                  have vo_17 := vo_16.below hBn
                  clear hBq16 hBn vp_16 vf_16 vo_16
                  go_wp2_with fail
                  refine (iLf _ _ w17 (HCF.out) vf_17).mono ?_
                  rintro e w18 ⟨rfl, hBn⟩
                  have hBq18 := hBq17.trans (hBn.mono hBq17.size)
                  have vp_18 := vp_17.below hBn
                  have vf_18 := vf_17.below hBn
                  have vo_18 := vo_17.below hBn
                  clear hBq17 hBn vp_17 vf_17 vo_17
                  go_wp2_with fail
                  refine (iLo _ _ w18 (HCF.out) vo_18).mono ?_
                  rintro e w19 ⟨rfl, hBn⟩
                  have hBq19 := hBq18.trans (hBn.mono hBq18.size)
                  have vp_19 := vp_18.below hBn
                  have vf_19 := vf_18.below hBn
                  have vo_19 := vo_18.below hBn
                  clear hBq18 hBn vp_18 vf_18 vo_18
                  clear vp_19 vo_19 nLp nLf nCi nLo iLp nQ1 iQ1 nQ2 iQ2 iLf iLo
                  go_wp2_with fail
                  refine (nQ3 w19 _ _ _ _ vf_19 (HVa.out _ hBq19) rfl rfl).mono ?_
                  rintro e w20 ⟨q3, rfl, hq3, hBn⟩
                  have hBq20 := hBq19.trans (hBn.mono hBq19.size)
                  have vf_20 := vf_19.below hBn
                  clear hBq19 hBn vf_19
                  go_wp2_with fail
                  refine (iQ3 _ _ w20 (HST.out.2) hq3).mono ?_
                  rintro e w21 ⟨rfl, hBn⟩
                  clear hq3
                  have hBq21 := hBq20.trans (hBn.mono hBq20.size)
                  have vf_21 := vf_20.below hBn
                  clear hBq20 hBn vf_20
                  go_wp2_with fail
                  refine (nQ4 w21 _ _ _ _ (HVa.out _ hBq21) (HVb.out _ hBq21) rfl rfl).mono ?_
                  rintro e w22 ⟨q4, rfl, hq4, hBn⟩
                  have hBq22 := hBq21.trans (hBn.mono hBq21.size)
                  have vf_22 := vf_21.below hBn
                  clear hBq21 hBn vf_21
                  go_wp2_with fail
                  refine (iQ4 _ _ w22 (HST.out.2) hq4).mono ?_
                  rintro e w23 ⟨rfl, hBn⟩
                  clear hq4
                  have hBq23 := hBq22.trans (hBn.mono hBq22.size)
                  have vf_23 := vf_22.below hBn
                  clear hBq22 hBn vf_22
                  go_wp2_with fail
                  refine (nQ5 _ _ _ _ _ (by first | exact (HVa.out _ hBq23) | exact ((HVa.out _ hBq23)).below (T3.below_alloc _ _)) (by first | exact lit1 rfl (by simp) | exact (lit1 rfl (by simp)).below (T3.below_alloc _ _)) rfl (by simp)).mono ?_
                  rintro e w24 ⟨q5, rfl, hq5, hBn0⟩
                  have hBn : Below w23.heap.size w23 w24 := (T3.below_alloc w23 _).trans (hBn0.mono (by simp))
                  clear hBn0
                  have hBq24 := hBq23.trans (hBn.mono hBq23.size)
                  have vf_24 := vf_23.below hBn
                  clear hBq23 hBn vf_23
                  go_wp2_with fail
                  refine (iQ5 _ _ w24 (HST.out.1) hq5).mono ?_
                  rintro e w25 ⟨rfl, hBn⟩
                  clear hq5
                  have hBq25 := hBq24.trans (hBn.mono hBq24.size)
                  have vf_25 := vf_24.below hBn
                  clear hBq24 hBn vf_24
                  clear nQ3 iQ3 nQ4 iQ4 nQ5 iQ5
                  go_wp2_with fail
                  refine (nLl w25 _ _ _ _ (HVa.out _ hBq25) (HVa.out _ hBq25) rfl rfl).mono ?_
                  rintro e w26 ⟨vl, rfl, hvl, hBn⟩
                  obtain ⟨vla, vlc, rfl⟩ := hvl.form
                  have hBq26 := hBq25.trans (hBn.mono hBq25.size)
                  have vf_26 := vf_25.below hBn
                  clear hBq25 hBn vf_25
                  go_wp2_with fail
                  refine (iLl _ _ w26 (HCL.out) hvl).mono ?_
                  rintro e w27 ⟨rfl, hBn⟩
                  have hBq27 := hBq26.trans (hBn.mono hBq26.size)
                  have vf_27 := vf_26.below hBn
                  have vl_27 := hvl.below hBn
                  clear hBq26 hBn vf_26 hvl
                  go_wp2_with fail
                  refine (nQ6 w27 _ _ _ vl_27 rfl rfl).mono ?_
                  rintro e w28 ⟨q6, rfl, hq6, hBn⟩
                  have hBq28 := hBq27.trans (hBn.mono hBq27.size)
                  have vf_28 := vf_27.below hBn
                  have vl_28 := vl_27.below hBn
                  clear hBq27 hBn vf_27 vl_27
                  go_wp2_with fail
                  refine (iQ6 _ _ w28 (HST.out.1) hq6).mono ?_
                  rintro e w29 ⟨rfl, hBn⟩
                  clear hq6
                  have hBq29 := hBq28.trans (hBn.mono hBq28.size)
                  have vf_29 := vf_28.below hBn
                  have vl_29 := vl_28.below hBn
                  clear hBq28 hBn vf_28 vl_28
                  go_wp2_with fail
                  refine (nQ7 w29 _ _ _ vl_29 rfl rfl).mono ?_
                  rintro e w30 ⟨q7, rfl, hq7, hBn⟩
                  have hBq30 := hBq29.trans (hBn.mono hBq29.size)
                  have vf_30 := vf_29.below hBn
                  have vl_30 := vl_29.below hBn
                  clear hBq29 hBn vf_29 vl_29
                  go_wp2_with fail
                  refine (iQ7 _ _ w30 (HCL.out) hq7).mono ?_
                  rintro e w31 ⟨rfl, hBn⟩
                  clear hq7
                  have hBq31 := hBq30.trans (hBn.mono hBq30.size)
                  have vf_31 := vf_30.below hBn
                  have vl_31 := vl_30.below hBn
                  clear hBq30 hBn vf_30 vl_30
                  go_wp2_with fail
                  refine (nQ8 w31 _ _ _ vl_31 rfl rfl).mono ?_
                  rintro e w32 ⟨q8, rfl, hq8, hBn⟩
                  have hBq32 := hBq31.trans (hBn.mono hBq31.size)
                  have vf_32 := vf_31.below hBn
                  have vl_32 := vl_31.below hBn
                  clear hBq31 hBn vf_31 vl_31
                  go_wp2_with fail
                  refine (iQ8 _ _ w32 (rfl) hq8).mono ?_
                  rintro e w33 ⟨rfl, hBn⟩
                  clear hq8
                  have hBq33 := hBq32.trans (hBn.mono hBq32.size)
                  have vf_33 := vf_32.below hBn
                  have vl_33 := vl_32.below hBn
                  clear hBq32 hBn vf_32 vl_32
                  clear nLl iLl nQ6 iQ6 nQ7 iQ7 nQ8 iQ8
                  go_wp2_with fail
                  refine (nLx w33 _ _ _ (HVa.out _ hBq33) rfl rfl).mono ?_
                  rintro e w34 ⟨vx, rfl, hvx, hBn⟩
                  obtain ⟨vxa, vxc, rfl⟩ := hvx.form
                  have hBq34 := hBq33.trans (hBn.mono hBq33.size)
                  have vf_34 := vf_33.below hBn
                  have vl_34 := vl_33.below hBn
                  clear hBq33 hBn vf_33 vl_33
                  go_wp2_with fail
                  refine (iLx _ _ w34 (HCX.out) hvx).mono ?_
                  rintro e w35 ⟨rfl, hBn⟩
                  have hBq35 := hBq34.trans (hBn.mono hBq34.size)
                  have vf_35 := vf_34.below hBn
                  have vl_35 := vl_34.below hBn
                  have vx_35 := hvx.below hBn
                  clear hBq34 hBn vf_34 vl_34 hvx
                  go_wp2_with fail
                  refine (nQ9 w35 _ _ _ vx_35 rfl rfl).mono ?_
                  rintro e w36 ⟨q9, rfl, hq9, hBn⟩
                  have hBq36 := hBq35.trans (hBn.mono hBq35.size)
                  have vf_36 := vf_35.below hBn
                  have vl_36 := vl_35.below hBn
                  have vx_36 := vx_35.below hBn
                  clear hBq35 hBn vf_35 vl_35 vx_35
                  go_wp2_with fail
                  refine (iQ9 _ _ w36 (HST.out.1) hq9).mono ?_
                  rintro e w37 ⟨rfl, hBn⟩
                  clear hq9
                  have hBq37 := hBq36.trans (hBn.mono hBq36.size)
                  have vf_37 := vf_36.below hBn
                  have vl_37 := vl_36.below hBn
                  have vx_37 := vx_36.below hBn
                  clear hBq36 hBn vf_36 vl_36 vx_36
                  clear nLx iLx nQ9 iQ9
                  by_cases hst : s = t
                  · have hq : (sa.toList == sb.toList) = true := by
                      have := HEQ.out
                      simpa only [hst, decide_true] using this
                    obtain ⟨X1, nE1, iE1⟩ := HE1.out hst
                    obtain ⟨X2, nE2, iE2⟩ := HE2.out hst
                    obtain ⟨X3, nE3, iE3⟩ := HE3.out hst
                    clear hst HE1 HE2 HE3 HR1 HR2 HR3 HR4 HEQ
                    go_wp2_with fail
                    have htr := lit1 (W := w37) (k := 3) (d := 0) (z := 1) (s := ⟨#[]⟩) (t := ⟨#[]⟩) (u := ⟨#[]⟩) rfl rfl
                    have hBn : Below w37.heap.size w37 (w37.alloc (.cells #[.int .i8 3, .int .i64 0, .int .i64 1, .string ⟨#[]⟩, .string ⟨#[]⟩, .string ⟨#[]⟩, .int .i64 0, .int .i64 0] 44)) := T3.below_alloc _ _
                    have hBq99 := hBq37.trans (hBn.mono hBq37.size)
                    have vf_99 := vf_37.below hBn
                    have vl_99 := vl_37.below hBn
                    have vx_99 := vx_37.below hBn
                    clear hBq37 hBn vf_37 vl_37 vx_37
                    refine (nE1 (w37.alloc (.cells #[.int .i8 3, .int .i64 0, .int .i64 1, .string ⟨#[]⟩, .string ⟨#[]⟩, .string ⟨#[]⟩, .int .i64 0, .int .i64 0] 44)) _ _ _ _ (HVb.out _ hBq99) vl_99 rfl (alloc_size10 _ _)).mono ?_
                    rintro e w38 ⟨u1, rfl, hu1, hBn⟩
                    have hBq38 := hBq99.trans (hBn.mono hBq99.size)
                    have vf_38 := vf_99.below hBn
                    have vl_38 := vl_99.below hBn
                    have vx_38 := vx_99.below hBn
                    have tr_38 := htr.below hBn
                    clear hBq99 hBn vf_99 vl_99 vx_99 htr
                    go_wp2_with fail
                    refine (iE1 _ _ w38 (HCL.out) hu1).mono ?_
                    rintro e w39 ⟨rfl, hBn⟩
                    clear hu1
                    have hBq39 := hBq38.trans (hBn.mono hBq38.size)
                    have vf_39 := vf_38.below hBn
                    have vl_39 := vl_38.below hBn
                    have vx_39 := vx_38.below hBn
                    have tr_39 := tr_38.below hBn
                    clear hBq38 hBn vf_38 vl_38 vx_38 tr_38
                    go_wp2_with fail
                    refine (nE2 w39 _ _ _ _ vx_39 (HVb.out _ hBq39) rfl rfl).mono ?_
                    rintro e w40 ⟨u2, rfl, hu2, hBn⟩
                    have hBq40 := hBq39.trans (hBn.mono hBq39.size)
                    have vf_40 := vf_39.below hBn
                    have vl_40 := vl_39.below hBn
                    have vx_40 := vx_39.below hBn
                    have tr_40 := tr_39.below hBn
                    clear hBq39 hBn vf_39 vl_39 vx_39 tr_39
                    go_wp2_with fail
                    refine (iE2 _ _ w40 (HST.out.1) hu2).mono ?_
                    rintro e w41 ⟨rfl, hBn⟩
                    clear hu2
                    have hBq41 := hBq40.trans (hBn.mono hBq40.size)
                    have vf_41 := vf_40.below hBn
                    have vl_41 := vl_40.below hBn
                    have vx_41 := vx_40.below hBn
                    have tr_41 := tr_40.below hBn
                    clear hBq40 hBn vf_40 vl_40 vx_40 tr_40
                    go_wp2_with fail
                    refine (nE3 w41 _ _ _ _ _ tr_41 (HVa.out _ hBq41) (HVb.out _ hBq41) rfl rfl).mono ?_
                    rintro e w42 ⟨u3, rfl, hu3, hBn⟩
                    have hBq42 := hBq41.trans (hBn.mono hBq41.size)
                    have vf_42 := vf_41.below hBn
                    have vl_42 := vl_41.below hBn
                    have vx_42 := vx_41.below hBn
                    have tr_42 := tr_41.below hBn
                    clear hBq41 hBn vf_41 vl_41 vx_41 tr_41
                    go_wp2_with fail
                    refine (iE3 _ _ w42 (HST.out.1) hu3).mono ?_
                    rintro e w43 ⟨rfl, hBn⟩
                    clear hu3
                    have hBq43 := hBq42.trans (hBn.mono hBq42.size)
                    have vf_43 := vf_42.below hBn
                    have vl_43 := vl_42.below hBn
                    have vx_43 := vx_42.below hBn
                    have tr_43 := tr_42.below hBn
                    clear hBq42 hBn vf_42 vl_42 vx_42 tr_42
                    go_wp2_with fail
                    refine (hwk _).mono ?_
                    rintro e w44 ⟨rfl, hBn⟩
                    have hBq44 := hBq43.trans (hBn.mono hBq43.size)
                    have vf_44 := vf_43.below hBn
                    have vl_44 := vl_43.below hBn
                    have vx_44 := vx_43.below hBn
                    have tr_44 := tr_43.below hBn
                    clear hBq43 hBn vf_43 vl_43 vx_43 tr_43
                    clear hwk
                    go_wp2_with fail
                    go_ret
                    exact ⟨rfl, hBq44⟩
                  · have hq : (sa.toList == sb.toList) = false := by
                      have := HEQ.out
                      simpa only [hst, decide_false] using this
                    obtain ⟨X1, nR1, iR1⟩ := HR1.out hst
                    obtain ⟨X2, nR2, iR2⟩ := HR2.out hst
                    obtain ⟨X3, nR3, iR3⟩ := HR3.out hst
                    obtain ⟨X4, nR4, iR4⟩ := HR4.out hst
                    clear hst HE1 HE2 HE3 HR1 HR2 HR3 HR4 HEQ
                    go_wp2_with fail
                    refine (nR1 w37 _ _ _ _ (HVa.out _ hBq37) (HVb.out _ hBq37) rfl rfl).mono ?_
                    rintro e w38 ⟨rR1, rfl, hrR1, hBn⟩
                    have hBq38 := hBq37.trans (hBn.mono hBq37.size)
                    have vf_38 := vf_37.below hBn
                    have vl_38 := vl_37.below hBn
                    have vx_38 := vx_37.below hBn
                    clear hBq37 hBn vf_37 vl_37 vx_37
                    go_wp2_with fail
                    refine (iR1 _ w38 hrR1).mono ?_
                    rintro e w39 ⟨rfl, hBn⟩
                    clear hrR1
                    have hBq39 := hBq38.trans (hBn.mono hBq38.size)
                    have vf_39 := vf_38.below hBn
                    have vl_39 := vl_38.below hBn
                    have vx_39 := vx_38.below hBn
                    clear hBq38 hBn vf_38 vl_38 vx_38
                    go_wp2_with fail
                    refine (nR2 w39 _ _ _ _ (HVb.out _ hBq39) vl_39 rfl rfl).mono ?_
                    rintro e w40 ⟨rR2, rfl, hrR2, hBn⟩
                    have hBq40 := hBq39.trans (hBn.mono hBq39.size)
                    have vf_40 := vf_39.below hBn
                    have vl_40 := vl_39.below hBn
                    have vx_40 := vx_39.below hBn
                    clear hBq39 hBn vf_39 vl_39 vx_39
                    go_wp2_with fail
                    refine (iR2 _ w40 hrR2).mono ?_
                    rintro e w41 ⟨rfl, hBn⟩
                    clear hrR2
                    have hBq41 := hBq40.trans (hBn.mono hBq40.size)
                    have vf_41 := vf_40.below hBn
                    have vl_41 := vl_40.below hBn
                    have vx_41 := vx_40.below hBn
                    clear hBq40 hBn vf_40 vl_40 vx_40
                    go_wp2_with fail
                    refine (nR3 w41 _ _ _ _ vx_41 (HVb.out _ hBq41) rfl rfl).mono ?_
                    rintro e w42 ⟨rR3, rfl, hrR3, hBn⟩
                    have hBq42 := hBq41.trans (hBn.mono hBq41.size)
                    have vf_42 := vf_41.below hBn
                    have vl_42 := vl_41.below hBn
                    have vx_42 := vx_41.below hBn
                    clear hBq41 hBn vf_41 vl_41 vx_41
                    go_wp2_with fail
                    refine (iR3 _ w42 hrR3).mono ?_
                    rintro e w43 ⟨rfl, hBn⟩
                    clear hrR3
                    have hBq43 := hBq42.trans (hBn.mono hBq42.size)
                    have vf_43 := vf_42.below hBn
                    have vl_43 := vl_42.below hBn
                    have vx_43 := vx_42.below hBn
                    clear hBq42 hBn vf_42 vl_42 vx_42
                    go_wp2_with fail
                    refine (nR4 w43 _ _ _ _ vf_43 (HVb.out _ hBq43) rfl rfl).mono ?_
                    rintro e w44 ⟨rR4, rfl, hrR4, hBn⟩
                    have hBq44 := hBq43.trans (hBn.mono hBq43.size)
                    have vf_44 := vf_43.below hBn
                    have vl_44 := vl_43.below hBn
                    have vx_44 := vx_43.below hBn
                    clear hBq43 hBn vf_43 vl_43 vx_43
                    go_wp2_with fail
                    refine (iR4 _ w44 hrR4).mono ?_
                    rintro e w45 ⟨rfl, hBn⟩
                    clear hrR4
                    have hBq45 := hBq44.trans (hBn.mono hBq44.size)
                    have vf_45 := vf_44.below hBn
                    have vl_45 := vl_44.below hBn
                    have vx_45 := vx_44.below hBn
                    clear hBq44 hBn vf_44 vl_44 vx_44
                    go_wp2_with fail
                    refine (hwk _).mono ?_
                    rintro e w46 ⟨rfl, hBn⟩
                    have hBq46 := hBq45.trans (hBn.mono hBq45.size)
                    have vf_46 := vf_45.below hBn
                    have vl_46 := vl_45.below hBn
                    have vx_46 := vx_45.below hBn
                    clear hBq45 hBn vf_45 vl_45 vx_45
                    clear hwk
                    go_wp2_with fail
                    go_ret
                    exact ⟨rfl, hBq46⟩
          · have heb' : (eb != 0) = true := by simp [heb]
            clear HVa HVb HCa HCb HA HB heb
            go_wp2_with fail
            refine (hwk _).mono ?_
            rintro e wz ⟨rfl, hBz⟩
            have hBy := hBf.trans (hBz.mono hBf.size)
            clear hwk hBf hBz
            go_wp2_with fail
            go_ret
            exact ⟨rfl, hBy⟩
        · have hea' : (ea != 0) = true := by simp [hea]
          clear HVa HVb HCa HCb HA HB hea
          go_wp2_with fail
          refine (hwk _).mono ?_
          rintro e wz ⟨rfl, hBz⟩
          have hBy := hBf.trans (hBz.mono hBf.size)
          clear hwk hBf hBz
          go_wp2_with fail
          go_ret
          exact ⟨rfl, hBy⟩
end Go.Proofs.Ytnhihajhhlilfaa
