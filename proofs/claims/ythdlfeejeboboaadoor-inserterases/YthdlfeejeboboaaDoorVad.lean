/- InsertErases returns true. -/
import Derived.Test.YthdlfeejeboboaaDoorVaa
import Derived.BigQuiet
namespace Go.Proofs.YthdlfeejeboboaaDoor
open Go.RowKit Ck
open T3.Tp (Ty enc cns met sta)
open Tr (T Nd nm flat flats wf)
set_option maxRecDepth 100000
set_option linter.unusedSimpArgs false
set_option linter.unusedVariables false

theorem inNote_any (s : ByteArray) (w : World) : Calls Tryd.prog 8 #[.string s] w fun e w' => e = .returned (.string (In.wrS s)) ∧ w' = w := by
  by_cases h : s = ⟨#[]⟩
  · subst h
    go_enter Tryd.func8, Tryd.ntmps8
    go_wp2_with fail
    go_ret
    exact ⟨rfl, rfl⟩
  · have hs : s.size ≠ 0 := fun e => h (by obtain ⟨⟨l⟩⟩ := s; simp [ByteArray.size] at e; simp [e])
    have hb : (s.toList == []) = false := by have := (Lib.bytes_beq_false_iff s ⟨#[]⟩).2 h; simpa using this
    have HW : Aside (In.wrS s = s) := by show _ = _; unfold In.wrS; rw [if_neg hs]
    go_enter Tryd.func8, Tryd.ntmps8
    go_wp2_with fail
    go_ret
    rw [HW.out]
    exact ⟨rfl, rfl⟩
theorem filt_take {p : Nd → Bool} {l : List Nd} {k : Nat} {y : Nd} (h : l[k]? = some y) : (l.take (k + 1)).filter p = (l.take k).filter p ++ (if p y then [y] else []) := by
  rw [List.take_add_one, h]
  simp [List.filter_append, List.filter_cons]
theorem filt_len {p : Nd → Bool} {l : List Nd} {k : Nat} : ((l.take k).filter p).length ≤ k := by
  have h1 := List.length_filter_le p (l.take k)
  have h2 := List.length_take_le k l
  omega
/-- A node's cells in a list, as one piece. -/
theorem own_more {w : World} {base : Nat} {v : Value} {A : List Nd} {y : Nd} (h : w.ownsRow base 36 8 v (A.length + 1) (nrow A ++ Tr.ncells y)) : w.ownsRow base 36 8 v (A ++ [y]).length (nrow (A ++ [y])) := by
  rw [nrow_append, List.length_append]
  simpa [nrow] using h

set_option maxHeartbeats 16000000 in
theorem insertErases_any (l : List Nd) (hf : Fits l) (hft : ∀ x ∈ l, x.t.size ≤ maxLen ∧ x.u.size ≤ maxLen) (N Th : List (List UInt8)) (hs : ∀ p ∈ N, p.length ≤ maxLen) (hsT : ∀ p ∈ Th, p.length ≤ maxLen) (vL vN vT : Value) (w : World) (hl : IsNodes w vL l) (hn : T3.IsTexts w vN N) (ht : T3.IsTexts w vT Th) (hG : HasG w) (hg : 5 ≤ w.heap.size) :
    Calls Tryd.prog 3 #[.agg #[vL, vN, vT]] w fun e w' => e = .returned (.bool true) ∧ Below w.heap.size w w' := by
  obtain ⟨aL, cL, rfl⟩ := hl.form
  obtain ⟨aN, cN, rfl⟩ := txs_form hn
  obtain ⟨aT, cT, rfl⟩ := txs_form ht
  have hbx := CBox.new w (.slice aL l.length cL) (.slice aN N.length cN) (.slice aT Th.length cT) 25
  have hBw : Below w.heap.size w (w.alloc (.cells #[.slice aL l.length cL, .slice aN N.length cN, .slice aT Th.length cT] 25)) := (Below.refl _ _).alloc (Nat.le_refl _) _
  have hlg := caseLong_any l N Th aL aN aT cL cN cT
  go_enter Tryd.func3, Tryd.ntmps3
  go_upto_region 1 with fail
  have hl := hl.below hBw
  have hn := txs_below hn hBw
  have ht := txs_below ht hBw
  have hG := hG.below hBw
  have hg := Nat.le_trans hg hBw.size
  have HBw : Aside (Below w.heap.size w _) := hBw
  clear hBw
  obtain ⟨cb, hcb⟩ : ∃ cb, cb = w.heap.size := ⟨_, rfl⟩
  generalize w.alloc _ = W0 at *
  rw [← hcb] at hbx ⊢
  clear hcb
  go_wp2_with fail
  go_at_call 5
  refine (works11_any _ hG hg).mono ?_
  rintro e w1 ⟨rfl, hB1⟩
  obtain ⟨hlt1, p0, p1, p2⟩ := hbx.below hB1
  go_wp2_with fail
  go_at_call 6
  refine (hlg _).mono ?_
  rintro e w2 ⟨rfl, hB2⟩
  have hB := bt hB1 hB2
  clear hB1 hB2 p0 p1 p2 hlt1 hlg
  cases hlb : caseLB l N Th with
  | true =>
    go_wp2_with fail
    go_ret
    exact ⟨rfl, bt HBw.out hB⟩
  | false =>
  obtain ⟨n1, n2, n3⟩ := caseLong_no hlb
  clear hlb
  have hl := hl.below hB
  have hn := txs_below hn hB
  have ht := txs_below ht hB
  have hG := hG.below hB
  have hg := Nat.le_trans hg hB.size
  have hbx := hbx.below hB
  have HB : Aside (Below w.heap.size w w2) := bt HBw.out hB
  clear hB HBw
  have HCX : Aside (∀ w3, Below w2.heap.size w2 w3 → Calls Tryd.prog 7 #[.string ⟨#[109]⟩, .slice aL l.length cL, .slice aN N.length cN, .slice aT Th.length cT] w3 (IxEnd w3 ⟨#[109]⟩ l N Th)) := fun w3 h => iexpr_any ⟨#[109]⟩ (by decide) l hf (by omega) N Th (by omega) hs _ _ _ w3 (hl.below h) (txs_below hn h) (txs_below ht h) (hG.below h) (Nat.le_trans hg h.size)
  obtain ⟨hlt2, d0, d1, d2⟩ := hbx
  have hbx2 : CBox w2 cb (.slice aL l.length cL) (.slice aN N.length cN) (.slice aT Th.length cT) := ⟨hlt2, d0, d1, d2⟩
  have hcx := HCX.out w2 (Below.refl _ _)
  obtain ⟨i0, hi0, hz0, hz1, hz2⟩ := info_parts infoN
  clear HCX
  go_wp2_with fail
  refine hcx.mono ?_
  rintro e w4 ⟨hB4, hor⟩
  have HB4 : Aside (Below w.heap.size w w4) := bt HB.out hB4
  have hl4 := hl.below hB4
  have hbx4 := hbx2.below hB4
  clear hcx hl hn ht hG hg hbx2 d0 d1 d2 hlt2
  rcases hor with ⟨er, at', h0, rfl, _⟩ | ⟨ts, t, a, va, vs, τ, hI, hτ, rfl, h2, h3⟩
  · have her : (er != 0) = true := by simpa using h0
    go_wp2_with fail
    go_ret
    exact ⟨rfl, HB4.out⟩
  · obtain ⟨M, hM⟩ : ∃ M, M = In.term (In.inT N a [] t 0 []).1 := ⟨_, rfl⟩
    rw [← hM] at h2
    obtain ⟨-, -, -, hmay, -, -⟩ := chk_tree hI.chk
    have HER : Aside (In.All2 In.Er (In.noCast M) (In.noAs l)) := by
      show In.All2 _ _ _
      rw [hM, hI.fl]
      refine In.inT_er N a t [] 0 [] (fun x hx => ?_)
      obtain ⟨κ, hN0⟩ := nod_of (hmay x (by rw [hI.fl]; exact hx))
      have := hN0.kind
      have := hN0.hi
      omega
    have hMl : M.length ≤ 100000 := by
      obtain ⟨_, _, z3⟩ := In.size_T N a t [] 0 []
      have z5 := In.sites_T N a t [] 0 []
      have hfl : (flat t).length ≤ 400 := by rw [← hI.fl]; exact n1
      rw [← hM] at z3
      simp at z3 z5
      omega
    obtain ⟨ra, rc, rfl⟩ := own_len h2
    obtain ⟨sa, sc, rfl⟩ := own_len h3
    have hIM : IsNodes w4 (.slice ra M.length rc) M := IsNodes.own h2
    clear h2 h3 hM hI hmay hτ hB4
    generalize (In.inT N a [] t 0 []).2.length = sn at *
    generalize S (enc τ) = sτ at *
    go_wp2_with fail
    go_loopg [9, 11] M.length (fun g v9 t wr => ∃ (k : Nat) (A : List Nd), k + g = M.length ∧ t = .int .i64 (k : Int) ∧ Below w4.heap.size w4 wr ∧ wr.ownsRow w4.heap.size 36 8 v9 A.length (nrow A) ∧ A.length ≤ k ∧ Aside (A = In.noCast (M.take k)))
    case atStart => exact ⟨0, [], by omega, rfl, Below.refl _ _, ⟨by simp [nrow], .inl ⟨rfl, rfl⟩⟩, by simp, by show _ = _; simp⟩
    case round =>
      obtain ⟨k, A, hkg, rfl, hBr, hoA, hAk, HA⟩ := hrel
      have hk0 : (0 : Int) ≤ (k : Int) := by omega
      by_cases hk : k < M.length
      · have hk' : (k : Int) < (M.length : Int) := by omega
        obtain ⟨y, hy⟩ : ∃ y, M[k]? = some y := ⟨_, List.getElem?_eq_getElem hk⟩
        obtain ⟨bb, oo, rfl, hcc, _, hcell⟩ := (hIM.below hBr).at hy
        have q0 := hcell 0 _ rfl
        rw [Nat.add_zero] at q0
        have q1 := hcell 1 _ rfl
        have q2 := hcell 2 _ rfl
        have q3 := hcell 3 _ rfl
        have q4 := hcell 4 _ rfl
        have q5 := hcell 5 _ rfl
        have q6 := hcell 6 _ rfl
        have q7 := hcell 7 _ rfl
        have HF := filt_take (p := fun z : Nd => decide (z.kind ≠ 30)) hy
        clear hcell
        by_cases h30 : y.kind = 30
        · have e30 : (y.kind != 30) = false := by simp [h30]
          have HA2 : Aside (A = In.noCast (M.take (k + 1))) := by show A = List.filter (fun z => decide (z.kind ≠ 30)) (M.take (k + 1)); rw [HF, HA.out, if_neg (by simp [h30]), List.append_nil]
          clear HF HA h30 hy
          go_wp2_with fail
          go_roundg (M.length - (k + 1))
          case measure => omega
          case rel => exact ⟨k + 1, A, by omega, by go_num, hBr, hoA, by omega, HA2⟩
        · have e30 : (y.kind != 30) = true := by simpa using h30
          have HA2 : Aside (A ++ [y] = In.noCast (M.take (k + 1))) := by show A ++ [y] = List.filter (fun z => decide (z.kind ≠ 30)) (M.take (k + 1)); rw [HF, HA.out, if_pos (by simpa using h30)]
          have hsz := hBr.size
          clear HF HA h30 hy
          go_wp2_with (at_builtin; go_must (refine wpList_append_rows rfl _ _ 22 rfl w4.heap.size 0 36 i0 _ 8 88 tyNodes hi0 hz0 hz1 hz2 rfl (by decide) u9 _ _ rfl (hoA.alloc _) (.slice (some ⟨wr.heap.size, 0, none⟩) 1 1) 1 (Tr.ncells y) rfl (own_low (own_lit8 wr (Tr.ncells y) rfl) (Nat.zero_le _)) (fun u hu => nrow_one [y] u (by simpa [nrow] using hu)) (by unfold maxLen; omega) (by omega) (by simp; omega) ?_); intro v5 w5 hown5 hg5 hat5)
          have hB5 : Below w4.heap.size w4 w5 := (hBr.alloc hBr.size _).grown hg5 (by simp; omega) (fun q e => (hoA.lt q e).1)
          go_roundg (M.length - (k + 1))
          case measure => omega
          case rel => exact ⟨k + 1, A ++ [y], by omega, by go_num, hB5, own_more hown5, by simp; omega, HA2⟩
      · have hk' : ¬ (k : Int) < (M.length : Int) := by omega
        obtain rfl : k = M.length := by omega
        have HA2 : Aside (A = In.noCast M) := by show _ = _; rw [HA.out, List.take_length]
        have hl5 := hl4.below hBr
        have HB5 : Aside (Below w.heap.size w wr) := bt HB4.out hBr
        have hIA : IsNodes wr u9 A := IsNodes.own hoA
        obtain ⟨pa, pc, rfl⟩ := own_len hoA
        obtain ⟨hlt5, e0, e1, e2⟩ := hbx4.below hBr
        have hAl : A.length ≤ 100000 := by omega
        clear hIM hoA HA hBr hbx4 hl4 hkg hAk
        obtain ⟨w5, hw5⟩ : ∃ w5 : World, w5 = wr := ⟨_, rfl⟩
        subst hw5
        go_wp2_with fail
        go_loopg [10, 12] l.length (fun g v10 t wr2 => ∃ (k : Nat) (C : List Nd), k + g = l.length ∧ t = .int .i64 (k : Int) ∧ Below w5.heap.size w5 wr2 ∧ wr2.ownsRow w5.heap.size 36 8 v10 C.length (nrow C) ∧ C.length ≤ k ∧ Aside (C = In.noAs (l.take k)))
        case atStart => exact ⟨0, [], by omega, rfl, Below.refl _ _, ⟨by simp [nrow], .inl ⟨rfl, rfl⟩⟩, by simp, by show _ = _; simp⟩
        case round =>
          obtain ⟨k, C, hkg, rfl, hBr, hoC, hCk, HC⟩ := hrel
          have hk0 : (0 : Int) ≤ (k : Int) := by omega
          have f0 : wr.cell? ⟨cb, 0, none⟩ = some (.slice aL l.length cL) := (hBr.cell (p := ⟨cb, 0, none⟩) hlt5).trans e0
          by_cases hk : k < l.length
          · have hk' : (k : Int) < (l.length : Int) := by omega
            obtain ⟨y, hy⟩ : ∃ y, l[k]? = some y := ⟨_, List.getElem?_eq_getElem hk⟩
            obtain ⟨bb, oo, rfl, hcc, _, hcell⟩ := (hl5.below hBr).at hy
            have q0 := hcell 0 _ rfl
            rw [Nat.add_zero] at q0
            have q1 := hcell 1 _ rfl
            have q2 := hcell 2 _ rfl
            have q3 := hcell 3 _ rfl
            have q4 := hcell 4 _ rfl
            have q5 := hcell 5 _ rfl
            have q6 := hcell 6 _ rfl
            have q7 := hcell 7 _ rfl
            have HF := filt_take (p := fun z : Nd => decide (z.kind ≠ 29)) hy
            clear hcell
            by_cases h30 : y.kind = 29
            · have e30 : (y.kind != 29) = false := by simp [h30]
              have HC2 : Aside (C = In.noAs (l.take (k + 1))) := by show C = List.filter (fun z => decide (z.kind ≠ 29)) (l.take (k + 1)); rw [HF, HC.out, if_neg (by simp [h30]), List.append_nil]
              clear HF HC h30 hy
              go_wp2_with fail
              go_roundg (l.length - (k + 1))
              case measure => omega
              case rel => exact ⟨k + 1, C, by omega, by go_num, hBr, hoC, by omega, HC2⟩
            · have e30 : (y.kind != 29) = true := by simpa using h30
              have HC2 : Aside (C ++ [y] = In.noAs (l.take (k + 1))) := by show C ++ [y] = List.filter (fun z => decide (z.kind ≠ 29)) (l.take (k + 1)); rw [HF, HC.out, if_pos (by simpa using h30)]
              have hsz := hBr.size
              clear HF HC h30 hy
              go_wp2_with (at_builtin; go_must (refine wpList_append_rows rfl _ _ 22 rfl w5.heap.size 0 36 i0 _ 8 88 tyNodes hi0 hz0 hz1 hz2 rfl (by decide) u10 _ _ rfl (hoC.alloc _) (.slice (some ⟨wr.heap.size, 0, none⟩) 1 1) 1 (Tr.ncells y) rfl (own_low (own_lit8 wr (Tr.ncells y) rfl) (Nat.zero_le _)) (fun u hu => nrow_one [y] u (by simpa [nrow] using hu)) (by unfold maxLen; omega) (by omega) (by simp; omega) ?_); intro v6 w6 hown6 hg6 hat6)
              have hB6 : Below w5.heap.size w5 w6 := (hBr.alloc hBr.size _).grown hg6 (by simp; omega) (fun q e => (hoC.lt q e).1)
              go_roundg (l.length - (k + 1))
              case measure => omega
              case rel => exact ⟨k + 1, C ++ [y], by omega, by go_num, hB6, own_more hown6, by simp; omega, HC2⟩
          · have hk' : ¬ (k : Int) < (l.length : Int) := by omega
            obtain rfl : k = l.length := by omega
            have HAC : Aside (In.All2 In.Er A C) := by
              show In.All2 _ _ _
              rw [HA2.out, HC.out, List.take_length]
              exact HER.out
            have hlen : A.length = C.length := HAC.out.len
            have hIA2 : IsNodes wr (.slice pa A.length pc) A := hIA.below hBr
            have hIC : IsNodes wr u10 C := IsNodes.own hoC
            obtain ⟨qa, qc, rfl⟩ := own_len hoC
            rw [← hlen]
            rw [← hlen] at hIC
            have HB6 : Aside (Below w.heap.size w wr) := bt HB5.out hBr
            obtain ⟨w6, hw6⟩ : ∃ w6 : World, w6 = wr := ⟨_, rfl⟩
            subst hw6
            have HLEN : Aside (A.length = C.length) := hlen
            clear HA2 HC hoC hIA hBr hl5 hkg hCk e0 e1 e2 hlt5 HER hlen HB5
            go_wp2_with fail
            go_loopg [13] A.length (fun g t wr3 => ∃ k : Nat, k + g = A.length ∧ t = .int .i64 (k : Int) ∧ Below w6.heap.size w6 wr3)
            case atStart => exact ⟨0, by omega, rfl, Below.refl _ _⟩
            case round =>
              obtain ⟨k, hkg, rfl, hBr⟩ := hrel
              have hk0 : (0 : Int) ≤ (k : Int) := by omega
              clear f0
              by_cases hk : k < A.length
              · have hk' : (k : Int) < (A.length : Int) := by omega
                obtain ⟨y, hy⟩ : ∃ y, A[k]? = some y := ⟨_, List.getElem?_eq_getElem hk⟩
                obtain ⟨x, hx⟩ : ∃ x, C[k]? = some x := ⟨_, List.getElem?_eq_getElem (by rw [← HLEN.out]; exact hk)⟩
                obtain ⟨r1, r2, r3, r4, r5, r6, r7, r8⟩ := HAC.out.at hy hx
                obtain ⟨b1, o1, rfl, hcc1, hb1, hcell⟩ := (hIA2.below hBr).at hy
                obtain ⟨b2, o2, rfl, hcc2, hb2, hcell2⟩ : ∃ b o, qa = some ⟨b, o, none⟩ ∧ A.length ≤ qc ∧ b < wr.heap.size ∧ ∀ i u, (Tr.ncells x)[i]? = some u → wr.cell? ⟨b, o + k * 8 + i, none⟩ = some u := by
                  have h := hIC.below hBr
                  rw [HLEN.out] at h ⊢
                  exact h.at hx
                have q0 := hcell 0 _ rfl
                rw [Nat.add_zero] at q0
                have q1 := hcell 1 _ rfl
                have q2 := hcell 2 _ rfl
                have q3 := hcell 3 _ rfl
                have q4 := hcell 4 _ rfl
                have q5 := hcell 5 _ rfl
                have q6 := hcell 6 _ rfl
                have q7 := hcell 7 _ rfl
                have s0 := hcell2 0 _ rfl
                rw [Nat.add_zero] at s0
                have s1 := hcell2 1 _ rfl
                have s2 := hcell2 2 _ rfl
                have s3 := hcell2 3 _ rfl
                have s4 := hcell2 4 _ rfl
                have s5 := hcell2 5 _ rfl
                have s6 := hcell2 6 _ rfl
                have s7 := hcell2 7 _ rfl
                rw [← r1] at s0 r5 r6 r7 r8
                rw [← r2] at s1
                rw [← r3] at s6
                rw [← r4] at s7
                have hsz := hBr.size
                clear hcell hcell2 hx hy r1 r2 r3 r4
                have hnt := fun (s : ByteArray) (W : World) => inNote_any s W
                have c1 : (y.kind != y.kind) = false := by simp
                have c2 : (y.kids != y.kids) = false := by simp
                obtain ⟨W7, hW7⟩ : ∃ W7, W7 = (wr.alloc (.cells #[.int .i8 y.kind, .int .i64 y.kids, .int .i64 y.n, .string y.s, .string y.t, .string y.u, .int .i64 y.ln, .int .i64 y.co] 36)).alloc (.cells #[.int .i8 y.kind, .int .i64 y.kids, .int .i64 x.n, .string x.s, .string x.t, .string x.u, .int .i64 y.ln, .int .i64 y.co] 36) := ⟨_, rfl⟩
                have HB7 : Aside (Below w6.heap.size w6 W7) := by show Below _ _ _; rw [hW7]; exact (hBr.alloc hBr.size _).alloc (by simp; omega) _
                have k0 : W7.heap[wr.heap.size]? = some (.cells #[.int .i8 y.kind, .int .i64 y.kids, .int .i64 y.n, .string y.s, .string y.t, .string y.u, .int .i64 y.ln, .int .i64 y.co] 36 (0, 0)) := by rw [hW7]; exact (Below.heap_alloc _ _ _ (by simp)).trans (heap_alloc_new _ _)
                have k1 : W7.heap[wr.heap.size + 1]? = some (.cells #[.int .i8 y.kind, .int .i64 y.kids, .int .i64 x.n, .string x.s, .string x.t, .string x.u, .int .i64 y.ln, .int .i64 y.co] 36 (0, 0)) := by rw [hW7]; exact heap_two _ _ _
                have t0 : W7.cell? ⟨wr.heap.size, 0, none⟩ = some (.int .i8 y.kind) := (block_cells k0).1 0
                have t2 : W7.cell? ⟨wr.heap.size, 2, none⟩ = some (.int .i64 y.n) := (block_cells k0).1 2
                have t3 : W7.cell? ⟨wr.heap.size, 3, none⟩ = some (.string y.s) := (block_cells k0).1 3
                have t4 : W7.cell? ⟨wr.heap.size, 4, none⟩ = some (.string y.t) := (block_cells k0).1 4
                have t5 : W7.cell? ⟨wr.heap.size, 5, none⟩ = some (.string y.u) := (block_cells k0).1 5
                have v2 : W7.cell? ⟨wr.heap.size + 1, 2, none⟩ = some (.int .i64 x.n) := (block_cells k1).1 2
                have v3 : W7.cell? ⟨wr.heap.size + 1, 3, none⟩ = some (.string x.s) := (block_cells k1).1 3
                have v4 : W7.cell? ⟨wr.heap.size + 1, 4, none⟩ = some (.string x.t) := (block_cells k1).1 4
                have v5 : W7.cell? ⟨wr.heap.size + 1, 5, none⟩ = some (.string x.u) := (block_cells k1).1 5
                go_upto_region 27 with fail
                rw [← hW7]
                clear hW7 k0 k1 q0 q1 q2 q3 q4 q5 q6 q7 s0 s1 s2 s3 s4 s5 s6 s7
                by_cases h1 : y.kind = 1
                · rw [← r5 (.inl h1)] at v2
                  replace t0 := t0.trans (congrArg (fun z => some (Value.int .i8 z)) h1)
                  clear h1 r5 r6 r7 r8
                  go_wp2_with fail
                  go_roundg (A.length - (k + 1))
                  case measure => omega
                  case rel => exact ⟨k + 1, by omega, by go_num, HB7.out⟩
                by_cases h3 : y.kind = 3
                · rw [← r5 (.inr h3)] at v2
                  replace t0 := t0.trans (congrArg (fun z => some (Value.int .i8 z)) h3)
                  clear h3 r5 r6 r7 r8
                  go_wp2_with fail
                  go_roundg (A.length - (k + 1))
                  case measure => omega
                  case rel => exact ⟨k + 1, by omega, by go_num, HB7.out⟩
                by_cases h2 : y.kind = 2
                · rw [← r6 h2] at v3
                  replace t0 := t0.trans (congrArg (fun z => some (Value.int .i8 z)) h2)
                  clear h2 r5 r6 r7 r8
                  go_wp2_with fail
                  go_roundg (A.length - (k + 1))
                  case measure => omega
                  case rel => exact ⟨k + 1, by omega, by go_num, HB7.out⟩
                by_cases h5 : y.kind = 5
                · rw [(r7 (.inl h5)).1] at t4
                  rw [(r7 (.inl h5)).2] at t5
                  replace t0 := t0.trans (congrArg (fun z => some (Value.int .i8 z)) h5)
                  clear h5 r5 r6 r7 r8
                  go_wp2_with fail
                  go_quiet ((go_at_call 8; exact Calls.quiet_of_same (inNote_any _ _)))
                  go_wp2_with fail
                  go_roundg (A.length - (k + 1))
                  case measure => omega
                  case rel => exact ⟨k + 1, by omega, by go_num, by first | exact HB7.out | exact below_drew HB7.out | exact below_drewN HB7.out _⟩
                by_cases h6 : y.kind = 6
                · rw [(r7 (.inr h6)).1] at t4
                  rw [(r7 (.inr h6)).2] at t5
                  replace t0 := t0.trans (congrArg (fun z => some (Value.int .i8 z)) h6)
                  clear h6 r5 r6 r7 r8
                  go_wp2_with fail
                  go_quiet ((go_at_call 8; exact Calls.quiet_of_same (inNote_any _ _)))
                  go_wp2_with fail
                  go_roundg (A.length - (k + 1))
                  case measure => omega
                  case rel => exact ⟨k + 1, by omega, by go_num, by first | exact HB7.out | exact below_drew HB7.out | exact below_drewN HB7.out _⟩
                by_cases h8 : y.kind = 8
                · rw [r8 h8] at t4
                  replace t0 := t0.trans (congrArg (fun z => some (Value.int .i8 z)) h8)
                  clear h8 r5 r6 r7 r8
                  go_wp2_with fail
                  go_quiet ((go_at_call 8; exact Calls.quiet_of_same (inNote_any _ _)))
                  go_wp2_with fail
                  go_roundg (A.length - (k + 1))
                  case measure => omega
                  case rel => exact ⟨k + 1, by omega, by go_num, by first | exact HB7.out | exact below_drew HB7.out | exact below_drewN HB7.out _⟩
                have e1 : (y.kind == 1) = false := by simpa using h1
                have e3 : (y.kind == 3) = false := by simpa using h3
                have e2 : (y.kind == 2) = false := by simpa using h2
                have e5 : (y.kind == 5) = false := by simpa using h5
                have e6 : (y.kind == 6) = false := by simpa using h6
                have e8 : (y.kind == 8) = false := by simpa using h8
                clear h1 h2 h3 h5 h6 h8 r5 r6 r7 r8
                go_wp2_with fail
                go_roundg (A.length - (k + 1))
                case measure => omega
                case rel => exact ⟨k + 1, by omega, by go_num, HB7.out⟩
              · have hk' : ¬ (k : Int) < (A.length : Int) := by omega
                go_wp2_with fail
                go_ret
                exact ⟨rfl, bt HB6.out hBr⟩
end Go.Proofs.YthdlfeejeboboaaDoor
