/- The walk of RelateSteps. -/
import Derived.Test.YtgkmoifibcmooaaRelI
namespace Go.Proofs.Ytgkmoifibcmooaa
open Go.RowKit

/-- A list of bytes, wherever it lies. -/
def IsPicks (w : World) (v : Value) : Prop := ∃ a n c, v = .slice a n c ∧ n ≤ 140737488355328 ∧ ∀ k, k < n → ∃ b o x, a = some ⟨b, o, none⟩ ∧ n ≤ c ∧ b < w.heap.size ∧ w.cell? ⟨b, o + k, none⟩ = some (.int .u8 x) ∧ 0 ≤ x ∧ x ≤ 255

theorem IsTy.size {s : ByteArray} {a : Tp.Ty} (h : IsTy s a) : s.size = (Tp.enc a).length := by rw [h.eq, S_size]
theorem looser_of {s : ByteArray} {a : Tp.Ty} (h : IsTy s a) (w : World) :
    Calls Try.prog 18 #[.string s] w fun e w' => ∃ v, e = .returned v ∧ w'.ownsRow w.heap.size 9 1 v (Tp.loo a).length (tcells ((Tp.loo a).map Tp.enc)) ∧ Below w.heap.size w w' := by
  rw [h.eq]; exact looser_yes a h.len w
theorem height_of {s : ByteArray} {a : Tp.Ty} (h : IsTy s a) (w : World) :
    Calls Try.prog 19 #[.string s] w fun e w' => e = .returned (.int .i64 (Tp.high a)) ∧ Below w.heap.size w w' := by
  rw [h.eq]; exact height_yes 64 a w h.len h.len
theorem eqText {s t : ByteArray} {a b : Tp.Ty} (ha : IsTy s a) (hb : IsTy t b) : (s.toList == t.toList) = decide (a = b) := by
  rw [ha.eq, hb.eq, toList_S, toList_S]
  by_cases e : a = b
  · subst e; simp
  · have : Tp.enc a ≠ Tp.enc b := fun h => e (Tp.enc_inj h)
    simp [e, this]

set_option maxRecDepth 100000 in
set_option maxHeartbeats 4000000 in
theorem steps_no (s t : ByteArray) (v : Value) (h : (Tp.chk s.data.toList).1 ≠ 0 ∨ (Tp.chk t.data.toList).1 ≠ 0) (w : World) :
    Calls Try.prog 5 #[.string s, .string t, v] w fun e w' => e = .returned (.bool true) ∧ Below w.heap.size w w' := by
  have h1 := lis_any s
  have h2 := lis_any t
  have hl := lives_any
  cases e1 : ((Tp.chk s.data.toList).1 == 0) with
  | false =>
    rw [e1] at h1
    go_enter Try.func5, Try.ntmps5
    go_wp2_with (first | (go_at_call_of 16 s; refine (h1 _).mono ?_; rintro e w' ⟨rfl, hw'⟩; replace hw' := hw'.symm; subst hw') | (go_at_call 15; refine (hl _).mono ?_; rintro e w' ⟨rfl, hB⟩))
    go_ret
    exact ⟨rfl, hB⟩
  | true =>
    rw [e1] at h1
    have e2 : ((Tp.chk t.data.toList).1 == 0) = false := by
      rcases h with h | h
      · simp at e1; exact absurd e1 h
      · simpa using h
    rw [e2] at h2
    go_enter Try.func5, Try.ntmps5
    go_wp2_with fail
    refine (h1 _).mono ?_
    rintro e w' ⟨rfl, hw'⟩
    replace hw' := hw'.symm; subst hw'
    go_wp2_with fail
    refine (h2 _).mono ?_
    rintro e w' ⟨rfl, hw'⟩
    replace hw' := hw'.symm; subst hw'
    go_wp2_with (go_at_call 15; refine (hl _).mono ?_; rintro e w' ⟨rfl, hB⟩)
    go_ret
    exact ⟨rfl, hB⟩

/-- The steps that lead on. -/
def near (x b : Tp.Ty) (k : Nat) : List Tp.Ty := ((Tp.loo x).take k).filter (fun u => Tp.prc u b)
theorem near_yes {x b u : Tp.Ty} {k : Nat} (h : (Tp.loo x)[k]? = some u) (hp : Tp.prc u b = true) : near x b (k + 1) = near x b k ++ [u] := by
  unfold near; rw [List.take_add_one, h, List.filter_append]; simp [hp]
theorem near_no {x b u : Tp.Ty} {k : Nat} (h : (Tp.loo x)[k]? = some u) (hp : Tp.prc u b = false) : near x b (k + 1) = near x b k := by
  unfold near; rw [List.take_add_one, h, List.filter_append]; simp [hp]

set_option maxRecDepth 100000 in
set_option maxHeartbeats 10000000 in
theorem steps_yes (s t : ByteArray) (v : Value) (a b : Tp.Ty) (ha : IsTy s a) (hb : IsTy t b) (w : World) (hv : IsPicks w v) :
    Calls Try.prog 5 #[.string s, .string t, v] w fun e w' => e = .returned (.bool true) ∧ Below w.heap.size w w' := by
  obtain ⟨pa, pn, pc, rfl, hpn, hpk⟩ := hv
  have hl := lives_any
  have hss := ha.size
  have hsl := ha.len
  have hkn := Tp.kno_len a
  have HSS : Aside (s.size = (Tp.enc a).length) := hss
  have hs64 : s.size ≤ 64 := by omega
  clear hss
  have hB : Below w.heap.size w w := Below.refl _ _
  obtain ⟨i0, hi, hz0, hz1, hz2⟩ := info_parts info9
  go_enter Try.func5, Try.ntmps5
  go_wp2_with (first | (go_at_call 16; refine (lis_yes (by assumption) _).mono ?_; rintro e w' ⟨rfl, hw'⟩; replace hw' := hw'.symm; subst hw'))
  go_loopg [7, 8] (Tp.kno a) (fun g av nv wr => ∃ (x : Tp.Ty) (sx : ByteArray) (n : Nat), av = .string sx ∧ IsTy sx x ∧ nv = .int .i64 n ∧ Tp.kno x = g ∧ Aside (Tp.kno x + n = Tp.kno a) ∧ Aside (Tp.prc a x = true) ∧ Aside ((n = 0 ∧ x = a) ∨ Tp.prc x b = true) ∧ Below w.heap.size w wr)
  case atStart => exact ⟨a, s, 0, rfl, ha, rfl, rfl, rfl, Tp.prc_refl a, .inl ⟨rfl, rfl⟩, hB⟩
  case round =>
    clear hB
    obtain ⟨x, sx, n, rfl, hx, rfl, hg, HN, HP, HO, hB⟩ := hrel
    have hnb : n ≤ 64 := by have := HN.out; omega
    have hn2 : (n : Int) ≤ 2 * (s.size : Int) := by have := HN.out; have := HSS.out; omega
    have hlx := Tp.loo_len x
    have hxl := hx.len
    have hxs := hx.size
    go_wp2_with (first | (go_at_call 18; refine (looser_of (by assumption) _).mono ?_; rintro e wl ⟨vl, rfl, Ol, Bl⟩; obtain ⟨la, lc, rfl⟩ := own_len Ol))
    have hBl : Below w.heap.size w wl := hB.trans (Bl.mono hB.size)
    have Tl := own_at Ol (by simp)
    clear Ol Bl hB
    go_loopg [10, 11] (Tp.loo x).length (fun g nv iv wr => ∃ k : Nat, k + g = (Tp.loo x).length ∧ iv = .int .i64 k ∧ wr.ownsRow wl.heap.size 9 1 nv (near x b k).length (tcells ((near x b k).map Tp.enc)) ∧ Below wl.heap.size wl wr)
    case atStart => exact ⟨0, by omega, rfl, own_nil _ _ _ _, Below.refl _ _⟩
    case round =>
      obtain ⟨k, hkg, rfl, On, hBn⟩ := hrel
      have hBs := hBn.size
      obtain ⟨na, nc, rfl⟩ := own_len On
      have hBw : Below w.heap.size w wr := hBl.trans (hBn.mono hBl.size)
      have hnl : (near x b k).length ≤ k := by unfold near; exact Nat.le_trans (List.length_filter_le _ _) (by simp; omega)
      by_cases hk : k < (Tp.loo x).length
      · have hk' : (k : Int) < ((Tp.loo x).length : Int) := by omega
        have hk0 : (0 : Int) ≤ (k : Int) := by omega
        have gu := List.getElem?_eq_getElem hk
        have mu := List.getElem_mem hk
        generalize (Tp.loo x)[k] = u at *
        obtain ⟨b1, o1, rfl, hc1, hl1, hcu⟩ := (Tl.below hBn).at (k := k) (p := Tp.enc u) (by rw [List.getElem?_map, gu]; rfl)
        have hpu := Tp.loo_prc mu
        have hps := Tp.loo_strict mu
        have hlu := Tp.prc_len hpu
        have hhu := Tp.prc_high hpu
        have hu : IsTy (S (Tp.enc u)) u := ⟨rfl, by omega⟩
        have hus : (S (Tp.enc u)).size = (Tp.enc u).length := S_size _
        have hlen : decide ((sx.size : Int) < ((S (Tp.enc u)).size : Int)) = false := by rw [hus, hxs]; simp; omega
        have hhi : decide ((Tp.high x : Int) < (Tp.high u : Int)) = false := by simp; omega
        have hhi2 : decide (Tp.high x < Tp.high u) = false := by simp; omega
        have HY : Aside (Tp.prc u b = true → near x b (k + 1) = near x b k ++ [u]) := near_yes gu
        have HZ : Aside (Tp.prc u b = false → near x b (k + 1) = near x b k) := near_no gu
        clear gu mu
        generalize hsu : S (Tp.enc u) = su at *
        have hB := hBw
        cases hub : Tp.prc u b with
        | true =>
          go_wp2_with (first
            | (go_at_call 16; refine (lis_yes (by assumption) _).mono ?_; rintro e w' ⟨rfl, hw'⟩; replace hw' := hw'.symm; subst hw')
            | (go_at_call 13; refine (precise_of (by assumption) (by assumption) _).mono ?_; rintro e w' ⟨rfl, hB'⟩; have On := own_below On hB'; have hBn := hBn.trans (hB'.mono hBs); have hBs := hBn.size; clear hB')
            | (go_at_call 19; refine (height_of (by assumption) _).mono ?_; rintro e w' ⟨rfl, hB'⟩; have On := own_below On hB'; have hBn := hBn.trans (hB'.mono hBs); have hBs := hBn.size; clear hB')
            | (at_builtin; go_must (refine wpList_append_own _ rfl _ _ 31 rfl wl.heap.size 9 i0 (.string ⟨#[]⟩) 1 16 ty31 hi hz0 hz1 hz2 rfl (by decide) (.slice na (near x b k).length nc) _ _ rfl (On.alloc _) ⟨w'.heap.size, 0, none⟩ 1 1 [.string su] rfl rfl (cells_list_new _ [.string su] 9) (fun u hu => by simp at hu; subst hu; rfl) (by unfold maxLen; omega) (by omega) (by simp; omega) ?_); intro v2 w2 hown2 hg2 _))
          go_roundg (gk - 1)
          case measure => omega
          case rel =>
            refine ⟨k + 1, by omega, by go_num, ?_, hBn.grown (grownBy_alloc_pre hg2) hBs (fun x e => (On.lt x e).1)⟩
            rw [HY.out hub, List.map_append, tcells_append, List.length_append]
            have : tcells (List.map Tp.enc [u]) = [.string su] := by rw [← hsu]; rfl
            rw [this]
            exact hown2
        | false =>
          go_wp2_with (first
            | (go_at_call 16; refine (lis_yes (by assumption) _).mono ?_; rintro e w' ⟨rfl, hw'⟩; replace hw' := hw'.symm; subst hw')
            | (go_at_call 13; refine (precise_of (by assumption) (by assumption) _).mono ?_; rintro e w' ⟨rfl, hB'⟩; have On := own_below On hB'; have hBn := hBn.trans (hB'.mono hBs); have hBs := hBn.size; clear hB')
            | (go_at_call 19; refine (height_of (by assumption) _).mono ?_; rintro e w' ⟨rfl, hB'⟩; have On := own_below On hB'; have hBn := hBn.trans (hB'.mono hBs); have hBs := hBn.size; clear hB'))
          go_roundg (gk - 1)
          case measure => omega
          case rel => exact ⟨k + 1, by omega, by go_num, by rw [HZ.out hub]; exact On, hBn⟩
      · have hk' : decide ((k : Int) < ((Tp.loo x).length : Int)) = false := by simp; omega
        obtain rfl : k = (Tp.loo x).length := by omega
        have heq := eqText hx hb
        have hB := hBw
        have hmem : ∀ y, y ∈ near x b (Tp.loo x).length ↔ y ∈ Tp.loo x ∧ Tp.prc y b = true := by
          intro y; unfold near; rw [List.take_length, List.mem_filter]
        by_cases hxb : x = b
        · have hab : Tp.prc a b = true := by have := HP.out; rw [hxb] at this; exact this
          rw [show decide (x = b) = true by simpa using hxb] at heq
          clear hmem hxb
          go_wp2_with (first
            | (go_at_call 13; refine (precise_of (by assumption) (by assumption) _).mono ?_; rintro e w' ⟨rfl, hB'⟩; have hB := hB.trans (hB'.mono hB.size); clear hB')
            | (go_at_call 15; refine (hl _).mono ?_; rintro e w' ⟨rfl, hB'⟩; have hB := hB.trans (hB'.mono hB.size); clear hB'))
          go_ret
          exact ⟨rfl, hB⟩
        · rw [show decide (x = b) = false by simpa using hxb] at heq
          generalize hN : near x b (Tp.loo x).length = N at *
          by_cases hN0 : N.length = 0
          · have hN0' : ((N.length : Int) == 0) = true := by simp [hN0]
            have hno : ∀ y, y ∈ Tp.loo x → Tp.prc y b = true → False := by
              intro y h1 h2
              have := (hmem y).2 ⟨h1, h2⟩
              rw [List.eq_nil_of_length_eq_zero hN0] at this
              cases this
            have hxn : Tp.prc x b = false := by
              cases h : Tp.prc x b with
              | false => rfl
              | true =>
                obtain ⟨y, h1, h2⟩ := Tp.loo_near h hxb
                exact (hno y h1 h2).elim
            have hab : Tp.prc a b = false := by
              rcases HO.out with ⟨_, rfl⟩ | h
              · exact hxn
              · rw [hxn] at h; cases h
            clear hmem hno hxn hxb
            go_wp2_with (first
              | (go_at_call 13; refine (precise_of (by assumption) (by assumption) _).mono ?_; rintro e w' ⟨rfl, hB'⟩; have hB := hB.trans (hB'.mono hB.size); clear hB')
              | (go_at_call 15; refine (hl _).mono ?_; rintro e w' ⟨rfl, hB'⟩; have hB := hB.trans (hB'.mono hB.size); clear hB'))
            go_ret
            exact ⟨rfl, hB⟩
          · have hN0' : ((N.length : Int) == 0) = false := by simp; intro e; exact hN0 (by simp [e])
            have hNp : (0 : Int) < (N.length : Int) := by omega
            have hnl' : N.length ≤ 64 := by omega
            have hpick : ∀ j, j < N.length → ∃ y, N[j]? = some y ∧ IsTy (S (Tp.enc y)) y ∧ Tp.prc y b = true ∧ Tp.kno y + 1 = Tp.kno x ∧ Tp.prc a y = true := by
              intro j hj
              have gy := List.getElem?_eq_getElem hj
              obtain ⟨h1, h2⟩ := (hmem _).1 (List.getElem_mem hj)
              have h3 := Tp.loo_prc h1
              have h4 := Tp.prc_len h3
              exact ⟨_, gy, ⟨rfl, by omega⟩, h2, Tp.loo_kno h1, Tp.prc_trans HP.out h3⟩
            have hn0 : (0 : Int) ≤ (n : Int) := by omega
            by_cases hpl : n < pn
            · have hpl' : (n : Int) < (pn : Int) := by omega
              obtain ⟨pb, po, px, rfl, hpc, hpbl, hpcell, hpx0, hpx1⟩ := hpk n hpl
              have hpcell' := (hB.cell (p := ⟨pb, po + n, none⟩) hpbl).trans hpcell
              obtain ⟨j, hj⟩ : ∃ j : Nat, px % (N.length : Int) = (j : Int) := ⟨(px % (N.length : Int)).toNat, by have := Int.emod_nonneg px (show (N.length : Int) ≠ 0 by omega); omega⟩
              have hjl : j < N.length := by have := Int.emod_lt_of_pos px hNp; omega
              have hjl' : (j : Int) < (N.length : Int) := by omega
              have hj0 : (0 : Int) ≤ (j : Int) := by omega
              obtain ⟨y, gy, hy, hyb, hky, hay⟩ := hpick j hjl
              obtain ⟨b2, rfl, -, -, hc2, hcy, -⟩ := own_cell On (k := j) (x := .string (S (Tp.enc y))) (by unfold tcells; rw [List.getElem?_map, List.getElem?_map, gy]; rfl)
              clear hpick hmem hpk gy
              generalize hsy : S (Tp.enc y) = sy at *
              go_wp2_with fail
              go_roundg (Tp.kno y)
              case measure => omega
              case rel => exact ⟨y, sy, n + 1, rfl, hy, by go_num, rfl, by show _ = _; have := HN.out; omega, hay, .inr hyb, hB⟩
            · have hpl' : decide ((n : Int) < (pn : Int)) = false := by simp; omega
              obtain ⟨y, gy, hy, hyb, hky, hay⟩ := hpick 0 (by omega)
              obtain ⟨b2, rfl, -, -, hc2, hcy, -⟩ := own_cell On (k := 0) (x := .string (S (Tp.enc y))) (by unfold tcells; rw [List.getElem?_map, List.getElem?_map, gy]; rfl)
              clear hpick hmem hpk gy
              generalize hsy : S (Tp.enc y) = sy at *
              go_wp2_with fail
              go_roundg (Tp.kno y)
              case measure => omega
              case rel => exact ⟨y, sy, n + 1, rfl, hy, by go_num, rfl, by show _ = _; have := HN.out; omega, hay, .inr hyb, hB⟩
end Go.Proofs.Ytgkmoifibcmooaa
