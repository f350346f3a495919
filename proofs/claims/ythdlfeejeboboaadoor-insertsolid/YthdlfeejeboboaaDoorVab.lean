/- InsertSolid returns true. -/
import Derived.Test.YthdlfeejeboboaaDoorVaa
import Derived.Test.YthdlfeejeboboaaDoorUat
namespace Go.Proofs.YthdlfeejeboboaaDoor
open Go.RowKit Ck
open T3.Tp (Ty enc cns met sta)
open Tr (T Nd nm flat flats wf)
set_option maxRecDepth 100000
set_option linter.unusedSimpArgs false
set_option linter.unusedVariables false

theorem stE_ofN {N : List (List UInt8)} {ts : List Ty} (h : ∀ t ∈ ts, sta t = true) (hl : N.length = ts.length) : In.StE (envOf N ts) := by
  intro n t hn
  have := look_last N ts hl N.length (Nat.le_refl _) n
  rw [List.take_of_length_le (by simp; omega)] at this
  unfold envOf at hn
  rw [hn] at this
  cases hj : lastAt N N.length n with
  | none => rw [hj] at this; simp at this
  | some j => rw [hj] at this; exact h t (List.mem_of_getElem? this.symm)
/-- What insertion answers of a tree without ?. -/
theorem solid_out {w3 w4 : World} {l : List Nd} {N Th : List (List UInt8)} {e : Ending} (hl : l.length ≤ 400) (hS : l.all stN = true) (hT : ∀ p ∈ Th, solB (S p) = true)
    (h : (∃ er at' : Int, er ≠ 0 ∧ e = .returned (.tuple #[.slice none 0 0, .string ⟨#[]⟩, .slice none 0 0, .int .i64 er, .int .i64 at']) ∧ ((nameB (⟨#[109]⟩ : ByteArray).data.toList = false ∧ er = 1 ∧ at' = 0) ∨ (nameB (⟨#[109]⟩ : ByteArray).data.toList = true ∧ ∃ r, Ex l N Th r er at'))) ∨
      ∃ (ts : List Ty) (t : T) (a : List Ty) (va vs : Value) (τ : Ty), Ins ⟨#[109]⟩ l N Th ts t a ∧ a[0]? = some τ ∧ e = .returned (.tuple #[va, .string (S (enc τ)), vs, .int .i64 0, .int .i64 0]) ∧ w4.ownsRow w3.heap.size 36 8 va (In.term (In.inT N a [] t 0 []).1).length (nrow (In.term (In.inT N a [] t 0 []).1)) ∧ w4.ownsRow w3.heap.size 41 5 vs (In.inT N a [] t 0 []).2.length (In.srow ⟨#[109]⟩ (In.inT N a [] t 0 []).2)) :
    ∃ (M : List Nd) (va vs : Value) (ss : ByteArray) (er at' : Int), e = .returned (.tuple #[va, .string ss, vs, .int .i64 er, .int .i64 at']) ∧ w4.ownsRow 0 36 8 va M.length (nrow M) ∧ (∀ y ∈ M, y.kind ≠ 30) ∧ ∃ sa sc, vs = .slice sa 0 sc ∧ M.length ≤ 1000000 := by
  rcases h with ⟨er, at', _, h1, _⟩ | ⟨ts, t, a, va, vs, τ, hI, hτ, h1, h2, h3⟩
  · exact ⟨[], _, _, _, er, at', h1, ⟨by simp [nrow], .inl ⟨rfl, rfl⟩⟩, by simp, none, 0, rfl, by simp⟩
  · have hst : ∀ u ∈ ts, sta u = true := fun u hu => by
      have h := hT (enc u) (by rw [hI.th]; exact List.mem_map.2 ⟨u, hu, rfl⟩)
      unfold solB at h
      simp only [Bool.and_eq_true, Bool.not_eq_true', decide_eq_true_eq] at h
      have h1 := h.1
      rw [S_list, In.has_q] at h1
      simpa using h1
    obtain ⟨_, _, _, hmay, _, _⟩ := chk_tree hI.chk
    have hm : ∀ x ∈ flat t, Tr.mayB x = true ∧ stN x = true := fun x hx => ⟨hmay x (by rw [hI.fl]; exact hx), List.all_eq_true.1 hS x (by rw [hI.fl]; exact hx)⟩
    obtain ⟨k1, k2, _⟩ := In.inT_so N a t (envOf N ts) [] 0 [] a hI.wf hm (stE_ofN hst hI.len) hI.ok (fun j u hu => by rw [Nat.zero_add]; exact hu)
    obtain ⟨_, _, z3⟩ := In.size_T N a t [] 0 []
    rw [k1] at h3 z3
    obtain ⟨sa, sc, rfl⟩ := own_len h3
    have hfl : (flat t).length ≤ 400 := by rw [← hI.fl]; exact hl
    exact ⟨_, va, _, _, 0, 0, h1, own_low h2 (Nat.zero_le _), k2, sa, sc, rfl, by simp at z3; omega⟩

set_option maxHeartbeats 16000000 in
theorem insertSolid_any (l : List Nd) (hf : Fits l) (hft : ∀ x ∈ l, x.t.size ≤ maxLen ∧ x.u.size ≤ maxLen) (N Th : List (List UInt8)) (hs : ∀ p ∈ N, p.length ≤ maxLen) (hsT : ∀ p ∈ Th, p.length ≤ maxLen) (vL vN vT : Value) (w : World) (hl : IsNodes w vL l) (hn : T3.IsTexts w vN N) (ht : T3.IsTexts w vT Th) (hG : HasG w) (hg : 5 ≤ w.heap.size) :
    Calls Tryd.prog 4 #[.agg #[vL, vN, vT]] w fun e w' => e = .returned (.bool true) ∧ Below w.heap.size w w' := by
  obtain ⟨aL, cL, rfl⟩ := hl.form
  obtain ⟨aN, cN, rfl⟩ := txs_form hn
  obtain ⟨aT, cT, rfl⟩ := txs_form ht
  have hbx := CBox.new w (.slice aL l.length cL) (.slice aN N.length cN) (.slice aT Th.length cT) 25
  have hBw : Below w.heap.size w (w.alloc (.cells #[.slice aL l.length cL, .slice aN N.length cN, .slice aT Th.length cT] 25)) := (Below.refl _ _).alloc (Nat.le_refl _) _
  have hlg := caseLong_any l N Th aL aN aT cL cN cT
  have hst := fun (w : World) hl (hl2 : l.length ≤ 2000) => static08_any l (by omega) hft (.slice aL l.length cL) w hl
  go_enter Tryd.func4, Tryd.ntmps4
  go_upto_region 1 with fail
  have hl := hl.below hBw
  have hn := txs_below hn hBw
  have ht := txs_below ht hBw
  have hG := hG.below hBw
  have hg := Nat.le_trans hg hBw.size
  have HBw : Aside (Below w.heap.size w _) := hBw
  clear hBw
  obtain ⟨cb, hcb⟩ : ∃ cb, cb = w.heap.size := ⟨_, rfl⟩
  generalize w.alloc _ = W0 at *
  rw [← hcb] at hbx ⊢
  clear hcb
  go_wp2_with fail
  go_at_call 5
  refine (works11_any _ hG hg).mono ?_
  rintro e w1 ⟨rfl, hB1⟩
  obtain ⟨hlt1, p0, p1, p2⟩ := hbx.below hB1
  go_wp2_with fail
  go_at_call 6
  refine (hlg _).mono ?_
  rintro e w2 ⟨rfl, hB2⟩
  have hB := bt hB1 hB2
  clear hB1 hB2 p0 p1 p2 hlt1 hlg
  cases hlb : caseLB l N Th with
  | true =>
    go_wp2_with fail
    go_ret
    exact ⟨rfl, bt HBw.out hB⟩
  | false =>
  obtain ⟨n1, n2, n3⟩ := caseLong_no hlb
  clear hlb
  have hl := hl.below hB
  have hn := txs_below hn hB
  have ht := txs_below ht hB
  have hG := hG.below hB
  have hg := Nat.le_trans hg hB.size
  have hbx := hbx.below hB
  have HB : Aside (Below w.heap.size w w2) := bt HBw.out hB
  clear hB HBw
  have hst := hst w2 hl (by omega)
  have HCX : Aside (∀ w3, Below w2.heap.size w2 w3 → Calls Tryd.prog 7 #[.string ⟨#[109]⟩, .slice aL l.length cL, .slice aN N.length cN, .slice aT Th.length cT] w3 (IxEnd w3 ⟨#[109]⟩ l N Th)) := fun w3 h => iexpr_any ⟨#[109]⟩ (by decide) l hf (by omega) N Th (by omega) hs _ _ _ w3 (hl.below h) (txs_below hn h) (txs_below ht h) (hG.below h) (Nat.le_trans hg h.size)
  have hbx2 := hbx
  obtain ⟨hlt2, d0, d1, d2⟩ := hbx
  go_wp2_with fail
  refine hst.mono ?_
  rintro e w3 ⟨rfl, hB3⟩
  cases hS : l.all stN with
  | false =>
    go_wp2_with fail
    go_ret
    exact ⟨rfl, bt HB.out hB3⟩
  | true =>
  have HSS : Aside (l.all stN = true) := hS
  have hcx := HCX.out w3 hB3
  have ht := txs_below ht hB3
  have hbx3 := hbx2.below hB3
  have HB3 : Aside (Below w.heap.size w w3) := bt HB.out hB3
  clear hS d0 d1 d2 hlt2 hst HCX hl hn hbx2 hB3
  obtain ⟨hlt2, d0, d1, d2⟩ := hbx3
  go_wp2_with fail
  go_loopg [4] Th.length (fun g t wr => wr = w3 ∧ ∃ k : Nat, k + g = Th.length ∧ t = .int .i64 (k : Int) ∧ Aside (∀ (j : Nat) p, j < k → Th[j]? = some p → solB (S p) = true))
  case atStart => exact ⟨rfl, 0, by omega, rfl, fun j p hj => absurd hj (by omega)⟩
  case round =>
    obtain ⟨rfl, k, hkg, rfl, HK⟩ := hrel
    have hk0 : (0 : Int) ≤ (k : Int) := by omega
    by_cases hk : k < Th.length
    · have hk' : (k : Int) < (Th.length : Int) := by omega
      obtain ⟨p, hp⟩ := getp hk
      obtain ⟨b1, o1, rfl, hc1, hb1, e0⟩ := txs_at ht hp
      replace e0 : wr.cell? ⟨b1, o1 + k, none⟩ = some (.string (S p)) := e0
      have hso := solid_any (S p) (by rw [S_size]; exact hsT p (List.mem_of_getElem? hp))
      have HS : Aside (solB (S p) = true → ∀ (j : Nat) p, j < k + 1 → Th[j]? = some p → solB (S p) = true) := fun h j p' hj hp' => by
        by_cases e : j = k
        · subst e; rw [hp] at hp'; cases hp'; exact h
        · exact HK.out j p' (by omega) hp'
      clear HK hp hcx ht
      generalize S p = sp at *
      cases hb : solB sp with
      | false =>
        rw [hb] at hso
        clear HS hb
        go_wp2_with (go_at_call 10; refine (hso _).mono ?_; rintro e w' ⟨rfl, hw'⟩; replace hw' := hw'.symm; subst hw')
        go_ret
        exact ⟨rfl, HB3.out⟩
      | true =>
        rw [hb] at hso
        have HN : Aside (∀ (j : Nat) p, j < k + 1 → Th[j]? = some p → solB (S p) = true) := HS.out hb
        clear HS hb
        go_wp2_with (go_at_call 10; refine (hso _).mono ?_; rintro e w' ⟨rfl, hw'⟩; replace hw' := hw'.symm; subst hw')
        go_roundg (gk - 1)
        case measure => omega
        case rel => exact ⟨rfl, k + 1, by omega, by go_num, HN⟩
    · have hk' : ¬ (k : Int) < (Th.length : Int) := by omega
      have HTT : Aside (∀ p ∈ Th, solB (S p) = true) := fun p hp => by
        obtain ⟨j, hj⟩ := List.getElem?_of_mem hp
        exact HK.out j p (by have := (List.getElem?_eq_some_iff.1 hj).1; omega) hj
      clear HK ht
      go_wp2_with fail
      refine hcx.mono ?_
      rintro e w4 ⟨hB4, hor⟩
      have HB4 : Aside (Below w.heap.size w w4) := bt HB3.out hB4
      obtain ⟨M, va, vs, ss, er, at', rfl, hown, hkd, sa, sc, rfl, hM⟩ := solid_out n1 HSS.out HTT.out hor
      obtain ⟨ra, rc, rfl⟩ := own_len hown
      clear hor hcx hB4 HTT HSS d0 d1 d2 hlt2
      go_wp2_with fail
      go_loopg [10] M.length (fun g t wr => wr = w4 ∧ ∃ k : Nat, k + g = M.length ∧ t = .int .i64 (k : Int))
      case atStart => exact ⟨rfl, 0, by omega, rfl⟩
      case round =>
        obtain ⟨rfl, k, hkg, rfl⟩ := hrel
        have hk0 : (0 : Int) ≤ (k : Int) := by omega
        by_cases hk : k < M.length
        · have hk' : (k : Int) < (M.length : Int) := by omega
          obtain ⟨y, hy⟩ : ∃ y, M[k]? = some y := ⟨_, List.getElem?_eq_getElem hk⟩
          obtain ⟨bb, oo, rfl, hcc, _, hcell⟩ := (IsNodes.own hown).at hy
          have e0 := hcell 0 _ rfl
          rw [Nat.add_zero] at e0
          have e30 : (y.kind == 30) = false := by simpa using hkd y (List.mem_of_getElem? hy)
          clear hcell hown hkd hy
          generalize M.length = m at *
          go_wp2_with fail
          go_roundg (gk - 1)
          case measure => omega
          case rel => exact ⟨rfl, k + 1, by omega, by go_num⟩
        · have hk' : ¬ (k : Int) < (M.length : Int) := by omega
          clear hown hkd
          go_wp2_with fail
          go_ret
          exact ⟨rfl, HB4.out⟩
end Go.Proofs.YthdlfeejeboboaaDoor
