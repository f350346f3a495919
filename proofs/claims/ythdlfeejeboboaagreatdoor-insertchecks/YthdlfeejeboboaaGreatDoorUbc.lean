/- What the finder's walk through a part finds: a node with kids. What the program's Free answers. The trees of CheckBounds, as the rules take them. Plain. Package core: function. Package core: operations. Package core: uses of one kid. Package core: the deferred closure of Check. -/
import Derived.Test.YthdlfeejeboboaaGreatDoorUan
import Derived.KernelRfl
import Derived.Test.YthdlfeejeboboaaGreatDoorUbb
import Derived.Test.YthdlfeejeboboaaGreatDoorUba
import Derived.Test.YthdlfeejeboboaaGreatDoorUat
import Derived.Recover
namespace Go.Proofs.YthdlfeejeboboaaGreatDoor
open Go.RowKit Go.Maps
open Go.WideMaps Go.WideElems
set_option maxRecDepth 100000
set_option linter.unusedSimpArgs false

namespace Tr
end Tr

theorem IsTexts.below {w w' : World} {v : Value} {ps : List (List UInt8)} (h : IsTexts w v ps) (hB : Below w.heap.size w w') : IsTexts w' v ps := by
  rcases h with h | ⟨b, o, c, rfl, h1, h2, h3⟩
  · exact .inl h
  · exact .inr ⟨b, o, c, rfl, h1, Nat.lt_of_lt_of_le h2 hB.size, fun j p hp => (hB.cell (p := ⟨b, o + j, none⟩) h2).trans (h3 j p hp)⟩

end Go.Proofs.YthdlfeejeboboaaGreatDoor
namespace Go.Proofs.YthdlfeejeboboaaGreatDoor
open Go.RowKit Go.Maps
open Go.WideMaps Go.WideElems
set_option maxRecDepth 100000
set_option linter.unusedSimpArgs false

theorem chk_tree {l : List Tr.Nd} (h : (chkN l).1 = 0) : ∃ t, Tr.wf t ∧ l = Tr.flat t ∧ (∀ x ∈ l, Tr.mayB x = true) ∧ l.length ≤ 4096 ∧ Tr.high t ≤ 64 := by
  by_cases hm : l.length = 0 ∨ 4096 < l.length
  · rw [chkN_many hm] at h; simp at h
  rw [chkN_ck hm] at h
  have hr := Tr.ck_ref Tr.mayB (fun x hx => Tr.mayB_kids hx) l [1] 0 0 (by simp)
  rw [hr] at h
  split at h
  · simp at h
  · rename_i hbad
    obtain ⟨hmay, _⟩ := Tr.bad_end hbad
    split at h
    · rename_i hgo
      rw [Tr.go_gs] at hgo
      obtain ⟨t, hw, he⟩ := Tr.whole (l := l) (by simpa [Tr.kd] using hgo)
      refine ⟨t, hw, he, hmay, by omega, ?_⟩
      have hd := Tr.dps_flat t [] 0 [] hw
      rw [List.append_nil, ← he] at hd
      have hdd : Tr.dps (l.map (·.kids)) [1] = Tr.dpT 1 t := by
        have h0 : Tr.dps [] [0] = [] := rfl
        simpa [h0, Tr.kd] using hd
      rw [hdd] at h
      cases hde : Tr.deep (Tr.dpT 1 t) 0 with
      | some j => rw [hde] at h; simp [Tr.fin2] at h
      | none =>
        have key : ∀ (ds : List Nat) (i a : Nat), Tr.deep ds i = none → a ≤ 64 → Tr.mx ds a ≤ 64 := by
          intro ds
          induction ds with
          | nil => intro i a _ ha; exact ha
          | cons d ds ih =>
            intro i a hd ha
            rw [Tr.deep] at hd
            split at hd
            · simp at hd
            · rw [Tr.mx]; exact ih _ _ hd (by omega)
        have := key _ 0 0 hde (by omega)
        rw [Tr.mx_dpT] at this
        omega
    · simp at h

end Go.Proofs.YthdlfeejeboboaaGreatDoor
namespace Go.Proofs.YthdlfeejeboboaaGreatDoor
set_option maxRecDepth 100000
namespace Ck
open T3.Tp (Ty enc)
open Tr (T Nd flat flats wf wfs)

def nod (kind kids : Int) (s t u : List UInt8) : Nd := ⟨kind, kids, 0, ⟨s.toArray⟩, ⟨t.toArray⟩, ⟨u.toArray⟩, 0, 0⟩
end Ck
end Go.Proofs.YthdlfeejeboboaaGreatDoor
namespace Go.Proofs.YthdlfeejeboboaaGreatDoor
open Go.RowKit Co
open T3.Tp (Ty enc cns)
open Tr (T flat flats)
set_option maxRecDepth 100000
set_option linter.unusedSimpArgs false
set_option linter.unusedVariables false

set_option maxHeartbeats 4000000 in
theorem kind_function {B cb : Nat} {nv : Value} {l : List Tr.Nd} {rb N : Nat} {x : Tr.Nd} {ks : List T} {i : Nat} {rest : List Tr.Nd} (h : Kn B cb nv l rb N x ks i rest) (hκ : x.kind = 5) : KindC B cb nv l rb 87 x ks i := by
  intro env bv w hE hen hC
  obtain ⟨a, rfl⟩ := h.one (by rw [hκ]; decide)
  obtain ⟨nb, no, nc, rfl, hlc, hnb, hnc, hcx⟩ := hC.at h.hx
  have hil : i < l.length := (List.getElem?_eq_some_iff.1 h.hx).1
  have hil' : (i : Int) < (l.length : Int) := by omega
  have hi0 : (0 : Int) ≤ (i : Int) := by omega
  have c0 := hC.nod
  obtain ⟨p0, p1, p2, p3, p4, p5, p6, p7⟩ := agg_cells (o := no + i * 8) hcx
  have hr : tyT env (.nd x [a]) i = if goodB x.t = true ∧ goodB x.u = true ∧ sz (.tf (tyS x.t) (tyS x.u)) ≤ 64 then (match tyT (tyS x.t :: env) a (i + 1) with | .error e => .error e | .ok τ => if τ = tyS x.u then .ok (.tf (tyS x.t) (tyS x.u)) else .error (23, i)) else .error (arE x, i) := by
    rw [tyT]
    have hi : inn x env = (tyS x.t :: env) := by unfold inn; simp [hκ]
    have ha : ahd env.length x i = if goodB x.t = true ∧ goodB x.u = true ∧ sz (.tf (tyS x.t) (tyS x.u)) ≤ 64 then Option.none else some (arE x, i) := by
      unfold ahd arE
      simp only [hκ]
      cases goodB x.t <;> cases goodB x.u <;> simp
    rw [ha]
    by_cases hg : goodB x.t = true ∧ goodB x.u = true ∧ sz (.tf (tyS x.t) (tyS x.u)) ≤ 64
    · rw [if_pos hg, if_pos hg]
      show (if x.kind = 8 then _ else match tyL (inn x env) [a] (i + 1) with | Except.error e => Except.error e | Except.ok ts => rul env x i ts) = _
      rw [if_neg (by omega), hi, tyL_one]
      cases tyT (tyS x.t :: env) a (i + 1) with
      | error e => rfl
      | ok τ =>
        show rul env x i [τ] = _
        unfold rul
        simp [hκ]
    · rw [if_neg hg, if_neg hg]
  rw [hr]
  obtain ⟨W1, hW1⟩ : ∃ W1, W1 = w.alloc (.cells #[.int .i8 x.kind, .int .i64 x.kids, .int .i64 x.n, .string x.s, .string x.t, .string x.u, .int .i64 x.ln, .int .i64 x.co] 72) := ⟨_, rfl⟩
  have hB1 : Below w.heap.size w W1 := by rw [hW1]; exact (Below.refl _ _).alloc (Nat.le_refl _) _
  have hz1 : W1.heap.size = w.heap.size + 1 := by rw [hW1]; simp
  have hN1 : W1.heap[w.heap.size]? = some (.cells #[.int .i8 x.kind, .int .i64 x.kids, .int .i64 x.n, .string x.s, .string x.t, .string x.u, .int .i64 x.ln, .int .i64 x.co] 72) := by rw [hW1]; exact heap_alloc_new _ _
  have k0 := (block_cells hN1).1 0
  have k1 := (block_cells hN1).1 1
  have k2 := (block_cells hN1).1 2
  have k3 := (block_cells hN1).1 3
  have k4 := (block_cells hN1).1 4
  have k5 := (block_cells hN1).1 5
  have k6 := (block_cells hN1).1 6
  have k7 := (block_cells hN1).1 7
  by_cases hg : goodB x.t = true ∧ goodB x.u = true ∧ sz (.tf (tyS x.t) (tyS x.u)) ≤ 64
  · rw [if_pos hg]
    have har := carrow_yes x hg.1 hg.2.1 hg.2.2
    have hux := str_good hg.2.1
    have HPt : Aside (∀ (w2 W2 : World) (n : Nat), Below W1.heap.size W1 w2 → (W2 = w2.alloc (.cells #[.string x.t] 9) ∨ W2 = (w2.alloc (.cells #[.string x.t] 9)).drew) → n = w2.heap.size → Calls Tryz.prog 55 #[.pointer (some ⟨cb, 0, none⟩), .slice (some ⟨n, 0, none⟩) 1 1] W2 (fun e w4 => PtEnd B w cb (.slice (some ⟨nb, no, none⟩) l.length nc) bv l rb (i + 1 + (flats [a]).length) env (tyT (tyS x.t :: env) a (i + 1)) e w4 ∧ w4.cell? ⟨w.heap.size, 5, none⟩ = some (.string x.u))) := fun w2 W2 n hB2 hW hn => by
      have hB3 : Below w2.heap.size w2 W2 := by
        rcases hW with hW | hW
        · rw [hW]; exact (Below.refl _ _).alloc (Nat.le_refl _) _
        · rw [hW]; exact below_drew ((Below.refl _ _).alloc (Nat.le_refl _) _)
      have hBd : Bd W2 (.slice (some ⟨n, 0, none⟩) 1 1) [tyS x.t] := by
        rcases hW with hW | hW
        · exact Bd.one (str_good hg.1) hW hn
        · have := Bd.one (W := w2) (str_good hg.1) rfl hn
          rw [hW]
          exact this
      have hBa : Below w.heap.size w W2 := hB1.trans ((hB2.trans (hB3.mono hB2.size)).mono (by omega))
      have hc5 : W2.cell? ⟨w.heap.size, 5, none⟩ = some (.string x.u) := by
        have h1 : Below W1.heap.size W1 W2 := hB2.trans (hB3.mono hB2.size)
        rw [h1.cell (p := ⟨w.heap.size, 5, none⟩) (by show w.heap.size < _; omega)]
        exact k5
      have hlt2 : w.heap.size < W2.heap.size := World.block_lt_of_cell? _ _ hc5
      have hlt := hC.lt
      refine (h.part [tyS x.t] _ (fun t ht => by
        simp at ht
        rcases ht with rfl | ht
        · exact (good_enc hg.1).2
        
        · exact hE t ht) hen (hC.below hBa) hBd).mono ?_
      intro e w4 h4
      have h4' : PtEnd B W2 cb (.slice (some ⟨nb, no, none⟩) l.length nc) bv l rb (i + 1 + (flats [a]).length) env (tyT (tyS x.t :: env) a (i + 1)) e w4 := h4
      have hfr : Fr cb bv W2 w4 := by
        cases hR : tyT (tyS x.t :: env) a (i + 1) with
        | error q => rw [hR] at h4'; exact h4'.2
        | ok τ => rw [hR] at h4'; obtain ⟨_, bv', _, h6⟩ := h4'; exact h6.fr
      refine ⟨?_, ?_⟩
      · cases hR : tyT (tyS x.t :: env) a (i + 1) with
        | error q => rw [hR] at h4'; exact ⟨h4'.1, (Mv.below hBa).thenF h4'.2⟩
        | ok τ =>
          rw [hR] at h4'
          obtain ⟨h5, bv', h6, h7⟩ := h4'
          exact ⟨h5, bv', h6, (Mv.below hBa).trans h7⟩
      · rw [hfr.cell hlt2 (by omega) (fun e => by have := own_lt hC.own _ e.symm; omega)]
        exact hc5
    generalize tyT (tyS x.t :: env) a (i + 1) = R at *
    generalize (flats [a]).length = m at *
    cases R with
    | error q =>
      clear hr hC h hcx hκ hN1 hux
      go_enter Tryz.func87, Tryz.ntmps87
      go_upto_region 2 with fail
      rw [← hW1]
      clear hW1 p0 p1 p2 p3 p4 p5 p6 p7 c0
      go_wp2_with fail
      refine (har _ _).mono ?_
      rintro e w2 ⟨rfl, hB2⟩
      have hPt := fun W2 n => HPt.out w2 W2 n hB2
      have k4' := (hB2.cell (p := ⟨w.heap.size, 4, none⟩) (by show w.heap.size < _; omega)).trans k4
      have k5' := (hB2.cell (p := ⟨w.heap.size, 5, none⟩) (by show w.heap.size < _; omega)).trans k5
      have hlt2 : w.heap.size < w2.heap.size := by have := hB2.size; omega
      clear har HPt k0 k1 k2 k3 k4 k5 k6 k7 hg
      go_wp2_with fail
      go_region_with (go_at_call 55; refine (hPt _ _ (by first | exact .inl rfl | exact .inr rfl) rfl).mono ?_; rintro e w4 ⟨h4, -⟩; have he := h4.1; subst he; refine (fun (_ : wpAny Tryz.prog .any #[] (fun _ _ _ => True) 0 #[] ⟨#[], []⟩ w4) => ⟨rfl, h4⟩) ?_)
      all_goals trivial
    | ok τ =>
      show Calls _ _ _ _ (PtEnd B w cb (.slice (some ⟨nb, no, none⟩) l.length nc) bv l rb (i + 1 + m) env (if τ = tyS x.u then .ok (.tf (tyS x.t) (tyS x.u)) else .error (23, i)))
      by_cases hτ : τ = tyS x.u
      · rw [if_pos hτ]
        subst hτ
        have hS : ∀ (i : Int) (w : World), Calls Tryz.prog 150 #[.int .i64 i, .string (S (enc (tyS x.u))), .string x.u] w fun en w' => en = .returned (.tuple #[]) ∧ w' = w := fun i w => by
          have := casks_yes (tyS x.u) i w
          rw [← hux] at this ⊢
          exact this
        have HF : Aside (∀ e w4 w5, PtEnd B w cb (.slice (some ⟨nb, no, none⟩) l.length nc) bv l rb (i + 1 + m) env (.ok (tyS x.u)) e w4 → Below w4.heap.size w4 w5 → PtEnd B w cb (.slice (some ⟨nb, no, none⟩) l.length nc) bv l rb (i + 1 + m) env (.ok (.tf (tyS x.t) (tyS x.u))) (.returned (.string (S (enc (.tf (tyS x.t) (tyS x.u)))))) w5) := fun e w4 w5 h4 hB => by
          obtain ⟨_, bv', h6, h7⟩ := h4
          exact ⟨rfl, bv', h6.below hB, h7.trans (Mv.below hB)⟩
        clear hr hC h hcx hκ hN1 hux
        go_enter Tryz.func87, Tryz.ntmps87
        go_upto_region 2 with fail
        rw [← hW1]
        clear hW1 p0 p1 p2 p3 p4 p5 p6 p7 c0
        go_wp2_with fail
        refine (har _ _).mono ?_
        rintro e w2 ⟨rfl, hB2⟩
        have hPt := fun W2 n => HPt.out w2 W2 n hB2
        have k4' := (hB2.cell (p := ⟨w.heap.size, 4, none⟩) (by show w.heap.size < _; omega)).trans k4
        have k5' := (hB2.cell (p := ⟨w.heap.size, 5, none⟩) (by show w.heap.size < _; omega)).trans k5
        have hlt2 : w.heap.size < w2.heap.size := by have := hB2.size; omega
        clear har HPt k0 k1 k2 k3 k4 k5 k6 k7 hg
        go_wp2_with fail
        go_region_with (first | (go_at_call 55; refine (hPt _ _ (by first | exact .inl rfl | exact .inr rfl) rfl).mono ?_; rintro e w4 ⟨h4, hc5⟩; have he := h4.1; subst he; have hfin := HF.out _ w4 w4 h4 (Below.refl _ _)) | (go_at_call 150; refine (hS _ _).mono ?_; rintro e w5 ⟨rfl, hw5⟩; replace hw5 := hw5.symm; subst hw5))
        all_goals
          clear hPt HF hS h4
          go_wp2_with fail
          go_ret
          exact hfin
      · rw [if_neg hτ]
        have hS : ∀ (i : Int) (w : World), Calls Tryz.prog 150 #[.int .i64 i, .string (S (enc τ)), .string x.u] w fun en w' => en = .panicked (thC 23 i) ∧ w' = w := fun i w => by
          have := casks_no τ (tyS x.u) hτ i w
          rw [← hux] at this
          exact this
        have HF : Aside (∀ e w4, PtEnd B w cb (.slice (some ⟨nb, no, none⟩) l.length nc) bv l rb (i + 1 + m) env (.ok τ) e w4 → PtEnd B w cb (.slice (some ⟨nb, no, none⟩) l.length nc) bv l rb (i + 1 + m) env (.error (23, i)) (.panicked (thC 23 i)) w4) := fun e w4 h4 => by
          obtain ⟨_, bv', h6, h7⟩ := h4
          exact ⟨rfl, h7.fr⟩
        clear hr hC h hcx hκ hN1 hux hτ
        go_enter Tryz.func87, Tryz.ntmps87
        go_upto_region 2 with fail
        rw [← hW1]
        clear hW1 p0 p1 p2 p3 p4 p5 p6 p7 c0
        go_wp2_with fail
        refine (har _ _).mono ?_
        rintro e w2 ⟨rfl, hB2⟩
        have hPt := fun W2 n => HPt.out w2 W2 n hB2
        have k4' := (hB2.cell (p := ⟨w.heap.size, 4, none⟩) (by show w.heap.size < _; omega)).trans k4
        have k5' := (hB2.cell (p := ⟨w.heap.size, 5, none⟩) (by show w.heap.size < _; omega)).trans k5
        have hlt2 : w.heap.size < w2.heap.size := by have := hB2.size; omega
        clear har HPt k0 k1 k2 k3 k4 k5 k6 k7 hg
        go_wp2_with fail
        go_region_with (first | (go_at_call 55; refine (hPt _ _ (by first | exact .inl rfl | exact .inr rfl) rfl).mono ?_; rintro e w4 ⟨h4, hc5⟩; have he := h4.1; subst he; have hfin := HF.out _ w4 h4) | (go_at_call 150; refine (hS _ _).mono ?_; rintro e w5 ⟨rfl, hw5⟩; replace hw5 := hw5.symm; subst hw5; refine (fun (_ : wpAny Tryz.prog .any #[] (fun _ _ _ => True) 0 #[] ⟨#[], []⟩ w4) => ⟨rfl, hfin⟩) ?_))
        all_goals trivial
  · rw [if_neg hg]
    have har := carrow_no x hg
    have HF : Aside (∀ w2, Below W1.heap.size W1 w2 → PtEnd B w cb (.slice (some ⟨nb, no, none⟩) l.length nc) bv l rb (i + 1 + (flats [a]).length) env (.error (arE x, i)) (.panicked (thC (arE x) i)) w2) := fun w2 hB => ⟨rfl, Fr.below (hB1.trans (hB.mono (by omega)))⟩
    clear hr hC h hcx hκ hN1 hg
    generalize (flats [a]).length = m at *
    go_enter Tryz.func87, Tryz.ntmps87
    go_upto_region 2 with fail
    rw [← hW1]
    clear hW1 p0 p1 p2 p3 p4 p5 p6 p7 c0
    go_wp2_with fail
    refine (har _ _).mono ?_
    rintro e w2 ⟨rfl, hB2⟩
    have hfin := HF.out w2 hB2
    clear har HF
    go_wp2_with fail
    exact ⟨rfl, hfin⟩
end Go.Proofs.YthdlfeejeboboaaGreatDoor
namespace Go.Proofs.YthdlfeejeboboaaGreatDoor
open Go.RowKit Co
open T3.Tp (Ty enc cns)
open Tr (T flat flats)
set_option maxRecDepth 100000
set_option linter.unusedSimpArgs false
set_option linter.unusedVariables false

set_option maxHeartbeats 2000000 in
theorem kind_reckoning {B cb : Nat} {nv : Value} {l : List Tr.Nd} {rb N : Nat} {x : Tr.Nd} {ks : List T} {i : Nat} {rest : List Tr.Nd} (h : Kn B cb nv l rb N x ks i rest) (hκ : x.kind = 10 ∨ x.kind = 11 ∨ x.kind = 12 ∨ x.kind = 16) : KindC B cb nv l rb 92 x ks i := by
  intro env bv w hE hen hC
  have hA : Calls Tryz.prog 153 #[.pointer (some ⟨cb, 0, none⟩), .int .i64 (i : Int), .string ⟨#[105]⟩] w (AeEnd B w cb nv bv l rb (i + 1 + (flats ks).length) env (aeR .ti i (tyL env ks (i + 1)))) := askEach_any B cb nv l rb N h.hl h.hP x ks i rest env bv w h.hx h.hk h.hw h.hN h.hd hE hen hC .ti
  have hr : tyT env (.nd x ks) i = match aeR .ti i (tyL env ks (i + 1)) with | .error q => .error q | .ok _ => .ok .ti := by
    rw [tyT_plain (by omega)]
    cases tyL env ks (i + 1) with
    | error e => rfl
    | ok ts =>
      have hru : rul env x i ts = if allT .ti ts then .ok .ti else .error (23, i) := by
        unfold rul opT
        rcases hκ with hκ | hκ | hκ | hκ <;> simp [hκ]
      show rul env x i ts = _
      rw [hru]
      simp only [aeR]
      cases allT .ti ts <;> rfl
  rw [hr]
  generalize aeR .ti i (tyL env ks (i + 1)) = R at *
  clear hr hC
  generalize (flats ks).length = m at *
  cases R with
  | error q =>
    have HF : Aside (∀ e w3, AeEnd B w cb nv bv l rb (i + 1 + m) env (.error q) e w3 → e = .panicked (thC q.1 q.2) ∧ PtEnd B w cb nv bv l rb (i + 1 + m) env (.error q) e w3) := fun e w3 h => ⟨h.1, h⟩
    clear h
    go_enter Tryz.func92, Tryz.ntmps92
    go_wp2_with fail
    refine hA.mono ?_
    intro e w3 h3
    obtain ⟨rfl, h4⟩ := HF.out e w3 h3
    clear hA HF h3
    go_wp2_with fail
    exact ⟨rfl, h4⟩
  | ok u =>
    clear h
    go_enter Tryz.func92, Tryz.ntmps92
    go_wp2_with fail
    refine hA.mono ?_
    rintro e w3 ⟨rfl, bv', hC3, hM3⟩
    have h4 : PtEnd B w cb nv bv l rb (i + 1 + m) env (.ok .ti) (.returned (.string ⟨#[105]⟩)) w3 := ⟨rfl, bv', hC3, hM3⟩
    clear hA hC3 hM3
    go_wp2_with fail
    go_ret
    exact h4

set_option maxHeartbeats 2000000 in
theorem kind_comparison {B cb : Nat} {nv : Value} {l : List Tr.Nd} {rb N : Nat} {x : Tr.Nd} {ks : List T} {i : Nat} {rest : List Tr.Nd} (h : Kn B cb nv l rb N x ks i rest) (hκ : x.kind = 14 ∨ x.kind = 15) : KindC B cb nv l rb 94 x ks i := by
  intro env bv w hE hen hC
  have hA : Calls Tryz.prog 153 #[.pointer (some ⟨cb, 0, none⟩), .int .i64 (i : Int), .string ⟨#[105]⟩] w (AeEnd B w cb nv bv l rb (i + 1 + (flats ks).length) env (aeR .ti i (tyL env ks (i + 1)))) := askEach_any B cb nv l rb N h.hl h.hP x ks i rest env bv w h.hx h.hk h.hw h.hN h.hd hE hen hC .ti
  have hr : tyT env (.nd x ks) i = match aeR .ti i (tyL env ks (i + 1)) with | .error q => .error q | .ok _ => .ok .tb := by
    rw [tyT_plain (by omega)]
    cases tyL env ks (i + 1) with
    | error e => rfl
    | ok ts =>
      have hru : rul env x i ts = if allT .ti ts then .ok .tb else .error (23, i) := by
        unfold rul opT
        rcases hκ with hκ | hκ <;> simp [hκ]
      show rul env x i ts = _
      rw [hru]
      simp only [aeR]
      cases allT .ti ts <;> rfl
  rw [hr]
  generalize aeR .ti i (tyL env ks (i + 1)) = R at *
  clear hr hC
  generalize (flats ks).length = m at *
  cases R with
  | error q =>
    have HF : Aside (∀ e w3, AeEnd B w cb nv bv l rb (i + 1 + m) env (.error q) e w3 → e = .panicked (thC q.1 q.2) ∧ PtEnd B w cb nv bv l rb (i + 1 + m) env (.error q) e w3) := fun e w3 h => ⟨h.1, h⟩
    clear h
    go_enter Tryz.func94, Tryz.ntmps94
    go_wp2_with fail
    refine hA.mono ?_
    intro e w3 h3
    obtain ⟨rfl, h4⟩ := HF.out e w3 h3
    clear hA HF h3
    go_wp2_with fail
    exact ⟨rfl, h4⟩
  | ok u =>
    clear h
    go_enter Tryz.func94, Tryz.ntmps94
    go_wp2_with fail
    refine hA.mono ?_
    rintro e w3 ⟨rfl, bv', hC3, hM3⟩
    have h4 : PtEnd B w cb nv bv l rb (i + 1 + m) env (.ok .tb) (.returned (.string ⟨#[98]⟩)) w3 := ⟨rfl, bv', hC3, hM3⟩
    clear hA hC3 hM3
    go_wp2_with fail
    go_ret
    exact h4

set_option maxHeartbeats 2000000 in
theorem kind_join {B cb : Nat} {nv : Value} {l : List Tr.Nd} {rb N : Nat} {x : Tr.Nd} {ks : List T} {i : Nat} {rest : List Tr.Nd} (h : Kn B cb nv l rb N x ks i rest) (hκ : x.kind = 13) : KindC B cb nv l rb 93 x ks i := by
  intro env bv w hE hen hC
  have hA : Calls Tryz.prog 153 #[.pointer (some ⟨cb, 0, none⟩), .int .i64 (i : Int), .string ⟨#[116]⟩] w (AeEnd B w cb nv bv l rb (i + 1 + (flats ks).length) env (aeR .tt i (tyL env ks (i + 1)))) := askEach_any B cb nv l rb N h.hl h.hP x ks i rest env bv w h.hx h.hk h.hw h.hN h.hd hE hen hC .tt
  have hr : tyT env (.nd x ks) i = match aeR .tt i (tyL env ks (i + 1)) with | .error q => .error q | .ok _ => .ok .tt := by
    rw [tyT_plain (by omega)]
    cases tyL env ks (i + 1) with
    | error e => rfl
    | ok ts =>
      have hru : rul env x i ts = if allT .tt ts then .ok .tt else .error (23, i) := by
        unfold rul opT
        simp [hκ]
      show rul env x i ts = _
      rw [hru]
      simp only [aeR]
      cases allT .tt ts <;> rfl
  rw [hr]
  generalize aeR .tt i (tyL env ks (i + 1)) = R at *
  clear hr hC
  generalize (flats ks).length = m at *
  cases R with
  | error q =>
    have HF : Aside (∀ e w3, AeEnd B w cb nv bv l rb (i + 1 + m) env (.error q) e w3 → e = .panicked (thC q.1 q.2) ∧ PtEnd B w cb nv bv l rb (i + 1 + m) env (.error q) e w3) := fun e w3 h => ⟨h.1, h⟩
    clear h
    go_enter Tryz.func93, Tryz.ntmps93
    go_wp2_with fail
    refine hA.mono ?_
    intro e w3 h3
    obtain ⟨rfl, h4⟩ := HF.out e w3 h3
    clear hA HF h3
    go_wp2_with fail
    exact ⟨rfl, h4⟩
  | ok u =>
    clear h
    go_enter Tryz.func93, Tryz.ntmps93
    go_wp2_with fail
    refine hA.mono ?_
    rintro e w3 ⟨rfl, bv', hC3, hM3⟩
    have h4 : PtEnd B w cb nv bv l rb (i + 1 + m) env (.ok .tt) (.returned (.string ⟨#[116]⟩)) w3 := ⟨rfl, bv', hC3, hM3⟩
    clear hA hC3 hM3
    go_wp2_with fail
    go_ret
    exact h4

set_option maxHeartbeats 2000000 in
theorem kind_size {B cb : Nat} {nv : Value} {l : List Tr.Nd} {rb N : Nat} {x : Tr.Nd} {ks : List T} {i : Nat} {rest : List Tr.Nd} (h : Kn B cb nv l rb N x ks i rest) (hκ : x.kind = 17) : KindC B cb nv l rb 95 x ks i := by
  intro env bv w hE hen hC
  have hA : Calls Tryz.prog 153 #[.pointer (some ⟨cb, 0, none⟩), .int .i64 (i : Int), .string ⟨#[116]⟩] w (AeEnd B w cb nv bv l rb (i + 1 + (flats ks).length) env (aeR .tt i (tyL env ks (i + 1)))) := askEach_any B cb nv l rb N h.hl h.hP x ks i rest env bv w h.hx h.hk h.hw h.hN h.hd hE hen hC .tt
  have hr : tyT env (.nd x ks) i = match aeR .tt i (tyL env ks (i + 1)) with | .error q => .error q | .ok _ => .ok .ti := by
    rw [tyT_plain (by omega)]
    cases tyL env ks (i + 1) with
    | error e => rfl
    | ok ts =>
      have hru : rul env x i ts = if allT .tt ts then .ok .ti else .error (23, i) := by
        unfold rul opT
        simp [hκ]
      show rul env x i ts = _
      rw [hru]
      simp only [aeR]
      cases allT .tt ts <;> rfl
  rw [hr]
  generalize aeR .tt i (tyL env ks (i + 1)) = R at *
  clear hr hC
  generalize (flats ks).length = m at *
  cases R with
  | error q =>
    have HF : Aside (∀ e w3, AeEnd B w cb nv bv l rb (i + 1 + m) env (.error q) e w3 → e = .panicked (thC q.1 q.2) ∧ PtEnd B w cb nv bv l rb (i + 1 + m) env (.error q) e w3) := fun e w3 h => ⟨h.1, h⟩
    clear h
    go_enter Tryz.func95, Tryz.ntmps95
    go_wp2_with fail
    refine hA.mono ?_
    intro e w3 h3
    obtain ⟨rfl, h4⟩ := HF.out e w3 h3
    clear hA HF h3
    go_wp2_with fail
    exact ⟨rfl, h4⟩
  | ok u =>
    clear h
    go_enter Tryz.func95, Tryz.ntmps95
    go_wp2_with fail
    refine hA.mono ?_
    rintro e w3 ⟨rfl, bv', hC3, hM3⟩
    have h4 : PtEnd B w cb nv bv l rb (i + 1 + m) env (.ok .ti) (.returned (.string ⟨#[105]⟩)) w3 := ⟨rfl, bv', hC3, hM3⟩
    clear hA hC3 hM3
    go_wp2_with fail
    go_ret
    exact h4
end Go.Proofs.YthdlfeejeboboaaGreatDoor
namespace Go.Proofs.YthdlfeejeboboaaGreatDoor
open Go.RowKit Co
open T3.Tp (Ty enc cns)
open Tr (T flat flats)
set_option maxRecDepth 100000
set_option linter.unusedSimpArgs false
set_option linter.unusedVariables false

set_option maxHeartbeats 2000000 in
theorem kind_first {B cb : Nat} {nv : Value} {l : List Tr.Nd} {rb N : Nat} {x : Tr.Nd} {ks : List T} {i : Nat} {rest : List Tr.Nd} (h : Kn B cb nv l rb N x ks i rest) (hκ : x.kind = 19) : KindC B cb nv l rb 97 x ks i := by
  intro env bv w hE hen hC
  obtain ⟨a, rfl⟩ := h.one (by rw [hκ]; decide)
  have hPt : Calls Tryz.prog 55 #[.pointer (some ⟨cb, 0, none⟩), .slice none 0 0] w (PtEnd B w cb nv bv l rb (i + 1 + (flats [a]).length) env (tyT env a (i + 1))) := h.part [] (.slice none 0 0) hE hen hC (.inl ⟨rfl, rfl⟩)
  have hlen := fun τ => tyT_len a env (i + 1) τ hE
  have hr : tyT env (.nd x [a]) i = match tyT env a (i + 1) with | .error q => .error q | .ok t => rul env x i [t] := by
    rw [tyT_plain (by omega), tyL_one]
    cases tyT env a (i + 1) <;> rfl
  rw [hr]
  have hru : ∀ t, rul env x i [t] = match t with | .tp A C => .ok A | _ => .error (23, i) := by
    intro t
    unfold rul
    simp only [hκ]
    cases t <;> simp
  generalize tyT env a (i + 1) = R at *
  clear hr hC
  generalize (flats [a]).length = m at *
  cases R with
  | error q =>
    have HF : Aside (∀ e w3, PtEnd B w cb nv bv l rb (i + 1 + m) env (.error q) e w3 → e = .panicked (thC q.1 q.2) ∧ PtEnd B w cb nv bv l rb (i + 1 + m) env (.error q) e w3) := fun e w3 h => ⟨h.1, h⟩
    clear h hru hlen
    go_enter Tryz.func97, Tryz.ntmps97
    go_wp2_with fail
    refine hPt.mono ?_
    intro e w3 h3
    obtain ⟨rfl, h4⟩ := HF.out e w3 h3
    clear hPt HF h3
    go_wp2_with fail
    exact ⟨rfl, h4⟩
  | ok t =>
    have h64 := hlen t rfl
    show Calls _ _ _ _ (PtEnd B w cb nv bv l rb (i + 1 + m) env (rul env x i [t]))
    by_cases hh : ∃ A C : Ty, t = .tp A C
    · obtain ⟨A, C, rfl⟩ := hh
      have hap := capart_yes (.tp A C) h64 44 rfl
      rw [hru]
      have HF : Aside (∀ w3 w4 bv', Cs B w3 cb nv bv' l rb (i + 1 + m) env → Mv cb w bv w3 bv' → Below w3.heap.size w3 w4 → PtEnd B w cb nv bv l rb (i + 1 + m) env (.ok A) (.returned (.string (S (enc A)))) w4) := fun w3 w4 bv' h1 h2 h3 => ⟨rfl, bv', h1.below h3, h2.trans (Mv.below h3)⟩
      clear h hru hlen h64
      go_enter Tryz.func97, Tryz.ntmps97
      go_wp2_with fail
      refine hPt.mono ?_
      rintro e w3 ⟨rfl, bv', hC3, hM3⟩
      clear hPt
      go_wp2_with fail
      refine (hap _ _).mono ?_
      rintro e w4 ⟨v, rfl, hT, hB4⟩
      have hfin := HF.out w3 w4 bv' hC3 hM3 hB4
      clear hap HF hC3 hM3 hB4
      have hT' : T3.IsTexts w4 v ([A, C].map enc) := hT
      obtain ⟨va, vc, rfl⟩ := texts_len hT'
      obtain ⟨b, o, rfl, hc1, hb, hcell⟩ := texts_at (k := 0) (t := A) hT' rfl
      simp only [List.length_cons, List.length_nil] at hc1
      try rw [Nat.add_zero] at hcell
      clear hT hT'
      generalize S (T3.Tp.enc A) = sA at *
      go_wp2_with fail
      go_ret
      exact hfin
    · have hne : ((T3.Tp.hd t).toNat : Int) ≠ 44 := by
        intro e
        cases t <;> simp [T3.Tp.hd] at e
        exact hh ⟨_, _, rfl⟩
      have hap := capart_no t h64 44 hne
      have hru2 : rul env x i [t] = .error (23, i) := by
        rw [hru]
        cases t <;> first | rfl | (exfalso; exact hh ⟨_, _, rfl⟩)
      rw [hru2]
      have HF : Aside (∀ w3 bv', Mv cb w bv w3 bv' → PtEnd B w cb nv bv l rb (i + 1 + m) env (.error (23, i)) (.panicked (thC 23 i)) w3) := fun w3 bv' h2 => ⟨rfl, h2.fr⟩
      clear h hru hlen h64 hh hne hru2
      go_enter Tryz.func97, Tryz.ntmps97
      go_wp2_with fail
      refine hPt.mono ?_
      rintro e w3 ⟨rfl, bv', hC3, hM3⟩
      have hfin := HF.out w3 bv' hM3
      clear hPt hC3 hM3 HF
      go_wp2_with fail
      refine (hap _ _).mono ?_
      rintro e w4 ⟨rfl, hw4⟩
      replace hw4 := hw4.symm
      subst hw4
      clear hap
      go_wp2_with fail
      exact ⟨rfl, hfin⟩

set_option maxHeartbeats 2000000 in
theorem kind_second {B cb : Nat} {nv : Value} {l : List Tr.Nd} {rb N : Nat} {x : Tr.Nd} {ks : List T} {i : Nat} {rest : List Tr.Nd} (h : Kn B cb nv l rb N x ks i rest) (hκ : x.kind = 20) : KindC B cb nv l rb 98 x ks i := by
  intro env bv w hE hen hC
  obtain ⟨a, rfl⟩ := h.one (by rw [hκ]; decide)
  have hPt : Calls Tryz.prog 55 #[.pointer (some ⟨cb, 0, none⟩), .slice none 0 0] w (PtEnd B w cb nv bv l rb (i + 1 + (flats [a]).length) env (tyT env a (i + 1))) := h.part [] (.slice none 0 0) hE hen hC (.inl ⟨rfl, rfl⟩)
  have hlen := fun τ => tyT_len a env (i + 1) τ hE
  have hr : tyT env (.nd x [a]) i = match tyT env a (i + 1) with | .error q => .error q | .ok t => rul env x i [t] := by
    rw [tyT_plain (by omega), tyL_one]
    cases tyT env a (i + 1) <;> rfl
  rw [hr]
  have hru : ∀ t, rul env x i [t] = match t with | .tp C A => .ok A | _ => .error (23, i) := by
    intro t
    unfold rul
    simp only [hκ]
    cases t <;> simp
  generalize tyT env a (i + 1) = R at *
  clear hr hC
  generalize (flats [a]).length = m at *
  cases R with
  | error q =>
    have HF : Aside (∀ e w3, PtEnd B w cb nv bv l rb (i + 1 + m) env (.error q) e w3 → e = .panicked (thC q.1 q.2) ∧ PtEnd B w cb nv bv l rb (i + 1 + m) env (.error q) e w3) := fun e w3 h => ⟨h.1, h⟩
    clear h hru hlen
    go_enter Tryz.func98, Tryz.ntmps98
    go_wp2_with fail
    refine hPt.mono ?_
    intro e w3 h3
    obtain ⟨rfl, h4⟩ := HF.out e w3 h3
    clear hPt HF h3
    go_wp2_with fail
    exact ⟨rfl, h4⟩
  | ok t =>
    have h64 := hlen t rfl
    show Calls _ _ _ _ (PtEnd B w cb nv bv l rb (i + 1 + m) env (rul env x i [t]))
    by_cases hh : ∃ A C : Ty, t = .tp C A
    · obtain ⟨A, C, rfl⟩ := hh
      have hap := capart_yes (.tp C A) h64 44 rfl
      rw [hru]
      have HF : Aside (∀ w3 w4 bv', Cs B w3 cb nv bv' l rb (i + 1 + m) env → Mv cb w bv w3 bv' → Below w3.heap.size w3 w4 → PtEnd B w cb nv bv l rb (i + 1 + m) env (.ok A) (.returned (.string (S (enc A)))) w4) := fun w3 w4 bv' h1 h2 h3 => ⟨rfl, bv', h1.below h3, h2.trans (Mv.below h3)⟩
      clear h hru hlen h64
      go_enter Tryz.func98, Tryz.ntmps98
      go_wp2_with fail
      refine hPt.mono ?_
      rintro e w3 ⟨rfl, bv', hC3, hM3⟩
      clear hPt
      go_wp2_with fail
      refine (hap _ _).mono ?_
      rintro e w4 ⟨v, rfl, hT, hB4⟩
      have hfin := HF.out w3 w4 bv' hC3 hM3 hB4
      clear hap HF hC3 hM3 hB4
      have hT' : T3.IsTexts w4 v ([C, A].map enc) := hT
      obtain ⟨va, vc, rfl⟩ := texts_len hT'
      obtain ⟨b, o, rfl, hc1, hb, hcell⟩ := texts_at (k := 1) (t := A) hT' rfl
      simp only [List.length_cons, List.length_nil] at hc1
      try rw [Nat.add_zero] at hcell
      clear hT hT'
      generalize S (T3.Tp.enc A) = sA at *
      go_wp2_with fail
      go_ret
      exact hfin
    · have hne : ((T3.Tp.hd t).toNat : Int) ≠ 44 := by
        intro e
        cases t <;> simp [T3.Tp.hd] at e
        exact hh ⟨_, _, rfl⟩
      have hap := capart_no t h64 44 hne
      have hru2 : rul env x i [t] = .error (23, i) := by
        rw [hru]
        cases t <;> first | rfl | (exfalso; exact hh ⟨_, _, rfl⟩)
      rw [hru2]
      have HF : Aside (∀ w3 bv', Mv cb w bv w3 bv' → PtEnd B w cb nv bv l rb (i + 1 + m) env (.error (23, i)) (.panicked (thC 23 i)) w3) := fun w3 bv' h2 => ⟨rfl, h2.fr⟩
      clear h hru hlen h64 hh hne hru2
      go_enter Tryz.func98, Tryz.ntmps98
      go_wp2_with fail
      refine hPt.mono ?_
      rintro e w3 ⟨rfl, bv', hC3, hM3⟩
      have hfin := HF.out w3 bv' hM3
      clear hPt hC3 hM3 HF
      go_wp2_with fail
      refine (hap _ _).mono ?_
      rintro e w4 ⟨rfl, hw4⟩
      replace hw4 := hw4.symm
      subst hw4
      clear hap
      go_wp2_with fail
      exact ⟨rfl, hfin⟩

set_option maxHeartbeats 2000000 in
theorem kind_head {B cb : Nat} {nv : Value} {l : List Tr.Nd} {rb N : Nat} {x : Tr.Nd} {ks : List T} {i : Nat} {rest : List Tr.Nd} (h : Kn B cb nv l rb N x ks i rest) (hκ : x.kind = 22) : KindC B cb nv l rb 100 x ks i := by
  intro env bv w hE hen hC
  obtain ⟨a, rfl⟩ := h.one (by rw [hκ]; decide)
  have hPt : Calls Tryz.prog 55 #[.pointer (some ⟨cb, 0, none⟩), .slice none 0 0] w (PtEnd B w cb nv bv l rb (i + 1 + (flats [a]).length) env (tyT env a (i + 1))) := h.part [] (.slice none 0 0) hE hen hC (.inl ⟨rfl, rfl⟩)
  have hlen := fun τ => tyT_len a env (i + 1) τ hE
  have hr : tyT env (.nd x [a]) i = match tyT env a (i + 1) with | .error q => .error q | .ok t => rul env x i [t] := by
    rw [tyT_plain (by omega), tyL_one]
    cases tyT env a (i + 1) <;> rfl
  rw [hr]
  have hru : ∀ t, rul env x i [t] = match t with | .tl A => .ok A | _ => .error (23, i) := by
    intro t
    unfold rul
    simp only [hκ]
    cases t <;> simp
  generalize tyT env a (i + 1) = R at *
  clear hr hC
  generalize (flats [a]).length = m at *
  cases R with
  | error q =>
    have HF : Aside (∀ e w3, PtEnd B w cb nv bv l rb (i + 1 + m) env (.error q) e w3 → e = .panicked (thC q.1 q.2) ∧ PtEnd B w cb nv bv l rb (i + 1 + m) env (.error q) e w3) := fun e w3 h => ⟨h.1, h⟩
    clear h hru hlen
    go_enter Tryz.func100, Tryz.ntmps100
    go_wp2_with fail
    refine hPt.mono ?_
    intro e w3 h3
    obtain ⟨rfl, h4⟩ := HF.out e w3 h3
    clear hPt HF h3
    go_wp2_with fail
    exact ⟨rfl, h4⟩
  | ok t =>
    have h64 := hlen t rfl
    show Calls _ _ _ _ (PtEnd B w cb nv bv l rb (i + 1 + m) env (rul env x i [t]))
    by_cases hh : ∃ A : Ty, t = .tl A
    · obtain ⟨A, rfl⟩ := hh
      have hap := capart_yes (.tl A) h64 108 rfl
      rw [hru]
      have HF : Aside (∀ w3 w4 bv', Cs B w3 cb nv bv' l rb (i + 1 + m) env → Mv cb w bv w3 bv' → Below w3.heap.size w3 w4 → PtEnd B w cb nv bv l rb (i + 1 + m) env (.ok A) (.returned (.string (S (enc A)))) w4) := fun w3 w4 bv' h1 h2 h3 => ⟨rfl, bv', h1.below h3, h2.trans (Mv.below h3)⟩
      clear h hru hlen h64
      go_enter Tryz.func100, Tryz.ntmps100
      go_wp2_with fail
      refine hPt.mono ?_
      rintro e w3 ⟨rfl, bv', hC3, hM3⟩
      clear hPt
      go_wp2_with fail
      refine (hap _ _).mono ?_
      rintro e w4 ⟨v, rfl, hT, hB4⟩
      have hfin := HF.out w3 w4 bv' hC3 hM3 hB4
      clear hap HF hC3 hM3 hB4
      have hT' : T3.IsTexts w4 v ([A].map enc) := hT
      obtain ⟨va, vc, rfl⟩ := texts_len hT'
      obtain ⟨b, o, rfl, hc1, hb, hcell⟩ := texts_at (k := 0) (t := A) hT' rfl
      simp only [List.length_cons, List.length_nil] at hc1
      try rw [Nat.add_zero] at hcell
      clear hT hT'
      generalize S (T3.Tp.enc A) = sA at *
      go_wp2_with fail
      go_ret
      exact hfin
    · have hne : ((T3.Tp.hd t).toNat : Int) ≠ 108 := by
        intro e
        cases t <;> simp [T3.Tp.hd] at e
        exact hh ⟨_, rfl⟩
      have hap := capart_no t h64 108 hne
      have hru2 : rul env x i [t] = .error (23, i) := by
        rw [hru]
        cases t <;> first | rfl | (exfalso; exact hh ⟨_, rfl⟩)
      rw [hru2]
      have HF : Aside (∀ w3 bv', Mv cb w bv w3 bv' → PtEnd B w cb nv bv l rb (i + 1 + m) env (.error (23, i)) (.panicked (thC 23 i)) w3) := fun w3 bv' h2 => ⟨rfl, h2.fr⟩
      clear h hru hlen h64 hh hne hru2
      go_enter Tryz.func100, Tryz.ntmps100
      go_wp2_with fail
      refine hPt.mono ?_
      rintro e w3 ⟨rfl, bv', hC3, hM3⟩
      have hfin := HF.out w3 bv' hM3
      clear hPt hC3 hM3 HF
      go_wp2_with fail
      refine (hap _ _).mono ?_
      rintro e w4 ⟨rfl, hw4⟩
      replace hw4 := hw4.symm
      subst hw4
      clear hap
      go_wp2_with fail
      exact ⟨rfl, hfin⟩

set_option maxHeartbeats 2000000 in
theorem kind_tail {B cb : Nat} {nv : Value} {l : List Tr.Nd} {rb N : Nat} {x : Tr.Nd} {ks : List T} {i : Nat} {rest : List Tr.Nd} (h : Kn B cb nv l rb N x ks i rest) (hκ : x.kind = 23) : KindC B cb nv l rb 101 x ks i := by
  intro env bv w hE hen hC
  obtain ⟨a, rfl⟩ := h.one (by rw [hκ]; decide)
  have hPt : Calls Tryz.prog 55 #[.pointer (some ⟨cb, 0, none⟩), .slice none 0 0] w (PtEnd B w cb nv bv l rb (i + 1 + (flats [a]).length) env (tyT env a (i + 1))) := h.part [] (.slice none 0 0) hE hen hC (.inl ⟨rfl, rfl⟩)
  have hlen := fun τ => tyT_len a env (i + 1) τ hE
  have hr : tyT env (.nd x [a]) i = match tyT env a (i + 1) with | .error q => .error q | .ok t => rul env x i [t] := by
    rw [tyT_plain (by omega), tyL_one]
    cases tyT env a (i + 1) <;> rfl
  rw [hr]
  have hru : ∀ t, rul env x i [t] = match t with | .tl A => .ok (.tl A) | _ => .error (23, i) := by
    intro t
    unfold rul
    simp only [hκ]
    cases t <;> simp
  generalize tyT env a (i + 1) = R at *
  clear hr hC
  generalize (flats [a]).length = m at *
  cases R with
  | error q =>
    have HF : Aside (∀ e w3, PtEnd B w cb nv bv l rb (i + 1 + m) env (.error q) e w3 → e = .panicked (thC q.1 q.2) ∧ PtEnd B w cb nv bv l rb (i + 1 + m) env (.error q) e w3) := fun e w3 h => ⟨h.1, h⟩
    clear h hru hlen
    go_enter Tryz.func101, Tryz.ntmps101
    go_wp2_with fail
    refine hPt.mono ?_
    intro e w3 h3
    obtain ⟨rfl, h4⟩ := HF.out e w3 h3
    clear hPt HF h3
    go_wp2_with fail
    exact ⟨rfl, h4⟩
  | ok t =>
    have h64 := hlen t rfl
    show Calls _ _ _ _ (PtEnd B w cb nv bv l rb (i + 1 + m) env (rul env x i [t]))
    by_cases hh : ∃ A : Ty, t = .tl A
    · obtain ⟨A, rfl⟩ := hh
      have hap := capart_yes (.tl A) h64 108 rfl
      rw [hru]
      have HF : Aside (∀ w3 w4 bv', Cs B w3 cb nv bv' l rb (i + 1 + m) env → Mv cb w bv w3 bv' → Below w3.heap.size w3 w4 → PtEnd B w cb nv bv l rb (i + 1 + m) env (.ok (.tl A)) (.returned (.string (S (enc (.tl A))))) w4) := fun w3 w4 bv' h1 h2 h3 => ⟨rfl, bv', h1.below h3, h2.trans (Mv.below h3)⟩
      clear h hru hlen h64
      go_enter Tryz.func101, Tryz.ntmps101
      go_wp2_with fail
      refine hPt.mono ?_
      rintro e w3 ⟨rfl, bv', hC3, hM3⟩
      clear hPt
      go_wp2_with fail
      refine (hap _ _).mono ?_
      rintro e w4 ⟨v, rfl, hT, hB4⟩
      have hfin := HF.out w3 w4 bv' hC3 hM3 hB4
      clear hap HF hC3 hM3 hB4
      clear hT
      go_wp2_with fail
      go_ret
      exact hfin
    · have hne : ((T3.Tp.hd t).toNat : Int) ≠ 108 := by
        intro e
        cases t <;> simp [T3.Tp.hd] at e
        exact hh ⟨_, rfl⟩
      have hap := capart_no t h64 108 hne
      have hru2 : rul env x i [t] = .error (23, i) := by
        rw [hru]
        cases t <;> first | rfl | (exfalso; exact hh ⟨_, rfl⟩)
      rw [hru2]
      have HF : Aside (∀ w3 bv', Mv cb w bv w3 bv' → PtEnd B w cb nv bv l rb (i + 1 + m) env (.error (23, i)) (.panicked (thC 23 i)) w3) := fun w3 bv' h2 => ⟨rfl, h2.fr⟩
      clear h hru hlen h64 hh hne hru2
      go_enter Tryz.func101, Tryz.ntmps101
      go_wp2_with fail
      refine hPt.mono ?_
      rintro e w3 ⟨rfl, bv', hC3, hM3⟩
      have hfin := HF.out w3 bv' hM3
      clear hPt hC3 hM3 HF
      go_wp2_with fail
      refine (hap _ _).mono ?_
      rintro e w4 ⟨rfl, hw4⟩
      replace hw4 := hw4.symm
      subst hw4
      clear hap
      go_wp2_with fail
      exact ⟨rfl, hfin⟩

set_option maxHeartbeats 2000000 in
theorem kind_empty {B cb : Nat} {nv : Value} {l : List Tr.Nd} {rb N : Nat} {x : Tr.Nd} {ks : List T} {i : Nat} {rest : List Tr.Nd} (h : Kn B cb nv l rb N x ks i rest) (hκ : x.kind = 24) : KindC B cb nv l rb 102 x ks i := by
  intro env bv w hE hen hC
  obtain ⟨a, rfl⟩ := h.one (by rw [hκ]; decide)
  have hPt : Calls Tryz.prog 55 #[.pointer (some ⟨cb, 0, none⟩), .slice none 0 0] w (PtEnd B w cb nv bv l rb (i + 1 + (flats [a]).length) env (tyT env a (i + 1))) := h.part [] (.slice none 0 0) hE hen hC (.inl ⟨rfl, rfl⟩)
  have hlen := fun τ => tyT_len a env (i + 1) τ hE
  have hr : tyT env (.nd x [a]) i = match tyT env a (i + 1) with | .error q => .error q | .ok t => rul env x i [t] := by
    rw [tyT_plain (by omega), tyL_one]
    cases tyT env a (i + 1) <;> rfl
  rw [hr]
  have hru : ∀ t, rul env x i [t] = match t with | .tl A => .ok .tb | _ => .error (23, i) := by
    intro t
    unfold rul
    simp only [hκ]
    cases t <;> simp
  generalize tyT env a (i + 1) = R at *
  clear hr hC
  generalize (flats [a]).length = m at *
  cases R with
  | error q =>
    have HF : Aside (∀ e w3, PtEnd B w cb nv bv l rb (i + 1 + m) env (.error q) e w3 → e = .panicked (thC q.1 q.2) ∧ PtEnd B w cb nv bv l rb (i + 1 + m) env (.error q) e w3) := fun e w3 h => ⟨h.1, h⟩
    clear h hru hlen
    go_enter Tryz.func102, Tryz.ntmps102
    go_wp2_with fail
    refine hPt.mono ?_
    intro e w3 h3
    obtain ⟨rfl, h4⟩ := HF.out e w3 h3
    clear hPt HF h3
    go_wp2_with fail
    exact ⟨rfl, h4⟩
  | ok t =>
    have h64 := hlen t rfl
    show Calls _ _ _ _ (PtEnd B w cb nv bv l rb (i + 1 + m) env (rul env x i [t]))
    by_cases hh : ∃ A : Ty, t = .tl A
    · obtain ⟨A, rfl⟩ := hh
      have hap := capart_yes (.tl A) h64 108 rfl
      rw [hru]
      have HF : Aside (∀ w3 w4 bv', Cs B w3 cb nv bv' l rb (i + 1 + m) env → Mv cb w bv w3 bv' → Below w3.heap.size w3 w4 → PtEnd B w cb nv bv l rb (i + 1 + m) env (.ok .tb) (.returned (.string (S (enc .tb)))) w4) := fun w3 w4 bv' h1 h2 h3 => ⟨rfl, bv', h1.below h3, h2.trans (Mv.below h3)⟩
      clear h hru hlen h64
      go_enter Tryz.func102, Tryz.ntmps102
      go_wp2_with fail
      refine hPt.mono ?_
      rintro e w3 ⟨rfl, bv', hC3, hM3⟩
      clear hPt
      go_wp2_with fail
      refine (hap _ _).mono ?_
      rintro e w4 ⟨v, rfl, hT, hB4⟩
      have hfin := HF.out w3 w4 bv' hC3 hM3 hB4
      clear hap HF hC3 hM3 hB4
      clear hT
      go_wp2_with fail
      go_ret
      exact hfin
    · have hne : ((T3.Tp.hd t).toNat : Int) ≠ 108 := by
        intro e
        cases t <;> simp [T3.Tp.hd] at e
        exact hh ⟨_, rfl⟩
      have hap := capart_no t h64 108 hne
      have hru2 : rul env x i [t] = .error (23, i) := by
        rw [hru]
        cases t <;> first | rfl | (exfalso; exact hh ⟨_, rfl⟩)
      rw [hru2]
      have HF : Aside (∀ w3 bv', Mv cb w bv w3 bv' → PtEnd B w cb nv bv l rb (i + 1 + m) env (.error (23, i)) (.panicked (thC 23 i)) w3) := fun w3 bv' h2 => ⟨rfl, h2.fr⟩
      clear h hru hlen h64 hh hne hru2
      go_enter Tryz.func102, Tryz.ntmps102
      go_wp2_with fail
      refine hPt.mono ?_
      rintro e w3 ⟨rfl, bv', hC3, hM3⟩
      have hfin := HF.out w3 bv' hM3
      clear hPt hC3 hM3 HF
      go_wp2_with fail
      refine (hap _ _).mono ?_
      rintro e w4 ⟨rfl, hw4⟩
      replace hw4 := hw4.symm
      subst hw4
      clear hap
      go_wp2_with fail
      exact ⟨rfl, hfin⟩

set_option maxHeartbeats 2000000 in
theorem kind_get {B cb : Nat} {nv : Value} {l : List Tr.Nd} {rb N : Nat} {x : Tr.Nd} {ks : List T} {i : Nat} {rest : List Tr.Nd} (h : Kn B cb nv l rb N x ks i rest) (hκ : x.kind = 27) : KindC B cb nv l rb 105 x ks i := by
  intro env bv w hE hen hC
  obtain ⟨a, rfl⟩ := h.one (by rw [hκ]; decide)
  have hPt : Calls Tryz.prog 55 #[.pointer (some ⟨cb, 0, none⟩), .slice none 0 0] w (PtEnd B w cb nv bv l rb (i + 1 + (flats [a]).length) env (tyT env a (i + 1))) := h.part [] (.slice none 0 0) hE hen hC (.inl ⟨rfl, rfl⟩)
  have hlen := fun τ => tyT_len a env (i + 1) τ hE
  have hr : tyT env (.nd x [a]) i = match tyT env a (i + 1) with | .error q => .error q | .ok t => rul env x i [t] := by
    rw [tyT_plain (by omega), tyL_one]
    cases tyT env a (i + 1) <;> rfl
  rw [hr]
  have hru : ∀ t, rul env x i [t] = match t with | .tx A => .ok A | _ => .error (23, i) := by
    intro t
    unfold rul
    simp only [hκ]
    cases t <;> simp
  generalize tyT env a (i + 1) = R at *
  clear hr hC
  generalize (flats [a]).length = m at *
  cases R with
  | error q =>
    have HF : Aside (∀ e w3, PtEnd B w cb nv bv l rb (i + 1 + m) env (.error q) e w3 → e = .panicked (thC q.1 q.2) ∧ PtEnd B w cb nv bv l rb (i + 1 + m) env (.error q) e w3) := fun e w3 h => ⟨h.1, h⟩
    clear h hru hlen
    go_enter Tryz.func105, Tryz.ntmps105
    go_wp2_with fail
    refine hPt.mono ?_
    intro e w3 h3
    obtain ⟨rfl, h4⟩ := HF.out e w3 h3
    clear hPt HF h3
    go_wp2_with fail
    exact ⟨rfl, h4⟩
  | ok t =>
    have h64 := hlen t rfl
    show Calls _ _ _ _ (PtEnd B w cb nv bv l rb (i + 1 + m) env (rul env x i [t]))
    by_cases hh : ∃ A : Ty, t = .tx A
    · obtain ⟨A, rfl⟩ := hh
      have hap := capart_yes (.tx A) h64 120 rfl
      rw [hru]
      have HF : Aside (∀ w3 w4 bv', Cs B w3 cb nv bv' l rb (i + 1 + m) env → Mv cb w bv w3 bv' → Below w3.heap.size w3 w4 → PtEnd B w cb nv bv l rb (i + 1 + m) env (.ok A) (.returned (.string (S (enc A)))) w4) := fun w3 w4 bv' h1 h2 h3 => ⟨rfl, bv', h1.below h3, h2.trans (Mv.below h3)⟩
      clear h hru hlen h64
      go_enter Tryz.func105, Tryz.ntmps105
      go_wp2_with fail
      refine hPt.mono ?_
      rintro e w3 ⟨rfl, bv', hC3, hM3⟩
      clear hPt
      go_wp2_with fail
      refine (hap _ _).mono ?_
      rintro e w4 ⟨v, rfl, hT, hB4⟩
      have hfin := HF.out w3 w4 bv' hC3 hM3 hB4
      clear hap HF hC3 hM3 hB4
      have hT' : T3.IsTexts w4 v ([A].map enc) := hT
      obtain ⟨va, vc, rfl⟩ := texts_len hT'
      obtain ⟨b, o, rfl, hc1, hb, hcell⟩ := texts_at (k := 0) (t := A) hT' rfl
      simp only [List.length_cons, List.length_nil] at hc1
      try rw [Nat.add_zero] at hcell
      clear hT hT'
      generalize S (T3.Tp.enc A) = sA at *
      go_wp2_with fail
      go_ret
      exact hfin
    · have hne : ((T3.Tp.hd t).toNat : Int) ≠ 120 := by
        intro e
        cases t <;> simp [T3.Tp.hd] at e
        exact hh ⟨_, rfl⟩
      have hap := capart_no t h64 120 hne
      have hru2 : rul env x i [t] = .error (23, i) := by
        rw [hru]
        cases t <;> first | rfl | (exfalso; exact hh ⟨_, rfl⟩)
      rw [hru2]
      have HF : Aside (∀ w3 bv', Mv cb w bv w3 bv' → PtEnd B w cb nv bv l rb (i + 1 + m) env (.error (23, i)) (.panicked (thC 23 i)) w3) := fun w3 bv' h2 => ⟨rfl, h2.fr⟩
      clear h hru hlen h64 hh hne hru2
      go_enter Tryz.func105, Tryz.ntmps105
      go_wp2_with fail
      refine hPt.mono ?_
      rintro e w3 ⟨rfl, bv', hC3, hM3⟩
      have hfin := HF.out w3 bv' hM3
      clear hPt hC3 hM3 HF
      go_wp2_with fail
      refine (hap _ _).mono ?_
      rintro e w4 ⟨rfl, hw4⟩
      replace hw4 := hw4.symm
      subst hw4
      clear hap
      go_wp2_with fail
      exact ⟨rfl, hfin⟩
end Go.Proofs.YthdlfeejeboboaaGreatDoor
namespace Go.Proofs.YthdlfeejeboboaaGreatDoor
open Go.RowKit Co
set_option maxRecDepth 100000
set_option linter.unusedSimpArgs false

theorem dcatch_idle (p q r : Addr) (w : World) :
    CallsD Tryz.prog 52 #[.pointer (some p), .pointer (some q), .pointer (some r)] .returning w fun e u' w' => e = .returned (.tuple #[]) ∧ u' = .returning ∧ w' = w := by
  refine callsD_of_wpS Tryz.func52 rfl fun c₀ cs hu => ?_
  apply wpS_seq
  apply wpS_region
  simp [wpOpsS, go_sem, recoverD, hu, Tryz.ntmps52, Exit.thenS]
  apply wpS_seq
  apply wpS_seq
  apply wpS_region
  simp [wpOpsS, go_sem, Exit.thenS]
  refine wpS_cond (t := true) (by simp [Act.eval, Array.replicate]) ?_
  simp only [if_true]
  refine wpS_of_wp (wp_ret ?_)
  cases c₀
  simp_all [Exit.thenS, bodyPostS, results, Tryz.results52]

set_option maxHeartbeats 2000000 in
theorem dcatch_panicking (bp bq br : Nat) (s : ByteArray) (x y : Int) (c k : Int) (older : List PanicEntry) (w : World) (hp : w.cell? ⟨bp, 0, none⟩ = some (.string s)) (hq : w.cell? ⟨bq, 0, none⟩ = some (.int .i64 x)) (hr : w.cell? ⟨br, 0, none⟩ = some (.int .i64 y)) (fp : w.frozen? ⟨bp, 0, none⟩ = false) (fq : w.frozen? ⟨bq, 0, none⟩ = false) (fr : w.frozen? ⟨br, 0, none⟩ = false) (h1 : bp ≠ bq) (h2 : bp ≠ br) (h3 : bq ≠ br) (hpl : bp < w.heap.size) (hql : bq < w.heap.size) (hrl : br < w.heap.size) :
    CallsD Tryz.prog 52 #[.pointer (some ⟨bp, 0, none⟩), .pointer (some ⟨bq, 0, none⟩), .pointer (some ⟨br, 0, none⟩)] (.panicking ({ v := .iface 101 (.agg #[.int .i64 c, .int .i64 k]), recovered := false } :: older)) w fun e u' w' =>
      e = .returned (.tuple #[]) ∧ u' = .panicking ({ v := .iface 101 (.agg #[.int .i64 c, .int .i64 k]), recovered := true } :: older) ∧ w' = ((((w.setCell ⟨bp, 0, none⟩ (.string ⟨#[]⟩)).setCell ⟨bq, 0, none⟩ (.int .i64 c)).setCell ⟨br, 0, none⟩ (.int .i64 k)).alloc (.cells #[.int .i64 c, .int .i64 k] 101)).drew := by
  refine callsD_of_wpS Tryz.func52 rfl fun c₀ cs hu => ?_
  apply wpS_seq
  apply wpS_region
  simp [wpOpsS, go_sem, recoverD, hu, Tryz.ntmps52, Exit.thenS]
  apply wpS_seq
  apply wpS_seq
  apply wpS_region
  simp [wpOpsS, go_sem, Exit.thenS]
  refine wpS_cond (t := false) (by simp [Act.eval, Array.replicate]) ?_
  simp only [Bool.false_eq_true, if_false]
  refine wpS_of_wp (wp_skip ?_)
  simp only [Exit.thenS]
  have hta : ∀ w : World, (Instr.typeAssert (.iface 101 (.agg #[.int .i64 c, .int .i64 k])) 20 101 true).run Tryz.prog w = .ok (.tuple #[.agg #[.int .i64 c, .int .i64 k], .bool true]) w := fun w => by kernel_rfl
  apply wpS_seq
  apply wpS_region
  simp [wpOpsS, go_sem, Exit.thenS, hta]
  apply wpS_seq
  apply wpS_seq
  apply wpS_region
  simp [wpOpsS, go_sem, Exit.thenS]
  refine wpS_cond (t := false) (by simp [Act.eval, Array.replicate]) ?_
  simp only [Bool.false_eq_true, if_false]
  refine wpS_of_wp (wp_skip ?_)
  simp only [Exit.thenS]
  refine wpS_of_wp ?_
  go_region
  all_goals
    simp [bodyPostS, results, Tryz.results52, go_sem]
end Go.Proofs.YthdlfeejeboboaaGreatDoor
