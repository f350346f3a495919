/- How a reading of an expression ends; nodes above their kids. What a rule of the parser reads. Annotations, as the rows of expressions ask for them. What stands behind fn and rec. What stands behind fn and rec: the words themselves. What stands behind rec. -/
import Derived.Test.YtohjfikjbeafiaaGreatDoorGai
import Derived.Deep.RegionWith
import Derived.Deep.RegionHeld
import Derived.Deep.DeepFit
namespace Go.Proofs.YtohjfikjbeafiaaGreatDoor
open Go.RowKit Ps
set_option maxRecDepth 100000
set_option linter.unusedSimpArgs false

namespace Ps
open Tr (T Nd)
/-- The limits behind types that are too large. -/
def eff (L : List PT) (e : PT) (lm : Lim) (l : List Nat) : Lim := l.foldl (fun m i => { m with p0 := note m.p0 ((tok L e i).ln, (tok L e i).co) }) lm
theorem eff_nil (L : List PT) (e : PT) (lm : Lim) : eff L e lm [] = lm := rfl
theorem eff_app (L : List PT) (e : PT) (lm : Lim) (a b : List Nat) : eff L e lm (a ++ b) = eff L e (eff L e lm a) b := List.foldl_append
theorem lgOf_eff (L : List PT) (e : PT) (lm : Lim) (k : Nat) (t : T2.Tp.Ty) : lgOf L e lm k t = eff L e lm (if (T2.Tp.enc t).length ≤ 64 then [] else [k]) := by
  unfold lgOf
  split <;> rfl
/-- Two rows of one, of two, of three branches. -/
theorem row_of {w : World} {lo b : Nat} (l : List Nat) (r : Nat) (hr : w.heap[r]? = some (.cells (l.map fun x => Value.pointer (some ⟨x, 0, none⟩)).toArray 215 (0, 0))) (h1 : lo < r) (h2 : r < b) : PRow w lo b (.slice (some ⟨r, 0, none⟩) l.length l.length) l := by
  refine .inr ⟨r, 0, l.length, rfl, Nat.le_refl _, h1, h2, fun i x hx => ?_⟩
  rw [Nat.zero_add, (block_cells hr).1]
  simp [hx]
end Ps

/-- How a reading of an expression ends (c: nodes that were counted ahead of it). -/
def ExEnd (w : World) (pb : Nat) (L : List PT) (e : PT) (lm : Lim) (fm am : Value) (nd c : Nat) : Re Tr.T → Ending → World → Prop
  | .error j, e', w' => Threw w pb L e j e' w'
  | .ok (t, j, l), e', w' => ∃ b nd', e' = .returned (.pointer (some ⟨b, 0, none⟩)) ∧ Br w' pb b t ∧ Prs w' pb L e j (eff L e lm l) fm am nd' ∧ nd' + c = nd + sz t ∧ w.grownBy w' (some pb)
theorem ExEnd.ok {w w' : World} {pb : Nat} {L : List PT} {e : PT} {lm : Lim} {fm am : Value} {nd c : Nat} {t : Tr.T} {j : Nat} {l : List Nat} {e' : Ending} (b nd' : Nat) (h1 : e' = .returned (.pointer (some ⟨b, 0, none⟩))) (h2 : Br w' pb b t) (h3 : Prs w' pb L e j (eff L e lm l) fm am nd') (h4 : nd' + c = nd + sz t) (h5 : w.grownBy w' (some pb)) : ExEnd w pb L e lm fm am nd c (.ok (t, j, l)) e' w' := ⟨b, nd', h1, h2, h3, h4, h5⟩
theorem ExEnd.bad {w w' : World} {pb : Nat} {L : List PT} {e : PT} {lm : Lim} {fm am : Value} {nd c : Nat} {j : Nat} {e' : Ending} (h1 : e' = .panicked (thrownP 15 (tok L e j).ln (tok L e j).co)) (h2 : w.grownBy w' (some pb)) : ExEnd w pb L e lm fm am nd c (.error j) e' w' := ⟨h1, h2⟩
/-- A branch above one kid, two kids, three kids. -/
theorem br_up {w : World} {lo b : Nat} {x : Tr.Nd} (l : List Nat) (ts : List Tr.T) (r : Nat) (hb : lo < b) (hblk : w.heap[b]? = some (.cells (bcs x (.slice (some ⟨r, 0, none⟩) l.length l.length)) 229 (0, 0))) (hr : w.heap[r]? = some (.cells (l.map fun x => Value.pointer (some ⟨x, 0, none⟩)).toArray 215 (0, 0))) (h1 : lo < r) (h2 : r < b) (hlen : l.length = ts.length) (hk : ∀ (i c : Nat) (t : Tr.T), l[i]? = some c → ts[i]? = some t → Br w lo c t) (hlt : ∀ (i c : Nat), l[i]? = some c → c < b) : Br w lo b (.nd x ts) :=
  .mk b x ts _ l hb hblk (row_of l r hr h1 h2) hlen hlt hk
end Go.Proofs.YtohjfikjbeafiaaGreatDoor
namespace Go.Proofs.YtohjfikjbeafiaaGreatDoor
open Go.RowKit Ps
set_option maxRecDepth 100000
set_option linter.unusedSimpArgs false

/-- The parser's two maps. -/
def Mp (w : World) (pb : Nat) (fm am : Value) : Prop := ∃ mb ab, fm = .map (some mb) ∧ am = .map (some ab) ∧ mb < pb ∧ ab < pb ∧ IsRules w mb formsF ∧ IsRules w ab atomsF
theorem Mp.grown {w w' : World} {pb : Nat} {fm am : Value} (h : Mp w pb fm am) (hg : w.grownBy w' (some pb)) : Mp w' pb fm am := by
  obtain ⟨mb, ab, h1, h2, h3, h4, h5, h6⟩ := h
  exact ⟨mb, ab, h1, h2, h3, h4, h5.kept hg (by simp; omega), h6.kept hg (by simp; omega)⟩
/-- What a rule reads from a place on. -/
def RuleC (F : Nat) (pb : Nat) (L : List PT) (e : PT) (fm am : Value) (right : Nat → Re Tr.T) (k : Nat) : Prop := ∀ (w : World) (lm : Lim) (nd : Nat), nd + (L.length - k) ≤ 200000 → Mp w pb fm am → Prs w pb L e k lm fm am nd →
  Calls Tryz.prog F #[.pointer (some ⟨pb, 0, none⟩)] w (ExEnd w pb L e lm fm am nd 0 (right k))
theorem grown_drew {w : World} (r : Option Nat) : w.grownBy w.drew r := ⟨rfl, rfl, rfl, Nat.le_refl _, fun _ _ _ => rfl⟩
end Go.Proofs.YtohjfikjbeafiaaGreatDoor
namespace Go.Proofs.YtohjfikjbeafiaaGreatDoor
open Go.RowKit Ps
set_option maxRecDepth 100000
set_option linter.unusedSimpArgs false

theorem ann_note (L : List PT) (k : Nat) : ann L k = match noteT L k with
    | .error j => .error j
    | .ok (none, j) => .ok (none, j, [])
    | .ok (some t, j) => .ok (some t, j, if (T2.Tp.enc t).length ≤ 64 then [] else [k + 1]) := by
  unfold ann noteT wh
  by_cases hs : sg L k = [58]
  · rw [if_pos hs, if_pos hs]
    rw [show tyW' L (k + 1) = tyW L (k + 1) from rfl]
    cases tyW L (k + 1) with
    | error j => rfl
    | ok p => obtain ⟨t, j⟩ := p; rfl
  · rw [if_neg hs, if_neg hs]
theorem annO {w : World} {pb : Nat} {L : List PT} {e : PT} {k : Nat} (lm : Lim) {fm am : Value} {nd : Nat} (h : Prs w pb L e k lm fm am nd) (he : e.kind = 0) {t : Option T2.Tp.Ty} {j : Nat} {l : List Nat} (hr : ann L k = .ok (t, j, l)) :
    Calls Tryz.prog 175 #[.pointer (some ⟨pb, 0, none⟩)] w fun e' w' => e' = .returned (.string (S (valA t))) ∧ Prs w' pb L e j (eff L e lm l) fm am nd ∧ w.grownBy w' (some pb) := by
  have hc := annotation_any he h
  rw [ann_note] at hr
  cases hn : noteT L k with
  | error i => rw [hn] at hr; cases hr
  | ok p =>
    obtain ⟨o, i⟩ := p
    rw [hn] at hr hc
    cases o with
    | none => cases hr; exact hc
    | some u =>
      simp only [Except.ok.injEq, Prod.mk.injEq] at hr
      obtain ⟨rfl, rfl, rfl⟩ := hr
      refine hc.mono ?_
      rintro e1 w1 ⟨h1, h2, h3⟩
      refine ⟨h1, ?_, h3⟩
      rw [← lgOf_eff]
      exact h2
theorem annE {w : World} {pb : Nat} {L : List PT} {e : PT} {k : Nat} (lm : Lim) {fm am : Value} {nd : Nat} (h : Prs w pb L e k lm fm am nd) (he : e.kind = 0) {j : Nat} (hr : ann L k = .error j) :
    Calls Tryz.prog 175 #[.pointer (some ⟨pb, 0, none⟩)] w fun e' w' => Threw w pb L e j e' w' := by
  have hc := annotation_any he h
  rw [ann_note] at hr
  cases hn : noteT L k with
  | error i => rw [hn] at hr hc; cases hr; exact hc
  | ok p =>
    obtain ⟨o, i⟩ := p
    rw [hn] at hr
    cases o <;> cases hr
theorem whO {w : World} {pb : Nat} {L : List PT} {e : PT} {k : Nat} (lm : Lim) {fm am : Value} {nd : Nat} (h : Prs w pb L e k lm fm am nd) (he : e.kind = 0) {t : T2.Tp.Ty} {j : Nat} {l : List Nat} (hr : wh L k = .ok (t, j, l)) :
    Calls Tryz.prog 61 #[.pointer (some ⟨pb, 0, none⟩)] w fun e' w' => e' = .returned (.string (S (T2.Tp.val t))) ∧ Prs w' pb L e j (eff L e lm l) fm am nd ∧ w.grownBy w' (some pb) := by
  have hc := written_any he h
  unfold wh at hr
  cases hn : tyW L k with
  | error i => rw [show tyW' L k = .error i from hn] at hr; cases hr
  | ok p =>
    obtain ⟨u, i⟩ := p
    rw [show tyW' L k = .ok (u, i) from hn] at hr
    rw [hn] at hc
    simp only [Except.ok.injEq, Prod.mk.injEq] at hr
    obtain ⟨rfl, rfl, rfl⟩ := hr
    refine hc.mono ?_
    rintro e1 w1 ⟨h1, h2, h3⟩
    exact ⟨h1, by rw [← lgOf_eff]; exact h2, h3⟩
theorem whE {w : World} {pb : Nat} {L : List PT} {e : PT} {k : Nat} (lm : Lim) {fm am : Value} {nd : Nat} (h : Prs w pb L e k lm fm am nd) (he : e.kind = 0) {j : Nat} (hr : wh L k = .error j) :
    Calls Tryz.prog 61 #[.pointer (some ⟨pb, 0, none⟩)] w fun e' w' => Threw w pb L e j e' w' := by
  have hc := written_any he h
  unfold wh at hr
  cases hn : tyW L k with
  | error i => rw [show tyW' L k = .error i from hn] at hr; rw [hn] at hc; cases hr; exact hc
  | ok p => obtain ⟨u, i⟩ := p; rw [show tyW' L k = .ok (u, i) from hn] at hr; cases hr
theorem set_ne6 {w : World} {b o k : Nat} {u : Value} (h : b ≠ k) : (w.setCell ⟨b, o, none⟩ u).heap[k]? = w.heap[k]? := Below.heap_setCell _ _ _ _ (by simpa using Ne.symm h)
end Go.Proofs.YtohjfikjbeafiaaGreatDoor
namespace Go.Proofs.YtohjfikjbeafiaaGreatDoor
open Go.RowKit Ps
set_option maxRecDepth 100000
set_option linter.unusedSimpArgs false

theorem S_app (a b : List UInt8) : S a ++ S b = S (a ++ b) := by apply ByteArray.ext; simp [S]
set_option maxHeartbeats 4000000 in
theorem lambda_any {w : World} {pb : Nat} {L : List PT} {e : PT} {k : Nat} {lm : Lim} {fm am : Value} {nd : Nat} {ex : Nat → Re Tr.T} (he : e.kind = 0) (hTS : ∀ j, (tok L e j).s.length ≤ 65536) (hx : PX L ex) (hE : ∀ j, k < j → RuleC 149 pb L e fm am ex j) (hnd : nd + (L.length - k) ≤ 200000) (hM : Mp w pb fm am) (h : Prs w pb L e k lm fm am nd) (kind : Int) (p : PT) (ahead : List UInt8) (hah : ahead.length ≤ 100000) :
    Calls Tryz.prog 174 #[.pointer (some ⟨pb, 0, none⟩), .int .i8 kind, .agg #[.int .i64 p.ln, .int .i64 p.co], .string (S ahead)] w (ExEnd w pb L e lm fm am nd 0 (lam L e ex kind p ahead k)) := by
  have hlt := h.lt
  have hkl := h.at'
  by_cases hs0 : sg L k = [40]
  · have q0 : expc L e [40] k = .ok (tok L e k, k + 1, []) := by unfold expc; rw [if_pos hs0]
    have hk0 := sg_lt hs0
    have HS0 : Aside (sg L k = [40]) := hs0
    clear hs0
    by_cases hs1 : kd L (k + 1) = 2
    · have q1 : nam L e (k + 1) = .ok (tok L e (k + 1), (k + 1) + 1, []) := by unfold nam; rw [if_pos hs1]
      have hk1 := (nam_lt q1).2
      have HS1 : Aside (kd L (k + 1) = 2) := hs1
      clear hs1
      cases q2 : ann L ((k + 1) + 1) with
      | error jt =>
        have hr2 : ann L ((k + 1) + 1) = .error jt := q2
        have hres : lam L e ex kind p ahead k = .error jt := by
          simp only [lam, q0, q1, hr2, bnd]
        rw [hres]
        clear hres q0 q1
        go_enter Tryz.func174, Tryz.ntmps174
        have hBa1 : Below w.heap.size w (w.alloc (.cells #[.int .i64 p.ln, .int .i64 p.co] 28)) := (Below.refl _ _).alloc (Nat.le_refl _) _
        have PP1 := h.kept hBa1
        have GG1 : w.grownBy (w.alloc (.cells #[.int .i64 p.ln, .int .i64 p.co] 28)) (some pb) := grownBy_below (grownBy_refl w (some pb)) hBa1
        have hlB1 := h.lt
        have kp1 : (w.alloc (.cells #[.int .i64 p.ln, .int .i64 p.co] 28)).heap[w.heap.size]? = some (.cells #[.int .i64 p.ln, .int .i64 p.co] 28) := heap_alloc_new _ _
        clear hBa1
        have hc2 := pexpect_yes PP1 he 40 [] HS0.out
        go_wp2_with fail
        refine hc2.mono ?_
        rintro ee2 ww2 ⟨rfl, PP2, gg2⟩
        have kb2_0 := (gg2.block w.heap.size (Array.getElem?_eq_some_iff.1 kp1).1 (by simp; omega)).trans kp1
        have GG2 := grownBy_trans GG1 gg2
        have hl2 := PP2.lt
        clear hc2 gg2
        have hc3 := pname_yes PP2 he HS1.out
        go_wp2_with fail
        refine hc3.mono ?_
        rintro ee3 ww3 ⟨rfl, PP3, gg3⟩
        have kb3_0 := (gg3.block w.heap.size (Array.getElem?_eq_some_iff.1 kb2_0).1 (by simp; omega)).trans kb2_0
        have GG3 := grownBy_trans GG2 gg3
        have hl3 := PP3.lt
        clear hc3 gg3
        unfold tagg
        have hfS1 := fldS (.int .i8 (tok L e (k + 1)).kind) (.int .i64 (tok L e (k + 1)).n) (.string (S (tok L e (k + 1)).s)) (.int .i64 (tok L e (k + 1)).ln) (.int .i64 (tok L e (k + 1)).co)
        have hc4 := annE lm PP3 he hr2
        go_wp2_with fail
        refine hc4.mono ?_
        rintro ee4 ww4 ⟨rfl, gg4⟩
        have GG4 := grownBy_trans GG3 gg4
        clear hc4 gg4
        go_wp2_with fail
        exact ⟨rfl, ExEnd.bad rfl GG4⟩
      | ok qq2 =>
        obtain ⟨t, jt, lt⟩ := qq2
        have hr2 : ann L ((k + 1) + 1) = .ok (t, jt, lt) := q2
        have hxt := ann_ok (by omega) hr2
        clear q2
        by_cases hs3 : sg L jt = [41]
        · have q3 : expc L e [41] jt = .ok (tok L e jt, jt + 1, []) := by unfold expc; rw [if_pos hs3]
          have hk3 := sg_lt hs3
          have HS3 : Aside (sg L jt = [41]) := hs3
          clear hs3
          cases q4 : ann L (jt + 1) with
          | error ju =>
            have hr4 : ann L (jt + 1) = .error ju := q4
            have hres : lam L e ex kind p ahead k = .error ju := by
              simp only [lam, q0, q1, hr2, q3, hr4, bnd]
            rw [hres]
            clear hres q0 q1 q3
            go_enter Tryz.func174, Tryz.ntmps174
            have hBa1 : Below w.heap.size w (w.alloc (.cells #[.int .i64 p.ln, .int .i64 p.co] 28)) := (Below.refl _ _).alloc (Nat.le_refl _) _
            have PP1 := h.kept hBa1
            have GG1 : w.grownBy (w.alloc (.cells #[.int .i64 p.ln, .int .i64 p.co] 28)) (some pb) := grownBy_below (grownBy_refl w (some pb)) hBa1
            have hlB1 := h.lt
            have kp1 : (w.alloc (.cells #[.int .i64 p.ln, .int .i64 p.co] 28)).heap[w.heap.size]? = some (.cells #[.int .i64 p.ln, .int .i64 p.co] 28) := heap_alloc_new _ _
            clear hBa1
            have hc2 := pexpect_yes PP1 he 40 [] HS0.out
            go_wp2_with fail
            refine hc2.mono ?_
            rintro ee2 ww2 ⟨rfl, PP2, gg2⟩
            have kb2_0 := (gg2.block w.heap.size (Array.getElem?_eq_some_iff.1 kp1).1 (by simp; omega)).trans kp1
            have GG2 := grownBy_trans GG1 gg2
            have hl2 := PP2.lt
            clear hc2 gg2
            have hc3 := pname_yes PP2 he HS1.out
            go_wp2_with fail
            refine hc3.mono ?_
            rintro ee3 ww3 ⟨rfl, PP3, gg3⟩
            have kb3_0 := (gg3.block w.heap.size (Array.getElem?_eq_some_iff.1 kb2_0).1 (by simp; omega)).trans kb2_0
            have GG3 := grownBy_trans GG2 gg3
            have hl3 := PP3.lt
            clear hc3 gg3
            unfold tagg
            have hfS1 := fldS (.int .i8 (tok L e (k + 1)).kind) (.int .i64 (tok L e (k + 1)).n) (.string (S (tok L e (k + 1)).s)) (.int .i64 (tok L e (k + 1)).ln) (.int .i64 (tok L e (k + 1)).co)
            have hc4 := annO lm PP3 he hr2
            go_wp2_with fail
            refine hc4.mono ?_
            rintro ee4 ww4 ⟨rfl, PP4, gg4⟩
            have kb4_0 := (gg4.block w.heap.size (Array.getElem?_eq_some_iff.1 kb3_0).1 (by simp; omega)).trans kb3_0
            have GG4 := grownBy_trans GG3 gg4
            have hl4 := PP4.lt
            clear hc4 gg4
            have hc5 := pexpect_yes PP4 he 41 [] HS3.out
            go_wp2_with fail
            refine hc5.mono ?_
            rintro ee5 ww5 ⟨rfl, PP5, gg5⟩
            have kb5_0 := (gg5.block w.heap.size (Array.getElem?_eq_some_iff.1 kb4_0).1 (by simp; omega)).trans kb4_0
            have GG5 := grownBy_trans GG4 gg5
            have hl5 := PP5.lt
            clear hc5 gg5
            have hc6 := annE (eff L e lm lt) PP5 he hr4
            go_wp2_with fail
            refine hc6.mono ?_
            rintro ee6 ww6 ⟨rfl, gg6⟩
            have GG6 := grownBy_trans GG5 gg6
            clear hc6 gg6
            go_wp2_with fail
            exact ⟨rfl, ExEnd.bad rfl GG6⟩
          | ok qq4 =>
            obtain ⟨u, ju, lu⟩ := qq4
            have hr4 : ann L (jt + 1) = .ok (u, ju, lu) := q4
            have hxu := ann_ok (by omega) hr4
            clear q4
            by_cases hs5 : sg L ju = [61, 62]
            · have q5 : expc L e [61, 62] ju = .ok (tok L e ju, ju + 1, []) := by unfold expc; rw [if_pos hs5]
              have hk5 := sg_lt hs5
              have HS5 : Aside (sg L ju = [61, 62]) := hs5
              clear hs5
              cases q6 : ex (ju + 1) with
              | error jb =>
                have hr6 : ex (ju + 1) = .error jb := q6
                have hres : lam L e ex kind p ahead k = .error jb := by
                  simp only [lam, q0, q1, hr2, q3, hr4, q5, hr6, bnd]
                rw [hres]
                clear hres q0 q1 q3 q5
                go_enter Tryz.func174, Tryz.ntmps174
                have hBa1 : Below w.heap.size w (w.alloc (.cells #[.int .i64 p.ln, .int .i64 p.co] 28)) := (Below.refl _ _).alloc (Nat.le_refl _) _
                have PP1 := h.kept hBa1
                have GG1 : w.grownBy (w.alloc (.cells #[.int .i64 p.ln, .int .i64 p.co] 28)) (some pb) := grownBy_below (grownBy_refl w (some pb)) hBa1
                have hlB1 := h.lt
                have kp1 : (w.alloc (.cells #[.int .i64 p.ln, .int .i64 p.co] 28)).heap[w.heap.size]? = some (.cells #[.int .i64 p.ln, .int .i64 p.co] 28) := heap_alloc_new _ _
                clear hBa1
                have hc2 := pexpect_yes PP1 he 40 [] HS0.out
                go_wp2_with fail
                refine hc2.mono ?_
                rintro ee2 ww2 ⟨rfl, PP2, gg2⟩
                have kb2_0 := (gg2.block w.heap.size (Array.getElem?_eq_some_iff.1 kp1).1 (by simp; omega)).trans kp1
                have GG2 := grownBy_trans GG1 gg2
                have hl2 := PP2.lt
                clear hc2 gg2
                have hc3 := pname_yes PP2 he HS1.out
                go_wp2_with fail
                refine hc3.mono ?_
                rintro ee3 ww3 ⟨rfl, PP3, gg3⟩
                have kb3_0 := (gg3.block w.heap.size (Array.getElem?_eq_some_iff.1 kb2_0).1 (by simp; omega)).trans kb2_0
                have GG3 := grownBy_trans GG2 gg3
                have hl3 := PP3.lt
                clear hc3 gg3
                unfold tagg
                have hfS1 := fldS (.int .i8 (tok L e (k + 1)).kind) (.int .i64 (tok L e (k + 1)).n) (.string (S (tok L e (k + 1)).s)) (.int .i64 (tok L e (k + 1)).ln) (.int .i64 (tok L e (k + 1)).co)
                have hc4 := annO lm PP3 he hr2
                go_wp2_with fail
                refine hc4.mono ?_
                rintro ee4 ww4 ⟨rfl, PP4, gg4⟩
                have kb4_0 := (gg4.block w.heap.size (Array.getElem?_eq_some_iff.1 kb3_0).1 (by simp; omega)).trans kb3_0
                have GG4 := grownBy_trans GG3 gg4
                have hl4 := PP4.lt
                clear hc4 gg4
                have hc5 := pexpect_yes PP4 he 41 [] HS3.out
                go_wp2_with fail
                refine hc5.mono ?_
                rintro ee5 ww5 ⟨rfl, PP5, gg5⟩
                have kb5_0 := (gg5.block w.heap.size (Array.getElem?_eq_some_iff.1 kb4_0).1 (by simp; omega)).trans kb4_0
                have GG5 := grownBy_trans GG4 gg5
                have hl5 := PP5.lt
                clear hc5 gg5
                have hc6 := annO (eff L e lm lt) PP5 he hr4
                go_wp2_with fail
                refine hc6.mono ?_
                rintro ee6 ww6 ⟨rfl, PP6, gg6⟩
                have kb6_0 := (gg6.block w.heap.size (Array.getElem?_eq_some_iff.1 kb5_0).1 (by simp; omega)).trans kb5_0
                have GG6 := grownBy_trans GG5 gg6
                have hl6 := PP6.lt
                clear hc6 gg6
                have hc7 := pexpect_yes PP6 he 61 [62] HS5.out
                go_wp2_with fail
                refine hc7.mono ?_
                rintro ee7 ww7 ⟨rfl, PP7, gg7⟩
                have kb7_0 := (gg7.block w.heap.size (Array.getElem?_eq_some_iff.1 kb6_0).1 (by simp; omega)).trans kb6_0
                have GG7 := grownBy_trans GG6 gg7
                have hl7 := PP7.lt
                clear hc7 gg7
                have hBd8 : Below ww7.heap.size ww7 ww7.drew := ⟨rfl, rfl, rfl, Nat.le_refl _, fun _ _ => rfl⟩
                have PD8 := PP7.kept hBd8
                have GD8 : w.grownBy ww7.drew (some pb) := grownBy_drew GG7
                have kb8_0 := (hBd8.block w.heap.size (Array.getElem?_eq_some_iff.1 kb7_0).1).trans kb7_0
                have i0_8 : ww7.cell? ⟨w.heap.size, 0, none⟩ = some (.int .i64 p.ln) := (block_cells (w := ww7) kb8_0).1 0
                have i1_8 : ww7.cell? ⟨w.heap.size, 1, none⟩ = some (.int .i64 p.co) := (block_cells (w := ww7) kb8_0).1 1
                have hRr8 := hE (ju + 1) (by omega) ww7.drew (eff L e (eff L e lm lt) lu) nd (by omega) (hM.grown GD8) PD8
                rw [hr6] at hRr8
                go_upto_region 7 with fail
                go_region_with (go_at_call 149; refine hRr8.mono ?_; rintro e2 w2 ⟨rfl, g2⟩; refine (fun (_ : wpAny Tryz.prog .any #[] (fun _ _ _ => True) 0 #[] ⟨#[], []⟩ w2) => ⟨rfl, ExEnd.bad rfl (grownBy_trans GD8 g2)⟩) ?_)
                all_goals trivial
              | ok qq6 =>
                obtain ⟨b, jb, lb⟩ := qq6
                have hr6 : ex (ju + 1) = .ok (b, jb, lb) := q6
                have hxb := hx.ok (by omega) hr6
                clear q6
                have hres : lam L e ex kind p ahead k = .ok (.nd { mkN kind 1 p with s := bs (ahead ++ (tok L e (k + 1)).s), t := bs (valA t), u := bs (valA u) } [b], jb, lt ++ (lu ++ (lb))) := by
                  simp only [lam, q0, q1, hr2, q3, hr4, q5, hr6, bnd]
                  try simp only [List.nil_append, List.append_nil]
                rw [hres]
                clear hres q0 q1 q3 q5
                go_enter Tryz.func174, Tryz.ntmps174
                have hBa1 : Below w.heap.size w (w.alloc (.cells #[.int .i64 p.ln, .int .i64 p.co] 28)) := (Below.refl _ _).alloc (Nat.le_refl _) _
                have PP1 := h.kept hBa1
                have GG1 : w.grownBy (w.alloc (.cells #[.int .i64 p.ln, .int .i64 p.co] 28)) (some pb) := grownBy_below (grownBy_refl w (some pb)) hBa1
                have hlB1 := h.lt
                have kp1 : (w.alloc (.cells #[.int .i64 p.ln, .int .i64 p.co] 28)).heap[w.heap.size]? = some (.cells #[.int .i64 p.ln, .int .i64 p.co] 28) := heap_alloc_new _ _
                clear hBa1
                have hc2 := pexpect_yes PP1 he 40 [] HS0.out
                go_wp2_with fail
                refine hc2.mono ?_
                rintro ee2 ww2 ⟨rfl, PP2, gg2⟩
                have kb2_0 := (gg2.block w.heap.size (Array.getElem?_eq_some_iff.1 kp1).1 (by simp; omega)).trans kp1
                have GG2 := grownBy_trans GG1 gg2
                have hl2 := PP2.lt
                clear hc2 gg2
                have hc3 := pname_yes PP2 he HS1.out
                go_wp2_with fail
                refine hc3.mono ?_
                rintro ee3 ww3 ⟨rfl, PP3, gg3⟩
                have kb3_0 := (gg3.block w.heap.size (Array.getElem?_eq_some_iff.1 kb2_0).1 (by simp; omega)).trans kb2_0
                have GG3 := grownBy_trans GG2 gg3
                have hl3 := PP3.lt
                clear hc3 gg3
                unfold tagg
                have hfS1 := fldS (.int .i8 (tok L e (k + 1)).kind) (.int .i64 (tok L e (k + 1)).n) (.string (S (tok L e (k + 1)).s)) (.int .i64 (tok L e (k + 1)).ln) (.int .i64 (tok L e (k + 1)).co)
                have hc4 := annO lm PP3 he hr2
                go_wp2_with fail
                refine hc4.mono ?_
                rintro ee4 ww4 ⟨rfl, PP4, gg4⟩
                have kb4_0 := (gg4.block w.heap.size (Array.getElem?_eq_some_iff.1 kb3_0).1 (by simp; omega)).trans kb3_0
                have GG4 := grownBy_trans GG3 gg4
                have hl4 := PP4.lt
                clear hc4 gg4
                have hc5 := pexpect_yes PP4 he 41 [] HS3.out
                go_wp2_with fail
                refine hc5.mono ?_
                rintro ee5 ww5 ⟨rfl, PP5, gg5⟩
                have kb5_0 := (gg5.block w.heap.size (Array.getElem?_eq_some_iff.1 kb4_0).1 (by simp; omega)).trans kb4_0
                have GG5 := grownBy_trans GG4 gg5
                have hl5 := PP5.lt
                clear hc5 gg5
                have hc6 := annO (eff L e lm lt) PP5 he hr4
                go_wp2_with fail
                refine hc6.mono ?_
                rintro ee6 ww6 ⟨rfl, PP6, gg6⟩
                have kb6_0 := (gg6.block w.heap.size (Array.getElem?_eq_some_iff.1 kb5_0).1 (by simp; omega)).trans kb5_0
                have GG6 := grownBy_trans GG5 gg6
                have hl6 := PP6.lt
                clear hc6 gg6
                have hc7 := pexpect_yes PP6 he 61 [62] HS5.out
                go_wp2_with fail
                refine hc7.mono ?_
                rintro ee7 ww7 ⟨rfl, PP7, gg7⟩
                have kb7_0 := (gg7.block w.heap.size (Array.getElem?_eq_some_iff.1 kb6_0).1 (by simp; omega)).trans kb6_0
                have GG7 := grownBy_trans GG6 gg7
                have hl7 := PP7.lt
                clear hc7 gg7
                have hBd8 : Below ww7.heap.size ww7 ww7.drew := ⟨rfl, rfl, rfl, Nat.le_refl _, fun _ _ => rfl⟩
                have PD8 := PP7.kept hBd8
                have GD8 : w.grownBy ww7.drew (some pb) := grownBy_drew GG7
                have kb8_0 := (hBd8.block w.heap.size (Array.getElem?_eq_some_iff.1 kb7_0).1).trans kb7_0
                have i0_8 : ww7.cell? ⟨w.heap.size, 0, none⟩ = some (.int .i64 p.ln) := (block_cells (w := ww7) kb8_0).1 0
                have i1_8 : ww7.cell? ⟨w.heap.size, 1, none⟩ = some (.int .i64 p.co) := (block_cells (w := ww7) kb8_0).1 1
                have hRr8 := hE (ju + 1) (by omega) ww7.drew (eff L e (eff L e lm lt) lu) nd (by omega) (hM.grown GD8) PD8
                rw [hr6] at hRr8
                have HPL8 : Aside (∀ w2, ww7.drew.grownBy w2 (some pb) → w2.heap[w.heap.size]? = some (.cells #[.int .i64 p.ln, .int .i64 p.co] 28 (0, 0))) := fun w2 g2 => (g2.block w.heap.size (Array.getElem?_eq_some_iff.1 kb8_0).1 (by simp; omega)).trans kb8_0
                have HPM8 : Aside (∀ (w2 w3 : World) (bB : Nat), ww7.drew.grownBy w2 (some pb) → (w2.alloc (.cells #[.pointer (some ⟨bB, 0, none⟩)] 215)).grownBy w3 (some pb) → w3.heap[w.heap.size]? = some (.cells #[.int .i64 p.ln, .int .i64 p.co] 28 (0, 0))) := fun w2 w3 bB g2 g3 => by
                  have hl2 : w.heap.size < w2.heap.size := (Array.getElem?_eq_some_iff.1 (HPL8.out w2 g2)).1
                  exact (g3.block w.heap.size (by simp; omega) (by simp; omega)).trans ((Below.heap_alloc _ _ _ hl2).trans (HPL8.out w2 g2))
                have HD0_8 : Aside (∀ (w2 w3 : World) (bB : Nat), ww7.drew.grownBy w2 (some pb) → (w2.alloc (.cells #[.pointer (some ⟨bB, 0, none⟩)] 215)).grownBy w3 (some pb) → w3.cell? ⟨w.heap.size, 0, none⟩ = some (.int .i64 p.ln)) := fun w2 w3 bB g2 g3 => (block_cells (HPM8.out w2 w3 bB g2 g3)).1 0
                have HD1_8 : Aside (∀ (w2 w3 : World) (bB : Nat), ww7.drew.grownBy w2 (some pb) → (w2.alloc (.cells #[.pointer (some ⟨bB, 0, none⟩)] 215)).grownBy w3 (some pb) → w3.cell? ⟨w.heap.size, 1, none⟩ = some (.int .i64 p.co)) := fun w2 w3 bB g2 g3 => (block_cells (HPM8.out w2 w3 bB g2 g3)).1 1
                have HGR8 := fun (w2 : World) (bB nB : Nat) (q : Lim) (jj : Nat) (P : Prs w2 pb L e jj q fm am nB) (hq : nB ≤ 1000000) => pgrow_any (P.kept ((Below.refl _ _).alloc (Nat.le_refl _) (.cells #[.pointer (some ⟨bB, 0, none⟩)] 215))) hq kind p.ln p.co (some ⟨w2.heap.size, 0, none⟩) 1 1
                go_upto_region 7 with fail
                go_region_held (fun w' => w'.cell? ⟨w.heap.size, 0, none⟩ = some (.int .i64 p.ln) ∧ w'.cell? ⟨w.heap.size, 1, none⟩ = some (.int .i64 p.co)) (first | exact ⟨d0, d1⟩ | exact ⟨c0, c1⟩ | go_keep) (first | (go_at_call 149; refine hRr8.mono ?_; rintro e2 w2 ⟨bB, nB, rfl, HB, P3, hnB, g2⟩; have kp2 := HPL8.out w2 g2; have c0 : w2.cell? ⟨w.heap.size, 0, none⟩ = some (.int .i64 p.ln) := (block_cells kp2).1 0; have c1 : w2.cell? ⟨w.heap.size, 1, none⟩ = some (.int .i64 p.co) := (block_cells kp2).1 1; have hgr := HGR8 w2 bB nB _ _ P3 (by omega); clear kp2 HGR8 HPL8) | (go_at_call 176; refine hgr.mono ?_; rintro e3 w3 ⟨rfl, k3, P4, g3, hz3⟩; have d0 : w3.cell? ⟨w.heap.size, 0, none⟩ = some (.int .i64 p.ln) := HD0_8.out w2 w3 bB g2 g3; have d1 : w3.cell? ⟨w.heap.size, 1, none⟩ = some (.int .i64 p.co) := HD1_8.out w2 w3 bB g2 g3))
                all_goals
                  have GG8 : w.grownBy w3 (some pb) := grownBy_trans GD8 (grownBy_trans g2 (grownBy_trans (grownBy_alloc (grownBy_refl w2 _) _) g3))
                  have hs8 : (w2.alloc (.cells #[.pointer (some ⟨bB, 0, none⟩)] 215)).heap.size = w2.heap.size + 1 := by simp
                  have hp8 := P3.lt
                  have hb8 := HB.lt
                  rw [hs8] at k3 hz3
                  have hBt8 : Below w2.heap.size w2 (w2.alloc (.cells #[.pointer (some ⟨bB, 0, none⟩)] 215)) := (Below.refl _ _).alloc (Nat.le_refl _) _
                  have BR8 : Br w3 pb (w2.heap.size + 1 + 1) (.nd (mkN kind 1 p) [b]) := by
                    refine br_up [bB] [b] w2.heap.size (by omega) k3 ((g3.block w2.heap.size (by simp) (by simp; omega)).trans (heap_alloc_new _ _)) (by omega) (by omega) rfl ?_ ?_
                    · intro i c t h1 h2
                      match i, h1, h2 with
                      | 0, h1, h2 => cases h1; cases h2; exact (HB.stay hBt8).grown g3
                    · intro i c h1
                      match i, h1 with
                      | 0, h1 => cases h1; omega
                  have hws8 : w.heap.size ≤ w2.heap.size := Nat.le_trans GD8.size g2.size
                  have kf := (block_cells k3).2
                  have kc3 : w3.cell? ⟨w2.heap.size + 1 + 1, 3, none⟩ = some (.string ⟨#[]⟩) := (block_cells k3).1 3
                  have kc4 : w3.cell? ⟨w2.heap.size + 1 + 1, 4, none⟩ = some (.string ⟨#[]⟩) := (block_cells k3).1 4
                  have kc5 : w3.cell? ⟨w2.heap.size + 1 + 1, 5, none⟩ = some (.string ⟨#[]⟩) := (block_cells k3).1 5
                  have hnew : (((w3.setCell ⟨w2.heap.size + 1 + 1, 3, none⟩ (.string (S (ahead ++ (tok L e (k + 1)).s)))).setCell ⟨w2.heap.size + 1 + 1, 4, none⟩ (.string (S (valA t)))).setCell ⟨w2.heap.size + 1 + 1, 5, none⟩ (.string (S (valA u)))).heap[w2.heap.size + 1 + 1]? = some (.cells (bcs { mkN kind 1 p with s := bs (ahead ++ (tok L e (k + 1)).s), t := bs (valA t), u := bs (valA u) } (.slice (some ⟨w2.heap.size, 0, none⟩) 1 1)) 229 (0, 0)) := by simp [World.setCell, Array.getElem?_modify, k3, bcs, mkN, bs, S]
                  have hsa := S_app ahead (tok L e (k + 1)).s
                  have hsz : (S ahead).size + (S (tok L e (k + 1)).s).size ≤ 200000 := by rw [S_size, S_size]; have := hTS (k + 1); omega
                  have BRN := BR8.renew (v := (.slice (some ⟨w2.heap.size, 0, none⟩) 1 1)) k3 hnew (fun k h1 h2 => (set_ne6 (by omega)).trans ((set_ne6 (by omega)).trans (set_ne6 (by omega))))
                  have PN := (((P4.set (o := 3) (u := (.string (S (ahead ++ (tok L e (k + 1)).s)))) (show pb < w2.heap.size + 1 + 1 by omega)).set (o := 4) (u := (.string (S (valA t)))) (show pb < w2.heap.size + 1 + 1 by omega)).set (o := 5) (u := (.string (S (valA u)))) (show pb < w2.heap.size + 1 + 1 by omega))
                  have GN : w.grownBy (((w3.setCell ⟨w2.heap.size + 1 + 1, 3, none⟩ (.string (S (ahead ++ (tok L e (k + 1)).s)))).setCell ⟨w2.heap.size + 1 + 1, 4, none⟩ (.string (S (valA t)))).setCell ⟨w2.heap.size + 1 + 1, 5, none⟩ (.string (S (valA u)))) (some pb) := grownBy_high GG8 (grownBy_set (grownBy_set (grownBy_set (grownBy_refl w3 (some (w2.heap.size + 1 + 1))) _) _) _) (fun x e => by cases e; omega)
                  go_wp2_with fail
                  go_ret
                  refine ExEnd.ok _ _ rfl BRN (by simp only [eff_app, eff_nil, List.append_nil]; exact PN) ?_ GN
                  simp [sz, two, one, mkN, Tr.flat, Tr.flats] at *; omega
            · have q5 : expc L e [61, 62] ju = .error ju := by unfold expc; rw [if_neg hs5]
              have HS5 : Aside (sg L ju ≠ [61, 62]) := hs5
              clear hs5
              have hres : lam L e ex kind p ahead k = .error ju := by
                simp only [lam, q0, q1, hr2, q3, hr4, q5, bnd]
                try simp only [List.nil_append, List.append_nil]
              rw [hres]
              clear hres q0 q1 q3 q5
              go_enter Tryz.func174, Tryz.ntmps174
              have hBa1 : Below w.heap.size w (w.alloc (.cells #[.int .i64 p.ln, .int .i64 p.co] 28)) := (Below.refl _ _).alloc (Nat.le_refl _) _
              have PP1 := h.kept hBa1
              have GG1 : w.grownBy (w.alloc (.cells #[.int .i64 p.ln, .int .i64 p.co] 28)) (some pb) := grownBy_below (grownBy_refl w (some pb)) hBa1
              have hlB1 := h.lt
              have kp1 : (w.alloc (.cells #[.int .i64 p.ln, .int .i64 p.co] 28)).heap[w.heap.size]? = some (.cells #[.int .i64 p.ln, .int .i64 p.co] 28) := heap_alloc_new _ _
              clear hBa1
              have hc2 := pexpect_yes PP1 he 40 [] HS0.out
              go_wp2_with fail
              refine hc2.mono ?_
              rintro ee2 ww2 ⟨rfl, PP2, gg2⟩
              have kb2_0 := (gg2.block w.heap.size (Array.getElem?_eq_some_iff.1 kp1).1 (by simp; omega)).trans kp1
              have GG2 := grownBy_trans GG1 gg2
              have hl2 := PP2.lt
              clear hc2 gg2
              have hc3 := pname_yes PP2 he HS1.out
              go_wp2_with fail
              refine hc3.mono ?_
              rintro ee3 ww3 ⟨rfl, PP3, gg3⟩
              have kb3_0 := (gg3.block w.heap.size (Array.getElem?_eq_some_iff.1 kb2_0).1 (by simp; omega)).trans kb2_0
              have GG3 := grownBy_trans GG2 gg3
              have hl3 := PP3.lt
              clear hc3 gg3
              unfold tagg
              have hfS1 := fldS (.int .i8 (tok L e (k + 1)).kind) (.int .i64 (tok L e (k + 1)).n) (.string (S (tok L e (k + 1)).s)) (.int .i64 (tok L e (k + 1)).ln) (.int .i64 (tok L e (k + 1)).co)
              have hc4 := annO lm PP3 he hr2
              go_wp2_with fail
              refine hc4.mono ?_
              rintro ee4 ww4 ⟨rfl, PP4, gg4⟩
              have kb4_0 := (gg4.block w.heap.size (Array.getElem?_eq_some_iff.1 kb3_0).1 (by simp; omega)).trans kb3_0
              have GG4 := grownBy_trans GG3 gg4
              have hl4 := PP4.lt
              clear hc4 gg4
              have hc5 := pexpect_yes PP4 he 41 [] HS3.out
              go_wp2_with fail
              refine hc5.mono ?_
              rintro ee5 ww5 ⟨rfl, PP5, gg5⟩
              have kb5_0 := (gg5.block w.heap.size (Array.getElem?_eq_some_iff.1 kb4_0).1 (by simp; omega)).trans kb4_0
              have GG5 := grownBy_trans GG4 gg5
              have hl5 := PP5.lt
              clear hc5 gg5
              have hc6 := annO (eff L e lm lt) PP5 he hr4
              go_wp2_with fail
              refine hc6.mono ?_
              rintro ee6 ww6 ⟨rfl, PP6, gg6⟩
              have kb6_0 := (gg6.block w.heap.size (Array.getElem?_eq_some_iff.1 kb5_0).1 (by simp; omega)).trans kb5_0
              have GG6 := grownBy_trans GG5 gg6
              have hl6 := PP6.lt
              clear hc6 gg6
              have hc7 := pexpect_no PP6 he [61, 62] HS5.out
              go_wp2_with fail
              refine hc7.mono ?_
              rintro ee7 ww7 ⟨rfl, gg7⟩
              have GG7 := grownBy_trans GG6 gg7
              clear hc7 gg7
              go_wp2_with fail
              exact ⟨rfl, ExEnd.bad rfl GG7⟩
        · have q3 : expc L e [41] jt = .error jt := by unfold expc; rw [if_neg hs3]
          have HS3 : Aside (sg L jt ≠ [41]) := hs3
          clear hs3
          have hres : lam L e ex kind p ahead k = .error jt := by
            simp only [lam, q0, q1, hr2, q3, bnd]
            try simp only [List.nil_append, List.append_nil]
          rw [hres]
          clear hres q0 q1 q3
          go_enter Tryz.func174, Tryz.ntmps174
          have hBa1 : Below w.heap.size w (w.alloc (.cells #[.int .i64 p.ln, .int .i64 p.co] 28)) := (Below.refl _ _).alloc (Nat.le_refl _) _
          have PP1 := h.kept hBa1
          have GG1 : w.grownBy (w.alloc (.cells #[.int .i64 p.ln, .int .i64 p.co] 28)) (some pb) := grownBy_below (grownBy_refl w (some pb)) hBa1
          have hlB1 := h.lt
          have kp1 : (w.alloc (.cells #[.int .i64 p.ln, .int .i64 p.co] 28)).heap[w.heap.size]? = some (.cells #[.int .i64 p.ln, .int .i64 p.co] 28) := heap_alloc_new _ _
          clear hBa1
          have hc2 := pexpect_yes PP1 he 40 [] HS0.out
          go_wp2_with fail
          refine hc2.mono ?_
          rintro ee2 ww2 ⟨rfl, PP2, gg2⟩
          have kb2_0 := (gg2.block w.heap.size (Array.getElem?_eq_some_iff.1 kp1).1 (by simp; omega)).trans kp1
          have GG2 := grownBy_trans GG1 gg2
          have hl2 := PP2.lt
          clear hc2 gg2
          have hc3 := pname_yes PP2 he HS1.out
          go_wp2_with fail
          refine hc3.mono ?_
          rintro ee3 ww3 ⟨rfl, PP3, gg3⟩
          have kb3_0 := (gg3.block w.heap.size (Array.getElem?_eq_some_iff.1 kb2_0).1 (by simp; omega)).trans kb2_0
          have GG3 := grownBy_trans GG2 gg3
          have hl3 := PP3.lt
          clear hc3 gg3
          unfold tagg
          have hfS1 := fldS (.int .i8 (tok L e (k + 1)).kind) (.int .i64 (tok L e (k + 1)).n) (.string (S (tok L e (k + 1)).s)) (.int .i64 (tok L e (k + 1)).ln) (.int .i64 (tok L e (k + 1)).co)
          have hc4 := annO lm PP3 he hr2
          go_wp2_with fail
          refine hc4.mono ?_
          rintro ee4 ww4 ⟨rfl, PP4, gg4⟩
          have kb4_0 := (gg4.block w.heap.size (Array.getElem?_eq_some_iff.1 kb3_0).1 (by simp; omega)).trans kb3_0
          have GG4 := grownBy_trans GG3 gg4
          have hl4 := PP4.lt
          clear hc4 gg4
          have hc5 := pexpect_no PP4 he [41] HS3.out
          go_wp2_with fail
          refine hc5.mono ?_
          rintro ee5 ww5 ⟨rfl, gg5⟩
          have GG5 := grownBy_trans GG4 gg5
          clear hc5 gg5
          go_wp2_with fail
          exact ⟨rfl, ExEnd.bad rfl GG5⟩
    · have q1 : nam L e (k + 1) = .error (k + 1) := by unfold nam; rw [if_neg hs1]
      have HS1 : Aside (kd L (k + 1) ≠ 2) := hs1
      clear hs1
      have hres : lam L e ex kind p ahead k = .error (k + 1) := by
        simp only [lam, q0, q1, bnd]
        try simp only [List.nil_append, List.append_nil]
      rw [hres]
      clear hres q0 q1
      go_enter Tryz.func174, Tryz.ntmps174
      have hBa1 : Below w.heap.size w (w.alloc (.cells #[.int .i64 p.ln, .int .i64 p.co] 28)) := (Below.refl _ _).alloc (Nat.le_refl _) _
      have PP1 := h.kept hBa1
      have GG1 : w.grownBy (w.alloc (.cells #[.int .i64 p.ln, .int .i64 p.co] 28)) (some pb) := grownBy_below (grownBy_refl w (some pb)) hBa1
      have hlB1 := h.lt
      have kp1 : (w.alloc (.cells #[.int .i64 p.ln, .int .i64 p.co] 28)).heap[w.heap.size]? = some (.cells #[.int .i64 p.ln, .int .i64 p.co] 28) := heap_alloc_new _ _
      clear hBa1
      have hc2 := pexpect_yes PP1 he 40 [] HS0.out
      go_wp2_with fail
      refine hc2.mono ?_
      rintro ee2 ww2 ⟨rfl, PP2, gg2⟩
      have kb2_0 := (gg2.block w.heap.size (Array.getElem?_eq_some_iff.1 kp1).1 (by simp; omega)).trans kp1
      have GG2 := grownBy_trans GG1 gg2
      have hl2 := PP2.lt
      clear hc2 gg2
      have hc3 := pname_no PP2 he HS1.out
      go_wp2_with fail
      refine hc3.mono ?_
      rintro ee3 ww3 ⟨rfl, gg3⟩
      have GG3 := grownBy_trans GG2 gg3
      clear hc3 gg3
      go_wp2_with fail
      exact ⟨rfl, ExEnd.bad rfl GG3⟩
  · have q0 : expc L e [40] k = .error k := by unfold expc; rw [if_neg hs0]
    have HS0 : Aside (sg L k ≠ [40]) := hs0
    clear hs0
    have hres : lam L e ex kind p ahead k = .error k := by
      simp only [lam, q0, bnd]
      try simp only [List.nil_append, List.append_nil]
    rw [hres]
    clear hres q0
    go_enter Tryz.func174, Tryz.ntmps174
    have hBa1 : Below w.heap.size w (w.alloc (.cells #[.int .i64 p.ln, .int .i64 p.co] 28)) := (Below.refl _ _).alloc (Nat.le_refl _) _
    have PP1 := h.kept hBa1
    have GG1 : w.grownBy (w.alloc (.cells #[.int .i64 p.ln, .int .i64 p.co] 28)) (some pb) := grownBy_below (grownBy_refl w (some pb)) hBa1
    have hlB1 := h.lt
    have kp1 : (w.alloc (.cells #[.int .i64 p.ln, .int .i64 p.co] 28)).heap[w.heap.size]? = some (.cells #[.int .i64 p.ln, .int .i64 p.co] 28) := heap_alloc_new _ _
    clear hBa1
    have hc2 := pexpect_no PP1 he [40] HS0.out
    go_wp2_with fail
    refine hc2.mono ?_
    rintro ee2 ww2 ⟨rfl, gg2⟩
    have GG2 := grownBy_trans GG1 gg2
    clear hc2 gg2
    go_wp2_with fail
    exact ⟨rfl, ExEnd.bad rfl GG2⟩
end Go.Proofs.YtohjfikjbeafiaaGreatDoor
namespace Go.Proofs.YtohjfikjbeafiaaGreatDoor
open Go.RowKit Ps
set_option maxRecDepth 100000
set_option linter.unusedSimpArgs false

theorem bnd_nil {α β : Type} {r : Re α} {a : α} {j : Nat} (f : α → Nat → Re β) (h : r = .ok (a, j, [])) : bnd r f = f a j := by
  rw [bnd_ok f h]
  cases f a j with
  | error i => rfl
  | ok q => rfl
theorem ExEnd.pre {w W w' : World} {pb : Nat} {L : List PT} {e : PT} {lm : Lim} {fm am : Value} {nd c : Nat} {r : Re Tr.T} {e' : Ending} (g : w.grownBy W (some pb)) (h : ExEnd W pb L e lm fm am nd c r e' w') : ExEnd w pb L e lm fm am nd c r e' w' := by
  cases r with
  | error j => exact ⟨h.1, grownBy_trans g h.2⟩
  | ok q =>
    obtain ⟨t, j, l⟩ := q
    obtain ⟨b, nd', h1, h2, h3, h4, h5⟩ := h
    exact ⟨b, nd', h1, h2, h3, h4, grownBy_trans g h5⟩

set_option maxHeartbeats 2000000 in
theorem function_any {w : World} {pb : Nat} {L : List PT} {e : PT} {k : Nat} {lm : Lim} {fm am : Value} {nd : Nat} {ex : Nat → Re Tr.T} (he : e.kind = 0) (hTS : ∀ j, (tok L e j).s.length ≤ 65536) (hx : PX L ex) (hE : ∀ j, k < j → RuleC 149 pb L e fm am ex j) (hs0 : sg L k = [102, 110]) (hnd : nd + (L.length - k) ≤ 200000) (hM : Mp w pb fm am) (h : Prs w pb L e k lm fm am nd) :
    Calls Tryz.prog 128 #[.pointer (some ⟨pb, 0, none⟩)] w (ExEnd w pb L e lm fm am nd 0 (fnR L e ex k)) := by
  have hk0 := sg_lt hs0
  have hlt := h.lt
  have HS0 : Aside (sg L k = [102, 110]) := hs0
  have hres : fnR L e ex k = lam L e ex 5 (tok L e k) [] (k + 1) := by unfold fnR; rw [bnd_nil _ (show expc L e [102, 110] k = .ok (tok L e k, k + 1, []) by unfold expc; rw [if_pos hs0])]
  rw [hres]
  clear hs0 hres
  have hlm := fun W (P : Prs W pb L e (k + 1) lm fm am nd) (M : Mp W pb fm am) => lambda_any (k := k + 1) he hTS hx (fun j hj => hE j (by omega)) (by omega) M P 5 (tok L e k) [] (by simp)
  cases hr : lam L e ex 5 (tok L e k) [] (k + 1) with

  | error j =>
    go_enter Tryz.func128, Tryz.ntmps128
    have hc1 := pexpect_yes h he 102 [110] HS0.out
    go_wp2_with fail
    refine hc1.mono ?_
    rintro ee1 ww1 ⟨rfl, PP1, gg1⟩
    have GG1 := gg1
    have hl1 := PP1.lt
    clear hc1 gg1
    have hBa2 : Below ww1.heap.size ww1 (ww1.alloc (.cells #[.int .i64 (tok L e k).ln, .int .i64 (tok L e k).co] 28)) := (Below.refl _ _).alloc (Nat.le_refl _) _
    have PP2 := PP1.kept hBa2
    have GG2 : w.grownBy (ww1.alloc (.cells #[.int .i64 (tok L e k).ln, .int .i64 (tok L e k).co] 28)) (some pb) := grownBy_below GG1 hBa2
    have hlB2 := PP1.lt
    have kp2 : (ww1.alloc (.cells #[.int .i64 (tok L e k).ln, .int .i64 (tok L e k).co] 28)).heap[ww1.heap.size]? = some (.cells #[.int .i64 (tok L e k).ln, .int .i64 (tok L e k).co] 28) := heap_alloc_new _ _
    clear hBa2
    have hc := hlm _ PP2 (hM.grown GG2)
    rw [hr] at hc
    clear hlm
    go_wp2_with fail
    refine hc.mono ?_
    rintro e2 w2 ⟨rfl, g2⟩
    have GG := grownBy_trans GG2 g2
    go_wp2_with fail
    exact ⟨rfl, ExEnd.bad rfl GG⟩
  | ok q =>
    obtain ⟨t, j, l⟩ := q
    go_enter Tryz.func128, Tryz.ntmps128
    have hc1 := pexpect_yes h he 102 [110] HS0.out
    go_wp2_with fail
    refine hc1.mono ?_
    rintro ee1 ww1 ⟨rfl, PP1, gg1⟩
    have GG1 := gg1
    have hl1 := PP1.lt
    clear hc1 gg1
    have hBa2 : Below ww1.heap.size ww1 (ww1.alloc (.cells #[.int .i64 (tok L e k).ln, .int .i64 (tok L e k).co] 28)) := (Below.refl _ _).alloc (Nat.le_refl _) _
    have PP2 := PP1.kept hBa2
    have GG2 : w.grownBy (ww1.alloc (.cells #[.int .i64 (tok L e k).ln, .int .i64 (tok L e k).co] 28)) (some pb) := grownBy_below GG1 hBa2
    have hlB2 := PP1.lt
    have kp2 : (ww1.alloc (.cells #[.int .i64 (tok L e k).ln, .int .i64 (tok L e k).co] 28)).heap[ww1.heap.size]? = some (.cells #[.int .i64 (tok L e k).ln, .int .i64 (tok L e k).co] 28) := heap_alloc_new _ _
    clear hBa2
    have hc := hlm _ PP2 (hM.grown GG2)
    rw [hr] at hc
    clear hlm
    go_wp2_with fail
    refine hc.mono ?_
    rintro e2 w2 ⟨b, nd2, rfl, hb, P2, hn2, g2⟩
    have GG := grownBy_trans GG2 g2
    clear hc
    go_wp2_with fail
    go_ret
    exact ExEnd.ok b nd2 rfl hb P2 hn2 GG
end Go.Proofs.YtohjfikjbeafiaaGreatDoor
namespace Go.Proofs.YtohjfikjbeafiaaGreatDoor
open Go.RowKit Ps
set_option maxRecDepth 100000
set_option linter.unusedSimpArgs false


set_option maxHeartbeats 4000000 in
theorem recursive_any {w : World} {pb : Nat} {L : List PT} {e : PT} {k : Nat} {lm : Lim} {fm am : Value} {nd : Nat} {ex : Nat → Re Tr.T} (he : e.kind = 0) (hTS : ∀ j, (tok L e j).s.length ≤ 65536) (hx : PX L ex) (hE : ∀ j, k < j → RuleC 149 pb L e fm am ex j) (hs0 : sg L k = [114, 101, 99]) (hnd : nd + (L.length - k) ≤ 200000) (hM : Mp w pb fm am) (h : Prs w pb L e k lm fm am nd) :
    Calls Tryz.prog 129 #[.pointer (some ⟨pb, 0, none⟩)] w (ExEnd w pb L e lm fm am nd 0 (recR L e ex k)) := by
  have hk0 := sg_lt hs0
  have hlt := h.lt
  have HS0 : Aside (sg L k = [114, 101, 99]) := hs0
  have q0 : expc L e [114, 101, 99] k = .ok (tok L e k, k + 1, []) := by unfold expc; rw [if_pos hs0]
  clear hs0
  by_cases hs1 : kd L (k + 1) = 2
  · have q1 : nam L e (k + 1) = .ok (tok L e (k + 1), k + 1 + 1, []) := by unfold nam; rw [if_pos hs1]
    have hk1 := (nam_lt q1).2
    have hres : recR L e ex k = lam L e ex 6 (tok L e k) ((tok L e (k + 1)).s ++ [32]) (k + 1 + 1) := by unfold recR; rw [bnd_nil _ q0, bnd_nil _ q1]
    rw [hres]
    have HS1 : Aside (kd L (k + 1) = 2) := hs1
    clear hs1 hres q0 q1
    have hts := hTS (k + 1)
    have hlm := fun W (P : Prs W pb L e (k + 1 + 1) lm fm am nd) (M : Mp W pb fm am) => lambda_any (k := k + 1 + 1) he hTS hx (fun j hj => hE j (by omega)) (by omega) M P 6 (tok L e k) ((tok L e (k + 1)).s ++ [32]) (by simp; omega)
    have HSA : Aside (S (tok L e (k + 1)).s ++ (⟨#[32]⟩ : ByteArray) = S ((tok L e (k + 1)).s ++ [32])) := S_app _ [32]
    rw [← HSA.out] at hlm
    have hsz : (S (tok L e (k + 1)).s).size ≤ 65536 := by rw [S_size]; exact hts
    have hfS := fldS (.int .i8 (tok L e (k + 1)).kind) (.int .i64 (tok L e (k + 1)).n) (.string (S (tok L e (k + 1)).s)) (.int .i64 (tok L e (k + 1)).ln) (.int .i64 (tok L e (k + 1)).co)
    cases hr : lam L e ex 6 (tok L e k) ((tok L e (k + 1)).s ++ [32]) (k + 1 + 1) with

    | error j =>
      go_enter Tryz.func129, Tryz.ntmps129
      have hc1 := pexpect_yes h he 114 [101, 99] HS0.out
      go_wp2_with fail
      refine hc1.mono ?_
      rintro ee1 ww1 ⟨rfl, PP1, gg1⟩
      have GG1 := gg1
      have hl1 := PP1.lt
      clear hc1 gg1
      have hBa2 : Below ww1.heap.size ww1 (ww1.alloc (.cells #[.int .i64 (tok L e k).ln, .int .i64 (tok L e k).co] 28)) := (Below.refl _ _).alloc (Nat.le_refl _) _
      have PP2 := PP1.kept hBa2
      have GG2 : w.grownBy (ww1.alloc (.cells #[.int .i64 (tok L e k).ln, .int .i64 (tok L e k).co] 28)) (some pb) := grownBy_below GG1 hBa2
      have hlB2 := PP1.lt
      have kp2 : (ww1.alloc (.cells #[.int .i64 (tok L e k).ln, .int .i64 (tok L e k).co] 28)).heap[ww1.heap.size]? = some (.cells #[.int .i64 (tok L e k).ln, .int .i64 (tok L e k).co] 28) := heap_alloc_new _ _
      clear hBa2
      have PD := PP2.drew
      have GD : w.grownBy (ww1.alloc (.cells #[.int .i64 (tok L e k).ln, .int .i64 (tok L e k).co] 28)).drew (some pb) := grownBy_drew GG2
      have i0 : (ww1.alloc (.cells #[.int .i64 (tok L e k).ln, .int .i64 (tok L e k).co] 28)).cell? ⟨ww1.heap.size, 0, none⟩ = some (.int .i64 (tok L e k).ln) := (block_cells kp2).1 0
      have i1 : (ww1.alloc (.cells #[.int .i64 (tok L e k).ln, .int .i64 (tok L e k).co] 28)).cell? ⟨ww1.heap.size, 1, none⟩ = some (.int .i64 (tok L e k).co) := (block_cells kp2).1 1
      have hnm := pname_yes PD he HS1.out
      have HPL : Aside (∀ w2, (ww1.alloc (.cells #[.int .i64 (tok L e k).ln, .int .i64 (tok L e k).co] 28)).drew.grownBy w2 (some pb) → w2.cell? ⟨ww1.heap.size, 0, none⟩ = some (.int .i64 (tok L e k).ln) ∧ w2.cell? ⟨ww1.heap.size, 1, none⟩ = some (.int .i64 (tok L e k).co)) := fun w2 g2 => by
        have kp := (g2.block ww1.heap.size (Array.getElem?_eq_some_iff.1 kp2).1 (by simp; omega)).trans kp2
        exact ⟨(block_cells kp).1 0, (block_cells kp).1 1⟩
      go_upto_region 2 with fail
      go_region_with (first | (go_at_call 141; refine hnm.mono ?_; unfold tagg; rintro e2 w2 ⟨rfl, P2, g2⟩; obtain ⟨c0, c1⟩ := HPL.out w2 g2; have hc := hlm w2 P2 (hM.grown (grownBy_trans GD g2)); rw [hr] at hc) | (go_at_call 174; go_must (go_fit hc); rintro e3 w3 ⟨rfl, g3⟩; refine (fun (_ : wpAny Tryz.prog .any #[] (fun _ _ _ => True) 0 #[] ⟨#[], []⟩ w3) => ⟨rfl, ExEnd.bad rfl (grownBy_trans GD (grownBy_trans g2 g3))⟩) ?_))
      all_goals trivial
    | ok q =>
      obtain ⟨t, j, l⟩ := q
      go_enter Tryz.func129, Tryz.ntmps129
      have hc1 := pexpect_yes h he 114 [101, 99] HS0.out
      go_wp2_with fail
      refine hc1.mono ?_
      rintro ee1 ww1 ⟨rfl, PP1, gg1⟩
      have GG1 := gg1
      have hl1 := PP1.lt
      clear hc1 gg1
      have hBa2 : Below ww1.heap.size ww1 (ww1.alloc (.cells #[.int .i64 (tok L e k).ln, .int .i64 (tok L e k).co] 28)) := (Below.refl _ _).alloc (Nat.le_refl _) _
      have PP2 := PP1.kept hBa2
      have GG2 : w.grownBy (ww1.alloc (.cells #[.int .i64 (tok L e k).ln, .int .i64 (tok L e k).co] 28)) (some pb) := grownBy_below GG1 hBa2
      have hlB2 := PP1.lt
      have kp2 : (ww1.alloc (.cells #[.int .i64 (tok L e k).ln, .int .i64 (tok L e k).co] 28)).heap[ww1.heap.size]? = some (.cells #[.int .i64 (tok L e k).ln, .int .i64 (tok L e k).co] 28) := heap_alloc_new _ _
      clear hBa2
      have PD := PP2.drew
      have GD : w.grownBy (ww1.alloc (.cells #[.int .i64 (tok L e k).ln, .int .i64 (tok L e k).co] 28)).drew (some pb) := grownBy_drew GG2
      have i0 : (ww1.alloc (.cells #[.int .i64 (tok L e k).ln, .int .i64 (tok L e k).co] 28)).cell? ⟨ww1.heap.size, 0, none⟩ = some (.int .i64 (tok L e k).ln) := (block_cells kp2).1 0
      have i1 : (ww1.alloc (.cells #[.int .i64 (tok L e k).ln, .int .i64 (tok L e k).co] 28)).cell? ⟨ww1.heap.size, 1, none⟩ = some (.int .i64 (tok L e k).co) := (block_cells kp2).1 1
      have hnm := pname_yes PD he HS1.out
      have HPL : Aside (∀ w2, (ww1.alloc (.cells #[.int .i64 (tok L e k).ln, .int .i64 (tok L e k).co] 28)).drew.grownBy w2 (some pb) → w2.cell? ⟨ww1.heap.size, 0, none⟩ = some (.int .i64 (tok L e k).ln) ∧ w2.cell? ⟨ww1.heap.size, 1, none⟩ = some (.int .i64 (tok L e k).co)) := fun w2 g2 => by
        have kp := (g2.block ww1.heap.size (Array.getElem?_eq_some_iff.1 kp2).1 (by simp; omega)).trans kp2
        exact ⟨(block_cells kp).1 0, (block_cells kp).1 1⟩
      go_upto_region 2 with fail
      go_region_held (fun w' => w'.cell? ⟨ww1.heap.size, 0, none⟩ = some (.int .i64 (tok L e k).ln) ∧ w'.cell? ⟨ww1.heap.size, 1, none⟩ = some (.int .i64 (tok L e k).co)) (first | exact ⟨d0, d1⟩ | exact ⟨c0, c1⟩ | go_keep) (first | (go_at_call 141; refine hnm.mono ?_; unfold tagg; rintro e2 w2 ⟨rfl, P2, g2⟩; obtain ⟨c0, c1⟩ := HPL.out w2 g2; have hc := hlm w2 P2 (hM.grown (grownBy_trans GD g2)); rw [hr] at hc) | (go_at_call 174; go_must (go_fit hc); rintro e3 w3 ⟨b, nd2, rfl, hb, P3, hn2, g3⟩; obtain ⟨d0, d1⟩ := HPL.out w3 (grownBy_trans g2 g3)))
      all_goals
        have GG := grownBy_trans GD (grownBy_trans g2 g3)
        go_wp2_with fail
        go_ret
        exact ExEnd.ok b nd2 rfl hb P3 hn2 GG
  · have q1 : nam L e (k + 1) = .error (k + 1) := by unfold nam; rw [if_neg hs1]
    have hres : recR L e ex k = .error (k + 1) := by unfold recR; rw [bnd_nil _ q0, bnd_err _ q1]
    rw [hres]
    have HS1 : Aside (kd L (k + 1) ≠ 2) := hs1
    clear hs1 hres q0 q1
    go_enter Tryz.func129, Tryz.ntmps129
    have hc1 := pexpect_yes h he 114 [101, 99] HS0.out
    go_wp2_with fail
    refine hc1.mono ?_
    rintro ee1 ww1 ⟨rfl, PP1, gg1⟩
    have GG1 := gg1
    have hl1 := PP1.lt
    clear hc1 gg1
    have hBa2 : Below ww1.heap.size ww1 (ww1.alloc (.cells #[.int .i64 (tok L e k).ln, .int .i64 (tok L e k).co] 28)) := (Below.refl _ _).alloc (Nat.le_refl _) _
    have PP2 := PP1.kept hBa2
    have GG2 : w.grownBy (ww1.alloc (.cells #[.int .i64 (tok L e k).ln, .int .i64 (tok L e k).co] 28)) (some pb) := grownBy_below GG1 hBa2
    have hlB2 := PP1.lt
    have kp2 : (ww1.alloc (.cells #[.int .i64 (tok L e k).ln, .int .i64 (tok L e k).co] 28)).heap[ww1.heap.size]? = some (.cells #[.int .i64 (tok L e k).ln, .int .i64 (tok L e k).co] 28) := heap_alloc_new _ _
    clear hBa2
    have PD := PP2.drew
    have GD : w.grownBy (ww1.alloc (.cells #[.int .i64 (tok L e k).ln, .int .i64 (tok L e k).co] 28)).drew (some pb) := grownBy_drew GG2
    have i0 : (ww1.alloc (.cells #[.int .i64 (tok L e k).ln, .int .i64 (tok L e k).co] 28)).cell? ⟨ww1.heap.size, 0, none⟩ = some (.int .i64 (tok L e k).ln) := (block_cells kp2).1 0
    have i1 : (ww1.alloc (.cells #[.int .i64 (tok L e k).ln, .int .i64 (tok L e k).co] 28)).cell? ⟨ww1.heap.size, 1, none⟩ = some (.int .i64 (tok L e k).co) := (block_cells kp2).1 1
    have hnm := pname_no PD he HS1.out
    go_upto_region 2 with fail
    go_region_with (first | (go_at_call 141; refine hnm.mono ?_; rintro e2 w2 ⟨rfl, g2⟩; refine (fun (_ : wpAny Tryz.prog .any #[] (fun _ _ _ => True) 0 #[] ⟨#[], []⟩ w2) => ⟨rfl, ExEnd.bad rfl (grownBy_trans GD g2)⟩) ?_))
    all_goals trivial
end Go.Proofs.YtohjfikjbeafiaaGreatDoor
