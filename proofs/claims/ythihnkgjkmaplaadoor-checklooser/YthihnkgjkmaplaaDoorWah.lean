/- CheckLooser: looserTree. -/
import Derived.Test.YthihnkgjkmaplaaDoorWag
namespace Go.Proofs.YthihnkgjkmaplaaDoor
open Go.RowKit Ck
open T3.Tp (Ty enc cns met prc)
open Tr (flat wf)
set_option maxRecDepth 100000
set_option linter.unusedSimpArgs false

/-- Nine cells of a node in a block of its own. -/
structure NBox (w : World) (b : Nat) (x : Tr.Nd) : Prop where
  blk : w.heap[b]? = some (.cells #[.int .i8 x.kind, .int .i64 x.kids, .int .i64 x.n, .string x.s, .string x.t, .string x.u, .int .i64 x.ln, .int .i64 x.co] 45 (0, 0))
theorem NBox.new (w : World) (x : Tr.Nd) : NBox (w.alloc (.cells #[.int .i8 x.kind, .int .i64 x.kids, .int .i64 x.n, .string x.s, .string x.t, .string x.u, .int .i64 x.ln, .int .i64 x.co] 45)) w.heap.size x := ⟨heap_alloc_new _ _⟩
theorem NBox.lt {w : World} {b : Nat} {x : Tr.Nd} (h : NBox w b x) : b < w.heap.size := (Array.getElem?_eq_some_iff.1 h.blk).1
theorem NBox.below {w w' : World} {b : Nat} {x : Tr.Nd} (h : NBox w b x) (hB : Below w.heap.size w w') : NBox w' b x := ⟨(hB.block _ h.lt).trans h.blk⟩

set_option maxHeartbeats 8000000 in
theorem looserTree_any (l m : List Tr.Nd) (hl4 : l.length ≤ 1000) (vl vm : Value) (w : World) (hl : IsNodes w vl l) (hm : IsNodes w vm m) :
    Calls Tryd.prog 9 #[vl, vm] w (LoEnd (looL l m) w) := by
  obtain ⟨al, cl, rfl⟩ := hl.form
  obtain ⟨am, cm, rfl⟩ := hm.form
  by_cases hlen : l.length = m.length
  · have hne : ((l.length : Int) != (m.length : Int)) = false := by simp; omega
    have HL : Aside (l.length = m.length) := hlen
    clear hlen
    go_enter Tryd.func9, Tryd.ntmps9
    go_wp2_with fail
    clear hne
    go_loopg [5] l.length (fun gq tq wr => ∃ k : Nat, k + gq = l.length ∧ tq = .int .i64 (k : Int) ∧ Below w.heap.size w wr ∧ Aside (∀ (j : Nat) x y, j < k → l[j]? = some x → m[j]? = some y → looN x y))
    case atStart => exact ⟨0, by omega, rfl, Below.refl _ _, fun j x y hj => absurd hj (by omega)⟩
    case round =>
      obtain ⟨k, hkg, rfl, hB, HA⟩ := hrel
      by_cases hk : k < l.length
      · have hk' : (k : Int) < (l.length : Int) := by omega
        have hk0 : (0 : Int) ≤ (k : Int) := by omega
        have hkm : (k : Int) < (m.length : Int) := by have := HL.out; omega
        obtain ⟨x, hx, _⟩ := getc hk
        obtain ⟨y, hy, _⟩ := getc (a := m) (k := k) (by omega)
        obtain ⟨b1, o1, rfl, hc1, hl1, hcx⟩ := (hl.below hB).at hx
        obtain ⟨b2, o2, rfl, hc2, hl2, hcy⟩ := (hm.below hB).at hy
        obtain ⟨p0, p1, p2, p3, p4, p5, p6, p7⟩ := agg_cells (o := o1 + k * 8) hcx
        obtain ⟨q0, q1, q2, q3, q4, q5, q6, q7⟩ := agg_cells (o := o2 + k * 8) hcy
        have HA2 : Aside (looN x y → ∀ (j : Nat) x y, j < k + 1 → l[j]? = some x → m[j]? = some y → looN x y) := fun h j x' y' hj h1 h2 => by
          by_cases e : j = k
          · subst e; rw [hx] at h1; rw [hy] at h2; cases h1; cases h2; exact h
          · exact HA.out j x' y' (by omega) h1 h2
        have h1 := looser_any x.t y.t
        have h2 := looser_any x.u y.u
        have HNx := NBox.new wr x
        have HNy := NBox.new (wr.alloc (.cells #[.int .i8 x.kind, .int .i64 x.kids, .int .i64 x.n, .string x.s, .string x.t, .string x.u, .int .i64 x.ln, .int .i64 x.co] 45)) y
        rw [show (wr.alloc (.cells #[.int .i8 x.kind, .int .i64 x.kids, .int .i64 x.n, .string x.s, .string x.t, .string x.u, .int .i64 x.ln, .int .i64 x.co] 45)).heap.size = wr.heap.size + 1 by simp] at HNy
        have HNx := HNx.below (w' := (wr.alloc (.cells #[.int .i8 x.kind, .int .i64 x.kids, .int .i64 x.n, .string x.s, .string x.t, .string x.u, .int .i64 x.ln, .int .i64 x.co] 45)).alloc (.cells #[.int .i8 y.kind, .int .i64 y.kids, .int .i64 y.n, .string y.s, .string y.t, .string y.u, .int .i64 y.ln, .int .i64 y.co] 45)) ((Below.refl _ _).alloc (Nat.le_refl _) _)
        have hBw := balloc (balloc hB (.cells #[.int .i8 x.kind, .int .i64 x.kids, .int .i64 x.n, .string x.s, .string x.t, .string x.u, .int .i64 x.ln, .int .i64 x.co] 45)) (.cells #[.int .i8 y.kind, .int .i64 y.kids, .int .i64 y.n, .string y.s, .string y.t, .string y.u, .int .i64 y.ln, .int .i64 y.co] 45)
        clear hx hy hcx hcy HA
        go_upto_region 8 with fail
        clear p0 p1 p2 p3 p4 p5 p6 p7 q0 q1 q2 q3 q4 q5 q6 q7
        have hwz : w.heap.size ≤ wr.heap.size := hB.size
        have hwy : w.heap.size ≤ wr.heap.size + 1 := by omega
        clear hB hc1 hc2 hl1 hl2
        generalize World.alloc _ _ = W0 at *
        generalize World.alloc _ _ = W1 at *
        obtain ⟨fx0, fxz⟩ := block_cells HNx.blk
        obtain ⟨fy0, fyz⟩ := block_cells HNy.blk
        have p4 : W1.cell? ⟨wr.heap.size, 4, none⟩ = some (.string x.t) := fx0 4
        have q4 : W1.cell? ⟨wr.heap.size + 1, 4, none⟩ = some (.string y.t) := fy0 4
        have p5 : W1.cell? ⟨wr.heap.size, 5, none⟩ = some (.string x.u) := fx0 5
        have q5 : W1.cell? ⟨wr.heap.size + 1, 5, none⟩ = some (.string y.u) := fy0 5
        clear fx0 fy0 fxz fyz
        go_wp2_with fail
        go_at_call 19
        refine (h1 _).mono ?_
        rintro e w2 ⟨b1, rfl, hb1, hB2⟩
        have hBw := bt hBw hB2
        have HNx := HNx.below hB2
        have HNy := HNy.below hB2
        clear p4 q4 p5 q5 hB2
        cases b1
        · go_wp2_with fail
          go_ret
          exact LoEnd.mk (b := false) (by simp) hBw
        have HB1 : Aside (looP x.t y.t) := hb1 rfl
        clear hb1
        obtain ⟨fx0, fxz⟩ := block_cells HNx.blk
        obtain ⟨fy0, fyz⟩ := block_cells HNy.blk
        have p5 : w2.cell? ⟨wr.heap.size, 5, none⟩ = some (.string x.u) := fx0 5
        have q5 : w2.cell? ⟨wr.heap.size + 1, 5, none⟩ = some (.string y.u) := fy0 5
        clear fx0 fy0 fxz fyz
        go_wp2_with fail
        go_at_call 19
        refine (h2 _).mono ?_
        rintro e w3 ⟨b2, rfl, hb2, hB3⟩
        have HNx := HNx.below hB3
        have HNy := HNy.below hB3
        have hB3 := bt hBw hB3
        clear p5 q5 hBw
        cases b2
        · go_wp2_with fail
          go_ret
          exact LoEnd.mk (b := false) (by simp) hB3
        have HB2 : Aside (looP x.u y.u) := hb2 rfl
        clear hb2
        obtain ⟨fx0, fxz⟩ := block_cells HNx.blk
        obtain ⟨fy0, fyz⟩ := block_cells HNy.blk
        have p0 : w3.cell? ⟨wr.heap.size, 0, none⟩ = some (.int .i8 x.kind) := fx0 0
        have p1 : w3.cell? ⟨wr.heap.size, 1, none⟩ = some (.int .i64 x.kids) := fx0 1
        have p2 : w3.cell? ⟨wr.heap.size, 2, none⟩ = some (.int .i64 x.n) := fx0 2
        have p3 : w3.cell? ⟨wr.heap.size, 3, none⟩ = some (.string x.s) := fx0 3
        have p4 : w3.cell? ⟨wr.heap.size, 4, none⟩ = some (.string x.t) := fx0 4
        have p5 : w3.cell? ⟨wr.heap.size, 5, none⟩ = some (.string x.u) := fx0 5
        have p6 : w3.cell? ⟨wr.heap.size, 6, none⟩ = some (.int .i64 x.ln) := fx0 6
        have p7 : w3.cell? ⟨wr.heap.size, 7, none⟩ = some (.int .i64 x.co) := fx0 7
        have q0 : w3.cell? ⟨wr.heap.size + 1, 0, none⟩ = some (.int .i8 y.kind) := fy0 0
        have q1 : w3.cell? ⟨wr.heap.size + 1, 1, none⟩ = some (.int .i64 y.kids) := fy0 1
        have q2 : w3.cell? ⟨wr.heap.size + 1, 2, none⟩ = some (.int .i64 y.n) := fy0 2
        have q3 : w3.cell? ⟨wr.heap.size + 1, 3, none⟩ = some (.string y.s) := fy0 3
        have q4 : w3.cell? ⟨wr.heap.size + 1, 4, none⟩ = some (.string y.t) := fy0 4
        have q5 : w3.cell? ⟨wr.heap.size + 1, 5, none⟩ = some (.string y.u) := fy0 5
        have q6 : w3.cell? ⟨wr.heap.size + 1, 6, none⟩ = some (.int .i64 y.ln) := fy0 6
        have q7 : w3.cell? ⟨wr.heap.size + 1, 7, none⟩ = some (.int .i64 y.co) := fy0 7
        have hlt1 := HNy.lt
        have hlt0 : wr.heap.size < w3.heap.size := by omega
        have HR : Aside (looP x.t y.t ∧ looP x.u y.u) := ⟨HB1.out, HB2.out⟩
        clear fx0 fy0 HNx HNy h1 h2 HB1 HB2
        by_cases e0 : x.kind = y.kind
        · by_cases e1 : x.kids = y.kids
          · by_cases e2 : x.n = y.n
            · by_cases e3 : x.s = y.s
              · have HX : Aside (looN x y) := ⟨HR.out.1, HR.out.2, e0.symm, e1.symm, e3.symm⟩
                rw [e0] at p0
                rw [e1] at p1
                rw [e2] at p2
                rw [e3] at p3
                clear e0 e1 e2 e3
                go_wp2_with fail
                go_roundg (l.length - (k + 1))
                case measure => omega
                case rel => exact ⟨k + 1, by omega, by go_num, (((((hB3.setCell hwz _).setCell hwz _).setCell hwy _).setCell hwy _).setCell hwz _).setCell hwz _, HA2.out HX.out⟩
              · have e3' : (x.s.toList == y.s.toList) = false := (Lib.bytes_beq_false_iff x.s y.s).2 e3
                rw [e0] at p0
                rw [e1] at p1
                rw [e2] at p2
                clear e0 e1 e2
                go_wp2_with fail
                go_ret
                exact LoEnd.mk (b := false) (by simp) ((((((hB3.setCell hwz _).setCell hwz _).setCell hwy _).setCell hwy _).setCell hwz _).setCell hwz _)
            · have e2' : (x.n == y.n) = false := by simpa using e2
              rw [e0] at p0
              rw [e1] at p1
              clear e0 e1
              go_wp2_with fail
              go_ret
              exact LoEnd.mk (b := false) (by simp) ((((((hB3.setCell hwz _).setCell hwz _).setCell hwy _).setCell hwy _).setCell hwz _).setCell hwz _)
          · have e1' : (x.kids == y.kids) = false := by simpa using e1
            rw [e0] at p0
            clear e0
            go_wp2_with fail
            go_ret
            exact LoEnd.mk (b := false) (by simp) ((((((hB3.setCell hwz _).setCell hwz _).setCell hwy _).setCell hwy _).setCell hwz _).setCell hwz _)
        · have e0' : (x.kind == y.kind) = false := by simpa using e0
          go_wp2_with fail
          go_ret
          exact LoEnd.mk (b := false) (by simp) ((((((hB3.setCell hwz _).setCell hwz _).setCell hwy _).setCell hwy _).setCell hwz _).setCell hwz _)
      · have hk' : ¬ (k : Int) < (l.length : Int) := by omega
        have HF : Aside (looL l m) := ⟨HL.out, fun j x y h1 h2 => HA.out j x y (by have := (List.getElem?_eq_some_iff.1 h1).1; omega) h1 h2⟩
        go_wp2_with fail
        go_ret
        exact LoEnd.mk (b := true) (fun _ => HF.out) hB
  · have hne : ((l.length : Int) != (m.length : Int)) = true := by simp; omega
    go_enter Tryd.func9, Tryd.ntmps9
    go_wp2_with fail
    go_ret
    exact LoEnd.mk (b := false) (by simp) (Below.refl _ _)
end Go.Proofs.YthihnkgjkmaplaaDoor
