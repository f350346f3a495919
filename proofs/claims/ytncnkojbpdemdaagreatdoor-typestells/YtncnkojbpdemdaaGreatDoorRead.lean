/- What the program's Read answers. -/
import Derived.Test.YtncnkojbpdemdaaGreatDoorArm
namespace Go.Proofs.YtncnkojbpdemdaaGreatDoor
open Go.RowKit

namespace Tp
/-- P2.5: the type, the error, the place. -/
def readA (l : List UInt8) : List UInt8 × Nat × Nat :=
  match readF l with
  | .error (e, p) => ([], e, p)
  | .ok t => if (enc t).length ≤ 64 then (enc t, 0, 0) else ([], 21, 0)
theorem readA_err {l : List UInt8} {e p : Nat} (h : (pr l 64).1 (sk l 0) = .error (e, p)) : readA l = ([], e, p) := by unfold readA readF; rw [h]
theorem readA_more {l : List UInt8} {a : Ty} {q : Nat} (h : (pr l 64).1 (sk l 0) = .ok (a, q)) (hq : q < l.length) : readA l = ([], bad l q, q) := by unfold readA readF; rw [h]; simp only []; rw [if_pos hq]
theorem readA_large {l : List UInt8} {a : Ty} {q : Nat} (h : (pr l 64).1 (sk l 0) = .ok (a, q)) (hq : ¬ q < l.length) (ha : ¬ (enc a).length ≤ 64) : readA l = ([], 21, 0) := by unfold readA readF; rw [h]; simp only []; rw [if_neg hq]; simp only []; rw [if_neg ha]
theorem readA_ok {l : List UInt8} {a : Ty} {q : Nat} (h : (pr l 64).1 (sk l 0) = .ok (a, q)) (hq : ¬ q < l.length) (ha : (enc a).length ≤ 64) : readA l = (enc a, 0, 0) := by unfold readA readF; rw [h]; simp only []; rw [if_neg hq]; simp only []; rw [if_pos ha]
end Tp
def readV (l : List UInt8) : Value := .tuple #[.string (S (Tp.readA l).1), .int .i64 (Tp.readA l).2.1, .int .i64 (Tp.readA l).2.2]
theorem readV_of {l x : List UInt8} {a b : Nat} (h : Tp.readA l = (x, a, b)) {e : Ending} (he : e = .returned (.tuple #[.string (S x), .int .i64 (a : Int), .int .i64 (b : Int)])) : e = .returned (readV l) := by
  unfold readV; rw [h]; exact he

theorem below_drewN {B : Nat} {w w' : World} (h : Below B w w') (n : Nat) : Below B w (w'.drewN n) := ⟨h.os, h.tape, h.output, h.size, h.block⟩

/-- What is read without a fault is a type. -/
def ReadOk (l : List UInt8) : Prop := (Tp.readA l).2.1 = 0 → ∃ u, Tp.readA l = (Tp.enc u, 0, 0) ∧ (Tp.enc u).length ≤ 64
theorem readOk_not {l x : List UInt8} {e p : Nat} (h : Tp.readA l = (x, e, p)) (he : e ≠ 0) : ReadOk l := by
  intro h0
  rw [h] at h0
  exact absurd h0 he

set_option maxRecDepth 100000 in
set_option maxHeartbeats 4000000 in
theorem read_any (ws : ByteArray) (hs : ws.size ≤ 2147483647) (w : World) :
    Calls Tryz.prog 52 #[.string ws] w fun e w' => e = .returned (readV ws.data.toList) ∧ Below w.heap.size w w' ∧ ReadOk ws.data.toList := by
  have h0 : Rd (w.alloc (.cells #[.string ws, .string ⟨#[]⟩, .int .i64 0, .int .i64 0, .int .i64 0] 129)) w.heap.size ws ⟨#[]⟩ 0 0 0 := heap_alloc_new _ _
  have hN := next_any _ w.heap.size ws ⟨#[]⟩ 0 0 0 h0 hs (Nat.zero_le _)
  rw [show 0 + (⟨#[]⟩ : ByteArray).size = 0 from rfl] at hN
  have hB0 : Below w.heap.size w (w.alloc (.cells #[.string ws, .string ⟨#[]⟩, .int .i64 0, .int .i64 0, .int .i64 0] 129)) := (Below.refl _ _).alloc (Nat.le_refl _) _
  have hfin : ∀ w1, (w.alloc (.cells #[.string ws, .string ⟨#[]⟩, .int .i64 0, .int .i64 0, .int .i64 0] 129)).grownBy w1 (some w.heap.size) → Below w.heap.size w w1 := fun w1 g => hB0.trans ⟨g.os, g.tape, g.output, g.size, fun k hk => g.block k (by simp; omega) (by simp; omega)⟩
  have hql : Tp.sk ws.data.toList 0 ≤ ws.size := by have := Tp.sk_le (bs := ws.data.toList) (k := 0) (Nat.zero_le _); rw [str_len] at this; exact this
  have HL : Aside (ws.data.toList.length = ws.size) := str_len ws
  go_enter Tryz.func52, Tryz.ntmps52
  go_wp2_with fail
  refine hN.mono ?_
  rintro e w1 ⟨rfl, h1, g1⟩
  have hA1 : RdAt w1 w.heap.size ws (Tp.sk ws.data.toList 0) 0 := ⟨h1, hql⟩
  clear hN hB0
  go_wp2_with fail
  refine ((both_all ws hs 64).1 w1 w.heap.size _ 0 hA1 (by omega)).mono ?_
  rintro e w2 ⟨⟨g, rfl, hg, hv, hst⟩, g2⟩
  have hf2 := hfin w2 (grownBy_trans g1 g2)
  cases hr : (Tp.pr ws.data.toList 64).1 (Tp.sk ws.data.toList 0) with
  | error x =>
    obtain ⟨e1, e2⟩ := x
    rw [hr] at hst
    replace hst : RdBad w2 w.heap.size ws 0 e1 e2 := hst
    have HA : Aside (Tp.readA ws.data.toList = ([], e1, e2)) := Tp.readA_err hr
    obtain ⟨-, -, c2, -, c4⟩ := hst.1.c
    have HO : Aside (ReadOk ws.data.toList) := readOk_not HA.out hst.2
    have he : ((e1 : Int) != 0) = true := by have := hst.2; simpa using this
    by_cases h2 : e2 < ws.size
    · have h2' : (e2 : Int) < (ws.size : Int) := by omega
      have hF := refuse_bad w2 w.heap.size ws 0 e1 e2 hst 15
      clear hr hv
      go_wp2_with fail
      refine hF.mono ?_
      rintro e w3 ⟨rfl, h3, g3⟩
      obtain ⟨-, -, d2, -, d4⟩ := h3.1.c
      clear c2 c4
      have hf3 := hfin w3 (grownBy_trans (grownBy_trans g1 g2) g3)
      clear hfin
      go_wp2_with fail
      go_quiet (fail)
      go_wp2_with fail
      refine bodyPost_ret (v := .tuple #[.string ⟨#[]⟩, .int .i64 e1, .int .i64 e2]) (by simp [results, Tryz.results52, go_sem]) rfl ?_
      exact ⟨readV_of HA.out rfl, below_drewN hf3 _, HO.out⟩
    · have h2' : decide ((e2 : Int) < (ws.size : Int)) = false := by simp; omega
      clear hr hv hfin
      go_wp2_with fail
      go_quiet (fail)
      go_wp2_with fail
      refine bodyPost_ret (v := .tuple #[.string ⟨#[]⟩, .int .i64 e1, .int .i64 e2]) (by simp [results, Tryz.results52, go_sem]) rfl ?_
      exact ⟨readV_of HA.out rfl, below_drewN hf2 _, HO.out⟩
  | ok x =>
    obtain ⟨a, q⟩ := x
    rw [hr] at hst hv
    replace hst : RdAt w2 w.heap.size ws q 0 := hst
    obtain ⟨-, -, c2, -, c4⟩ := hst.1.c
    by_cases h2 : q < ws.size
    · have h2' : (q : Int) < (ws.size : Int) := by omega
      have HA : Aside (Tp.readA ws.data.toList = ([], Tp.bad ws.data.toList q, q)) := Tp.readA_more hr (by rw [HL.out]; exact h2)
      have hF := refuse_any w2 w.heap.size ws 0 q hst 15 (by decide)
      rw [refErr_bad] at hF
      clear hr hv
      go_wp2_with fail
      refine hF.mono ?_
      rintro e w3 ⟨rfl, h3, g3⟩
      obtain ⟨-, -, d2, -, d4⟩ := h3.1.c
      have HO : Aside (ReadOk ws.data.toList) := readOk_not HA.out h3.2
      have he : ((Tp.bad ws.data.toList q : Int) != 0) = true := by have := h3.2; simpa using this
      clear c2 c4
      have hf3 := hfin w3 (grownBy_trans (grownBy_trans g1 g2) g3)
      clear hfin
      generalize Tp.bad ws.data.toList q = b at *
      go_wp2_with fail
      go_quiet (fail)
      go_wp2_with fail
      refine bodyPost_ret (v := .tuple #[.string ⟨#[]⟩, .int .i64 b, .int .i64 q]) (by simp [results, Tryz.results52, go_sem]) rfl ?_
      exact ⟨readV_of HA.out rfl, below_drewN hf3 _, HO.out⟩
    · have h2' : decide ((q : Int) < (ws.size : Int)) = false := by simp; omega
      have hv' : g = Tp.val a := hv
      by_cases h64 : (Tp.enc a).length ≤ 64
      · have HA : Aside (Tp.readA ws.data.toList = (Tp.enc a, 0, 0)) := Tp.readA_ok hr (by rw [HL.out]; exact h2) h64
        have hge : g = Tp.enc a := by rw [hv']; simp [Tp.val, h64]
        have hne : (S g).toList.isEmpty = false := S_isEmpty g (by rw [hge]; intro h; have := Tp.enc_pos a; rw [h] at this; simp at this)
        have HG : Aside (g = Tp.enc a) := hge
        clear hr hv hfin hv' hge
        go_wp2_with fail
        refine bodyPost_ret (v := .tuple #[.string (S g), .int .i64 0, .int .i64 0]) (by simp [results, Tryz.results52, go_sem]) rfl ?_
        exact ⟨readV_of HA.out (by rw [HG.out]; rfl), hf2, fun _ => ⟨a, HA.out, h64⟩⟩
      · have HA : Aside (Tp.readA ws.data.toList = ([], 21, 0)) := Tp.readA_large hr (by rw [HL.out]; exact h2) h64
        have hge : g = [] := by rw [hv']; simp [Tp.val, h64]
        have hne : (S g).toList.isEmpty = true := by rw [hge, ByteArray.toList_eq]; rfl
        clear hr hv hfin hv' hge
        go_wp2_with fail
        refine bodyPost_ret (v := .tuple #[.string ⟨#[]⟩, .int .i64 21, .int .i64 0]) (by simp [results, Tryz.results52, go_sem]) rfl ?_
        exact ⟨readV_of HA.out rfl, hf2, readOk_not HA.out (by decide)⟩
end Go.Proofs.YtncnkojbpdemdaaGreatDoor
