/- What the document's Tokens answers. -/
import Derived.Test.YtjddbiabkobfoaaDoorRefTk
namespace Go.Proofs.YtjddbiabkobfoaaDoor
open Go.RowKit
set_option maxRecDepth 100000

/-- Where the token at a place ends. -/
def toOf (bs : List UInt8) (k : Nat) : Nat := match Tx.one bs k with | .ok (_, j) => j | .error _ => 0
def rkOne (bs : List UInt8) (x : Tx.Tk × Nat) : List Value := [.int .i8 x.1.kind, .int .i64 x.1.n, .string ⟨x.1.s.toArray⟩, .int .i64 (Tx.lnTo bs x.2 + 1), .int .i64 ((x.2 : Int) - Tx.stTo bs x.2 + 1), .int .i64 x.2, .int .i64 (toOf bs x.2)]
def rkCells (bs : List UInt8) (l : List (Tx.Tk × Nat)) : List Value := l.flatMap (rkOne bs)
theorem rkCells_append (bs : List UInt8) (a b : List (Tx.Tk × Nat)) : rkCells bs (a ++ b) = rkCells bs a ++ rkCells bs b := by simp [rkCells]
theorem info44 : (Tryd.prog.info? 44).map (fun i => (i.zero, i.size, i.bytes)) = some (some (.agg #[.int .i8 0, .int .i64 0, .string ⟨#[]⟩, .int .i64 0, .int .i64 0, .int .i64 0, .int .i64 0]), 7, 64) := by kernel_rfl
theorem ty32 : Tryd.prog.underlying 32 = some (.slice 44) := by kernel_rfl
theorem own_lower {w w' : World} {H e z n : Nat} {v : Value} {xs : List Value} (h : w.ownsRow H e z v n xs) (hB : Below w.heap.size w w') : w'.ownsRow H e z v n xs := by
  obtain ⟨h1, h2 | ⟨g, cap, cur, rfl, hg, hh, hr⟩⟩ := h
  · exact ⟨h1, .inl h2⟩
  · exact ⟨h1, .inr ⟨g, cap, cur, rfl, hg, (hB.block g (Array.getElem?_eq_some_iff.1 hh).1).trans hh, hr⟩⟩

theorem cells_two_new (w : World) (o : Obj) (xs : List Value) (t : TypeId) : ∀ j u, xs[j]? = some u → ((w.alloc o).alloc (.cells xs.toArray t)).cell? ((⟨w.heap.size + 1, 0, none⟩ : Addr).add j) = some u := by
  have h := cells_list_new (w.alloc o) xs t
  rwa [show (w.alloc o).heap.size = w.heap.size + 1 by simp] at h
theorem two_under (w : World) (o1 o2 : Obj) {k : Nat} (h : k < w.heap.size) : ((w.alloc o1).alloc o2).heap[k]? = w.heap[k]? :=
  ((World.grownBy_alloc _ _ none).block _ (by simp; omega) (by simp)).trans ((World.grownBy_alloc _ _ none).block _ h (by simp))

/-- What holds at the head of each round. -/
structure RInv (w wr : World) (P : Nat) (bs : List UInt8) (k : Nat) (done : List (Tx.Tk × Nat)) (v : Value) : Prop where
  below : Below w.heap.size w wr
  np : w.heap.size < P
  size : P < wr.heap.size
  res : wr.heap[w.heap.size]? = some (.cells #[.int .i64 0, .int .i64 0] 29 (0, 0))
  plc : wr.heap[P]? = some (.cells #[.int .i64 (Tx.lnTo bs k + 1), .int .i64 ((k : Int) - Tx.stTo bs k + 1)] 29 (0, 0))
  own : wr.ownsRow (P + 1) 44 7 v done.length (rkCells bs done)
/-- How Tokens ends. -/
def RToks (bs : List UInt8) (r : Except (Int × Nat) (List (Tx.Tk × Nat))) (n : Nat) (e : Ending) (w' : World) : Prop := match r with
  | .error (er, k) => e = .returned (.tuple #[.slice none 0 0, .int .i64 er, plV bs k])
  | .ok d => ∃ v, e = .returned (.tuple #[v, .int .i64 0, .agg #[.int .i64 0, .int .i64 0]]) ∧ w'.ownsRow n 44 7 v d.length (rkCells bs d)
theorem RToks.ok {bs : List UInt8} {r : Except (Int × Nat) (List (Tx.Tk × Nat))} {n : Nat} {e : Ending} {w' : World} {d : List (Tx.Tk × Nat)} {v : Value} (h : r = .ok d) (he : e = .returned (.tuple #[v, .int .i64 0, .agg #[.int .i64 0, .int .i64 0]])) (ho : w'.ownsRow n 44 7 v d.length (rkCells bs d)) : RToks bs r n e w' := by subst h; exact ⟨v, he, ho⟩
theorem RToks.no {bs : List UInt8} {r : Except (Int × Nat) (List (Tx.Tk × Nat))} {n : Nat} {e : Ending} {w' : World} {er : Int} {k : Nat} (h : r = .error (er, k)) (he : e = .returned (.tuple #[.slice none 0 0, .int .i64 er, plV bs k])) : RToks bs r n e w' := by subst h; exact he

set_option maxHeartbeats 4000000 in
theorem refTokens_any (w : World) (b off cap : Nat) (bs : List UInt8) (hl : bs.length ≤ 65536) (hb : b < w.heap.size) (hcap : bs.length ≤ cap) (hc : Lies w b off bs) :
    Calls Tryd.prog 13 #[.slice (some ⟨b, off, none⟩) bs.length cap] w fun e w' => RToks bs (Tx.all bs) w.heap.size e w' ∧ Below w.heap.size w w' := by
  obtain ⟨i0, hi, hz0, hz1, hz2⟩ := info_parts info44
  have hl' : (bs.length : Int) ≤ 65536 := by omega
  have hst := Tx.behind_stops (bs := bs) (k := 0) (by omega)
  have HA : Aside (Tx.all bs = Tx.tk bs (Tx.behind bs 0)) := by show _ = _; rw [Tx.tk_behind, Tx.tk_all]
  have hbh := fun o => behind_any _ b off cap bs hl (hc.alloc o) 0 (by omega)
  have hpl := fun o => Place_any (w.alloc o) b off cap bs hl (by simp; omega) (hc.alloc o) (Tx.behind bs 0) hst.2.1
  generalize Tx.behind bs 0 = k0 at *
  go_enter Tryd.func13, Tryd.ntmps13
  go_wp2_with (first | (go_at_call 17; refine (hbh _).mono ?_; rintro e w' ⟨rfl, hw'⟩; replace hw' := hw'.symm; subst hw'))
  refine (hpl _).mono ?_
  rintro e w1 ⟨rfl, hB1⟩
  clear hbh hpl
  have hBa : Below w.heap.size w w1 := ((Below.refl _ _).alloc (Nat.le_refl _) _).trans (hB1.mono (by simp))
  have hr1 : w1.heap[w.heap.size]? = some (.cells #[.int .i64 0, .int .i64 0] 29 (0, 0)) := (hB1.block _ (by simp)).trans (heap_alloc_new _ _)
  have hs1 := hB1.size
  simp at hs1
  unfold plV
  clear hB1
  go_wp2_with fail
  have hI0 : RInv w (w1.alloc (.cells #[.int .i64 (Tx.lnTo bs k0 + 1), .int .i64 ((k0 : Int) - Tx.stTo bs k0 + 1)] 29)) w1.heap.size bs k0 [] (.slice none 0 0) :=
    ⟨hBa.alloc (by omega) _, by omega, by simp, ((World.grownBy_alloc _ _ none).block _ (by omega) (by simp)).trans hr1, heap_alloc_new _ _, World.ownsRow_nil _ _ _ _⟩
  generalize w1.heap.size = P at *
  go_loopg [5, 6] (bs.length - k0) (fun g v t wr => ∃ (k : Nat) (done : List (Tx.Tk × Nat)), k ≤ bs.length ∧ bs.length - k ≤ g ∧ t = .int .i64 k ∧ done.length ≤ k ∧ RInv w wr P bs k done v ∧ Aside (k < bs.length → (Tx.B bs k == 35) = false ∧ Tx.blankB (Tx.B bs k) = false) ∧ Aside (Tx.all bs = Tx.ahead done (Tx.tk bs k)))
  case atStart => exact ⟨k0, [], hst.2.1, Nat.le_refl _, rfl, by simp, hI0, hst.2.2, by show _ = _; rw [HA.out, Tx.ahead_nil]⟩
  case round =>
    obtain ⟨k, done, hkl, hkg, rfl, hdl, hI, HS, HA⟩ := hrel
    clear hI0 hBa hr1 hs1 hst
    have hB := hI.below
    have hsz := hI.size
    have hnp := hI.np
    have hcl : Lies wr b off bs := fun j hj => (hB.cell (p := ⟨b, off + j, none⟩) hb).trans (hc j hj)
    obtain ⟨va, vc, rfl⟩ := own_len hI.own
    by_cases hlt : k < bs.length
    · have hlt' : (k : Int) < (bs.length : Int) := by omega
      have hone := one_any wr b off cap bs hl (by omega) hcap hcl k hlt
      go_wp2_with fail
      refine hone.mono ?_
      clear hone
      rintro e w2 ⟨he, hB2⟩
      have hs2 := hB2.size
      have hr2 := (hB2.block _ (by omega)).trans hI.res
      have hp2 := (hB2.block _ (by omega)).trans hI.plc
      have ho2 := own_lower hI.own hB2
      have hBn : Below w.heap.size w w2 := hB.trans (hB2.mono (by omega))
      have hc2 : Lies w2 b off bs := fun j hj => (hBn.cell (p := ⟨b, off + j, none⟩) hb).trans (hc j hj)
      clear hI hB2 hcl hB
      have hm := block_cells hp2
      have m0 := hm.1 0
      have m1 := hm.1 1
      simp at m0 m1
      have mf := hm.2
      clear hm
      have hP2 : P < w2.heap.size := by omega
      have hN2 : w.heap.size < w2.heap.size := by omega
      cases hr : Tx.one bs k with
      | error er =>
        rw [hr] at he
        have he' : e = .returned (.tuple #[rtok 0 0 [] 0 0, .int .i64 er]) := he
        clear he
        subst he'
        have her : (er != 0) = true := by rcases Tx.one_err hr with rfl | rfl | rfl | rfl <;> rfl
        have HR : Aside (Tx.all bs = .error (er, k)) := by show _ = _; rw [HA.out, Tx.tk_err hlt (HS.out hlt).1 (HS.out hlt).2 hr]; rfl
        unfold rtok
        clear hr HA HS
        go_wp2_with fail
        have hn := block_cells hr2
        have d0 := hn.1 0
        have d1 := hn.1 1
        simp at d0 d1
        have df := hn.2
        clear hn
        go_region
        go_wp2_with fail
        show bodyPost Tryd.prog Tryd.f13 (fun e w' => RToks bs (Tx.all bs) w.heap.size e w' ∧ Below w.heap.size w w') Exit.ret _ _
        refine bodyPost_ret (v := .tuple #[.slice none 0 0, .int .i64 er, .agg #[.int .i64 (Tx.lnTo bs k + 1), .int .i64 ((k : Int) - Tx.stTo bs k + 1)]]) (by simp [results, Tryd.results13, go_sem, d0, d1, hN2]) rfl ?_
        exact ⟨RToks.no HR.out rfl, ((hBn.grown (grownBy_set2 w2 w.heap.size _ _) (by omega) (fun x e => by cases e; omega)).alloc (by simp only [set_size]; omega) _).drew⟩
      | ok x =>
        obtain ⟨⟨tk, tn, ts⟩, j⟩ := x
        rw [hr] at he
        have he' : e = .returned (.tuple #[rtok tk tn ts k j, .int .i64 0]) := he
        clear he
        subst he'
        have hj := Tx.one_ok hlt hr
        have hst := Tx.behind_stops (bs := bs) (k := j) hj.2.1
        have HT : Aside (toOf bs k = j) := by show _ = _; unfold toOf; rw [hr]
        have HR : Aside (Tx.all bs = Tx.ahead (done ++ [(⟨tk, tn, ts⟩, k)]) (Tx.tk bs (Tx.behind bs j))) := by show _ = _; rw [HA.out, Tx.tk_ok done hlt (HS.out hlt).1 (HS.out hlt).2 hr, Tx.tk_behind]
        unfold rtok
        clear hr HA HS
        go_wp2_with (first | (at_builtin; go_must (refine wpList_append_own _ rfl _ _ 32 rfl (P + 1) 44 i0 (.agg #[.int .i8 0, .int .i64 0, .string ⟨#[]⟩, .int .i64 0, .int .i64 0, .int .i64 0, .int .i64 0]) 7 64 ty32 hi hz0 hz1 hz2 rfl (by decide) (.slice va done.length vc) _ _ rfl ((ho2.alloc _).alloc _) ⟨w2.heap.size + 1, 0, none⟩ 1 1 [.int .i8 tk, .int .i64 tn, .string ⟨ts.toArray⟩, .int .i64 (Tx.lnTo bs k + 1), .int .i64 ((k : Int) - Tx.stTo bs k + 1), .int .i64 k, .int .i64 j] rfl rfl (cells_two_new _ _ [.int .i8 tk, .int .i64 tn, .string ⟨ts.toArray⟩, .int .i64 (Tx.lnTo bs k + 1), .int .i64 ((k : Int) - Tx.stTo bs k + 1), .int .i64 k, .int .i64 j] 44) (by intro u hu; simp at hu; rcases hu with rfl | rfl | rfl | rfl | rfl | rfl | rfl <;> rfl) (by unfold maxLen; omega) (by omega) (by simp; omega) ?_); intro v7 w7 hown7 hg7 hv7; clear hv7; have hT7 := (hg7.block w2.heap.size (by simp; omega) (fun e => by have := (ho2.lt _ e.symm).2; omega)).trans (two_blocks w2 _ _).1; have hP7 := ((hg7.block P (by simp; omega) (fun e => by have := (ho2.lt _ e.symm).1; omega)).trans (two_under w2 _ _ hP2)).trans hp2; have hr7 := ((hg7.block w.heap.size (by simp; omega) (fun e => by have := (ho2.lt _ e.symm).1; omega)).trans (two_under w2 _ _ hN2)).trans hr2; have hs7 := hg7.size; simp at hs7; have hB7 := ((hBn.alloc (by omega) _).alloc (by simp; omega) _).grown hg7 (by simp; omega) (fun x e => by have := (ho2.lt x e).1; omega); have hc7 : Lies w7 b off bs := fun j hj => (hB7.cell (p := ⟨b, off + j, none⟩) hb).trans (hc j hj); have hq := block_cells hT7; have c6 := hq.1 6; simp at c6; have hm7 := block_cells hP7; have p0 := hm7.1 0; have p1 := hm7.1 1; simp at p0 p1; clear hq hm7 hg7 hT7 m0 m1 mf) | (go_at_call 17; refine (behind_any _ b off cap bs hl hc7 j hj.2.1).mono ?_; rintro e w' ⟨rfl, hw'⟩; replace hw' := hw'.symm; subst hw'))
        have hfur := further_any _ b off cap bs hl (Nat.lt_trans (Nat.lt_trans hb hN2) (by omega)) hc7 k (Tx.behind bs j) (by omega) hst.2.1
        unfold plV at hfur
        refine hfur.mono ?_
        clear hfur
        rintro e w8 ⟨rfl, hB8⟩
        have hs8 := hB8.size
        have hP8 := (hB8.block P (by omega)).trans hP7
        have hr8 := (hB8.block w.heap.size (by omega)).trans hr7
        have ho8 := own_lower hown7 hB8
        have hBz := hB7.trans (hB8.mono (by omega))
        have hm8 := block_cells hP8
        have q0 := hm8.1 0
        have q1 := hm8.1 1
        simp at q0 q1
        have qf := hm8.2
        clear hm8 hB8 hP7 hr7 hown7 hB7 p0 p1 c6 hc7
        go_wp2_with fail
        have hgs := grownBy_set2 w8 P (.int .i64 (Tx.lnTo bs (Tx.behind bs j) + 1)) (.int .i64 ((Tx.behind bs j : Int) - Tx.stTo bs (Tx.behind bs j) + 1))
        go_roundg (gk - 1)
        case measure => omega
        case rel =>
          refine ⟨Tx.behind bs j, done ++ [(⟨tk, tn, ts⟩, k)], hst.2.1, by omega, rfl, by simp; omega, ⟨hBz.grown hgs (by omega) (fun x e => by cases e; omega), hnp, by simp only [set_size]; omega, (hgs.block _ (by omega) (by simp; omega)).trans hr8, set2_block hP8, ?_⟩, hst.2.2, HR⟩
          rw [rkCells_append, List.length_append]
          have ho := own_kept ho8 hgs (fun x e => by cases e; omega)
          have e1 : rkCells bs [(⟨tk, tn, ts⟩, k)] = [.int .i8 tk, .int .i64 tn, .string ⟨ts.toArray⟩, .int .i64 (Tx.lnTo bs k + 1), .int .i64 ((k : Int) - Tx.stTo bs k + 1), .int .i64 k, .int .i64 j] := by simp [rkCells, rkOne, HT.out]
          rw [e1]
          exact ho
    · have hlt' : decide ((k : Int) < (bs.length : Int)) = false := by simp; omega
      have HR : Aside (Tx.all bs = .ok done) := by show _ = _; rw [HA.out, Tx.tk_end (by omega)]; simp [Tx.ahead]
      have hm := block_cells hI.res
      have m0 := hm.1 0
      have m1 := hm.1 1
      simp at m0 m1
      have mf := hm.2
      clear hm HA HS
      go_wp2_with fail
      refine bodyPost_ret (v := .tuple #[.slice va done.length vc, .int .i64 0, .agg #[.int .i64 0, .int .i64 0]]) (by simp [results, Tryd.results13, go_sem, m0, m1]) rfl ?_
      have hgs := grownBy_set2 wr w.heap.size (.int .i64 0) (.int .i64 0)
      exact ⟨RToks.ok HR.out rfl (own_base (own_kept hI.own hgs (fun x e => by cases e; omega)) (by omega)), hB.grown hgs (by omega) (fun x e => by cases e; omega)⟩
end Go.Proofs.YtjddbiabkobfoaaDoor
