/- Package coerce: then of any two trees that meet. -/
import Derived.Test.YtkmoeflodafoeaaGreatDoorCcN
namespace Go.Proofs.YtkmoeflodafoeaaGreatDoor
open Go.RowKit Cc
set_option maxRecDepth 100000
set_option linter.unusedSimpArgs false
set_option linter.unusedVariables false
namespace Cc
def rowsB (L : List (Value × Value × List N)) : List N := L.flatMap fun p => p.2.2
theorem rows_take {L : List (Value × Value × List N)} {k : Nat} {x y : Value} {r : List N} (h : L[k]? = some (x, y, r)) : rowsB (L.take (k + 1)) = rowsB (L.take k) ++ r := by
  obtain ⟨hk, e⟩ := List.getElem?_eq_some_iff.1 h
  rw [List.take_succ_eq_append_getElem hk, e]
  simp [rowsB]
theorem rows_len {L : List (Value × Value × List N)} (k : Nat) : (rowsB (L.take k)).length ≤ (rowsB L).length := by
  conv => rhs; rw [← List.take_append_drop k L]
  simp only [rowsB, List.flatMap_append, List.length_append]
  omega
end Cc
set_option maxHeartbeats 3200000 in
theorem then_kids (s t : C) (b o b' o' : Nat) (w0 w : World) (lv : Value) (l : List N) (hs : Lie w0 b o s) (ht : Lie w0 b' o' t) (hB : Below w0.heap.size w0 w) (hO : Own w0 w lv l) (hd : Deepr s t) (L : List (Value × Value × List N)) (hL : L.length ≤ 2)
    (hc : ∀ W, Calls Tryz.prog 131 #[tv b o s, tv b' o' t] W fun e w' => ∃ v, e = .returned v ∧ CpL W w' L v ∧ Below W.heap.size W w')
    (hm : ∀ (k : Nat) (x y : Value) (r : List N), L[k]? = some (x, y, r) → (∃ T u, x = .iface T u) ∧ (∃ T u, y = .iface T u) ∧ ∀ (W : World) (lv : Value) (l : List N), Below w0.heap.size w0 W → Own w0 W lv l → l.length + r.length ≤ 1000000 → Calls Tryz.prog 65 #[lv, x, y] W (ThEnd w0 W (l ++ r)))
    (hl : l.length + 1 + (rowsB L).length ≤ 1000000) :
    Calls Tryz.prog 65 #[lv, tv b o s, tv b' o' t] w (ThEnd w0 w (l ++ ⟨(nod s).op, (nod s).proj, (nod t).inj, (nod s).head, (nod s).label, (nod s).frm, (nod s).tto⟩ :: rowsB L)) := by
  obtain ⟨a7, fb, a1, b1, hh, b7⟩ := hd
  obtain ⟨Ts, vs, es, hms, rs⟩ := Rts.of s b o w0 w hs hB
  obtain ⟨Tt, vt, et, hmt, rt⟩ := Rts.of t b' o' w0 w ht hB
  rw [es] at hc ⊢
  rw [et] at hc ⊢
  clear es et hs ht fb
  generalize nod s = x at *
  generalize nod t = y at *
  rw [hh] at rs ⊢
  generalize Cc.size s = ns at *
  generalize Cc.size t = nt at *
  have HM : Aside (∀ (k : Nat) (x y : Value) (r : List N), L[k]? = some (x, y, r) → (∃ T u, x = .iface T u) ∧ (∃ T u, y = .iface T u) ∧ ∀ (W : World) (lv : Value) (l : List N), Below w0.heap.size w0 W → Own w0 W lv l → l.length + r.length ≤ 1000000 → Calls Tryz.prog 65 #[lv, x, y] W (ThEnd w0 W (l ++ r))) := hm
  clear hm hh
  have HL : Aside (L.length ≤ 2) := hL
  have HO : Aside (Own w0 w lv l) := hO
  have HB0 : Aside (Below w0.heap.size w0 w) := hB
  have HLen : Aside (l.length + 1 + (rowsB L).length ≤ 1000000) := hl
  have hl1 : l.length + 1 ≤ 1000000 := by omega
  clear hO hB hL hl
  obtain ⟨M, hM⟩ : ∃ M, M = l ++ (⟨x.op, x.proj, y.inj, y.head, x.label, x.frm, x.tto⟩ : N) :: rowsB L := ⟨_, rfl⟩
  rw [← hM]
  have HMM : Aside (M = (l ++ [(⟨x.op, x.proj, y.inj, y.head, x.label, x.frm, x.tto⟩ : N)]) ++ rowsB L) := by rw [hM]; simp [Aside]
  clear hM
  have hB := Below.refl w.heap.size w
  go_enter Tryz.func65, Tryz.ntmps65
  go_wp2_with (first | (go_at_call 249; refine (rs _ hB).mono ?_; rintro e w1 ⟨rfl, hB⟩; clear rs) | (go_at_call 249; refine (rt _ hB).mono ?_; rintro e w2 ⟨rfl, hB⟩; clear rt) | (at_builtin; go_must (refine wpList_app rfl _ _ rfl w0 _ lv l rfl (HO.out.below (below_al3 hB _ _ _)) (HB0.out.trans ((below_al3 hB _ _ _).mono HB0.out.size)) ⟨w2.heap.size + 1 + 1, 0, none⟩ 1 1 [⟨x.op, x.proj, y.inj, y.head, x.label, x.frm, x.tto⟩] rfl rfl (cells_new _ _ _ _ _ _ _ _ _ _ (by simp)) (by omega) (by omega) ?_); intro v' w' hO1 hB1 hK1 hg1 hf1; have HO1 : Aside (Own w0 w' v' (l ++ [⟨x.op, x.proj, y.inj, y.head, x.label, x.frm, x.tto⟩])) := hO1; have HB1 : Aside (Below w0.heap.size w0 w') := hB1; have HK1 : Aside (Keep w w') := (Keep.of (below_al3 hB _ _ _)).trans hK1; clear hO1 hB1 hK1 hg1 hf1 hB) | (go_at_call 131; refine (hc _).mono ?_; rintro e w5 ⟨v, rfl, ⟨a, B, rfl, hB5, hcl⟩, hB6⟩; have HC : Aside (∀ (k : Nat) (x y : Value) (r : List N), L[k]? = some (x, y, r) → w5.cell? ⟨B, k * 2, none⟩ = some x ∧ w5.cell? ⟨B, k * 2 + 1, none⟩ = some y) := hcl; have HB5 : Aside (0 < L.length → a = some ⟨B, 0, none⟩ ∧ w'.heap.size ≤ B ∧ B < w5.heap.size ∧ ∃ cs fz, w5.heap[B]? = some (Obj.cells cs 197 fz)) := hB5; have HB6 : Aside (Below w'.heap.size w' w5) := hB6; clear hc hcl hB6 hB5))
  obtain ⟨m, hmL⟩ : ∃ m, m = L.length := ⟨_, rfl⟩
  have HML : Aside (m = L.length) := hmL
  rw [← hmL]
  have hm2 : m ≤ 2 := by have := HL.out; omega
  clear hmL
  obtain ⟨l1, hl1'⟩ : ∃ l1, l1 = l ++ [(⟨x.op, x.proj, y.inj, y.head, x.label, x.frm, x.tto⟩ : N)] := ⟨_, rfl⟩
  have HMM' : Aside (M = l1 ++ rowsB L) := by rw [hl1']; exact HMM
  have HO1' : Aside (Own w0 w' v' l1) := by rw [hl1']; exact HO1
  have HLn : Aside (l1.length = l.length + 1) := by rw [hl1']; simp [Aside]
  clear hl1' HO1 HMM
  go_loopg [0, 76] m (fun gq v0 tq wr => ∃ k : Nat, k + gq = m ∧ tq = .int .i64 (k : Int) ∧ Aside (Own w0 wr v0 (l1 ++ rowsB (L.take k))) ∧ Aside (Below w0.heap.size w0 wr) ∧ Aside (Keep w5 wr) ∧ Aside (Keep w wr))
  case atStart => exact ⟨0, by omega, rfl, by simpa [rowsB, Aside] using HO1'.out.below HB6.out, HB1.out.trans (HB6.out.mono HB1.out.size), Keep.refl _, HK1.out.trans (Keep.of HB6.out)⟩
  case round =>
    clear HO1'
    obtain ⟨k, hkg, rfl, HOr, HBr, HKr, HKw⟩ := hrel
    by_cases hk : k < m
    · have hk' : (k : Int) < (m : Int) := by omega
      obtain ⟨⟨x', y', r⟩, hq⟩ : ∃ q, L[k]? = some q := ⟨_, List.getElem?_eq_getElem (by rw [← HML.out]; exact hk)⟩
      obtain ⟨rfl, hlo, hhi, cs, fz, hblk⟩ := HB5.out (by have := HML.out; omega)
      obtain ⟨⟨Tx, ux, rfl⟩, ⟨Ty, uy, rfl⟩, hcall⟩ := HM.out k _ _ _ hq
      obtain ⟨c0, c1⟩ := HC.out k _ _ _ hq
      have hbl := HKr.out.kp B cs _ fz hblk (by decide)
      have c0' : wr.cell? ⟨B, k * 2, none⟩ = some (.iface Tx ux) := (World.cell?_of_block (a := ⟨B, k * 2, none⟩) hbl).trans c0
      have c1' : wr.cell? ⟨B, k * 2 + 1, none⟩ = some (.iface Ty uy) := (World.cell?_of_block (a := ⟨B, k * 2 + 1, none⟩) hbl).trans c1
      have HQ : Aside (L[k]? = some (.iface Tx ux, .iface Ty uy, r)) := hq
      clear c0 c1 hq hlo hblk hbl
      have hk9 : k ≤ 2 := by omega
      have hcall' : ∀ ob, Calls Tryz.prog 65 #[u0, .iface Tx ux, .iface Ty uy] (wr.alloc ob) (ThEnd w0 (wr.alloc ob) (l1 ++ rowsB (L.take (k + 1)))) := by
        intro ob
        have hA := (Below.refl wr.heap.size wr).alloc (Nat.le_refl _) ob
        have h := hcall (wr.alloc ob) u0 (l1 ++ rowsB (L.take k)) (HBr.out.trans (hA.mono HBr.out.size)) (HOr.out.below hA) (by
          have h1 := rows_len (L := L) (k + 1)
          rw [rows_take HQ.out, List.length_append] at h1
          have h2 := HLen.out
          have h3 := HLn.out
          rw [List.length_append]
          omega)
        rw [rows_take HQ.out, ← List.append_assoc]
        exact h
      go_wp2_with (go_at_call 65; refine (hcall' _).mono ?_; rintro e w6 ⟨v6, rfl, hO6, hB6', hK6⟩; have HO6 : Aside (Own w0 w6 v6 (l1 ++ rowsB (L.take (k + 1)))) := hO6; have HB6' : Aside (Below w0.heap.size w0 w6) := hB6'; have HK6 : Aside (Keep wr w6) := ((Keep.refl wr).alloc _).trans hK6; clear hO6 hB6' hK6)
      go_roundg (m - (k + 1))
      case measure => omega
      case rel => exact ⟨k + 1, by omega, by go_num, HO6, HB6', HKr.out.trans HK6.out, HKw.out.trans HK6.out⟩
    · obtain rfl : k = m := by omega
      go_wp2
      go_ret
      refine ⟨u0, rfl, ?_, HBr.out, HKw.out⟩
      have h := HOr.out
      rw [HML.out, List.take_length] at h
      rw [HMM'.out]
      exact h
end Go.Proofs.YtkmoeflodafoeaaGreatDoor
