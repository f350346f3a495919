/- Package coerce: meets of any two trees. -/
import Derived.Test.YtkmoeflodafoeaaGreatDoorUbo
namespace Go.Proofs.YtkmoeflodafoeaaGreatDoor
open Go.RowKit Cc
set_option maxRecDepth 100000
set_option linter.unusedSimpArgs false
set_option linter.unusedVariables false
namespace Cc
/-- A row of couples; each with what is said of it. -/
def CpL {α : Type} (w w' : World) (L : List (Value × Value × α)) (v : Value) : Prop :=
  ∃ a B, v = .slice a L.length L.length ∧ (0 < L.length → a = some ⟨B, 0, none⟩ ∧ w.heap.size ≤ B ∧ B < w'.heap.size ∧ ∃ cs fz, w'.heap[B]? = some (Obj.cells cs 197 fz)) ∧
    ∀ (k : Nat) (x y : Value) (r : α), L[k]? = some (x, y, r) → w'.cell? ⟨B, k * 2, none⟩ = some x ∧ w'.cell? ⟨B, k * 2 + 1, none⟩ = some y
theorem CpL.two {α : Type} {w w' : World} {x0 y0 x1 y1 : Value} (r0 r1 : α) {v : Value} (h : Cp2 w w' x0 y0 x1 y1 v) : CpL w w' [(x0, y0, r0), (x1, y1, r1)] v := by
  obtain ⟨B, rfl, h1, h2, h3, c0, c1, c2, c3⟩ := h
  refine ⟨_, B, rfl, fun _ => ⟨rfl, h1, h2, h3⟩, fun k x y r e => ?_⟩
  match k, e with
  | 0, e => simp at e; obtain ⟨rfl, rfl, rfl⟩ := e; exact ⟨c0, c1⟩
  | 1, e => simp at e; obtain ⟨rfl, rfl, rfl⟩ := e; exact ⟨c2, c3⟩
  | k + 2, e => simp at e
theorem CpL.one {α : Type} {w w' : World} {x0 y0 : Value} (r0 : α) {v : Value} (h : Cp1 w w' x0 y0 v) : CpL w w' [(x0, y0, r0)] v := by
  obtain ⟨B, rfl, h1, h2, h3, c0, c1⟩ := h
  refine ⟨_, B, rfl, fun _ => ⟨rfl, h1, h2, h3⟩, fun k x y r e => ?_⟩
  match k, e with
  | 0, e => simp at e; obtain ⟨rfl, rfl, rfl⟩ := e; exact ⟨c0, c1⟩
  | k + 1, e => simp at e
theorem CpL.none {α : Type} (w w' : World) : CpL w w' ([] : List (Value × Value × α)) (.slice none 0 0) :=
  ⟨_, 0, rfl, fun h => absurd h (by simp), fun k x y r e => by simp at e⟩
def MtC (n : Nat) : Prop := ∀ (s t : C) (b o b' o' : Nat) (w : World), size s + size t ≤ n → gr s → gr t → Lie w b o s → Lie w b' o' t →
  Calls Tryz.prog 64 #[tv b o s, tv b' o' t] w fun e w' => e = .returned (.bool (meets s t)) ∧ Below w.heap.size w w'
theorem MtC.at {n : Nat} (h : MtC n) (s t : C) (b o b' o' : Nat) (w : World) (hz : size s + size t ≤ n) (g1 : gr s) (g2 : gr t) (l1 : Lie w b o s) (l2 : Lie w b' o' t) (W : World) (hW : Below w.heap.size w W) :
    Calls Tryz.prog 64 #[tv b o s, tv b' o' t] W fun e w' => e = .returned (.bool (meets s t)) ∧ Below w.heap.size w w' ∧ Below W.heap.size W w' := by
  refine (h s t b o b' o' W hz g1 g2 (l1.below hW) (l2.below hW)).mono ?_
  rintro e w' ⟨rfl, hB⟩
  exact ⟨rfl, hW.trans (hB.mono hW.size), hB⟩
/-- What is asked of two trees whose kids are asked. -/
structure Deepr (s t : C) : Prop where
  a7 : (nod s).op ≠ 7
  fb : fin s = beg t
  a1 : (nod s).op ≠ 1
  b1 : (nod t).op ≠ 1
  hd : (nod s).head = (nod t).head
  b7 : (nod t).op ≠ 7
def allB (L : List (Value × Value × Bool)) : Bool := L.all fun p => p.2.2
theorem allB_no {L : List (Value × Value × Bool)} {k : Nat} {x y : Value} (h : L[k]? = some (x, y, false)) : allB L = false := by
  unfold allB
  rw [List.all_eq_false]
  exact ⟨_, List.mem_of_getElem? h, by simp⟩
theorem allB_yes {L : List (Value × Value × Bool)} (h : ∀ (k : Nat) (x y : Value) (r : Bool), L[k]? = some (x, y, r) → r = true) : allB L = true := by
  unfold allB
  rw [List.all_eq_true]
  rintro ⟨x, y, r⟩ hm
  obtain ⟨k, hk⟩ := List.getElem?_of_mem hm
  exact h k x y r hk
end Cc
set_option maxHeartbeats 3200000 in
theorem meets_kids (s t : C) (b o b' o' : Nat) (w : World) (hs : Lie w b o s) (ht : Lie w b' o' t) (hd : Deepr s t) (L : List (Value × Value × Bool)) (hL : L.length ≤ 2)
    (hc : ∀ W, Calls Tryz.prog 131 #[tv b o s, tv b' o' t] W fun e w' => ∃ v, e = .returned v ∧ CpL W w' L v ∧ Below W.heap.size W w')
    (hm : ∀ (k : Nat) (x y : Value) (r : Bool), L[k]? = some (x, y, r) → (∃ T u, x = .iface T u) ∧ (∃ T u, y = .iface T u) ∧ ∀ W, Below w.heap.size w W → Calls Tryz.prog 64 #[x, y] W fun e w' => e = .returned (.bool r) ∧ Below w.heap.size w w' ∧ Below W.heap.size W w') :
    Calls Tryz.prog 64 #[tv b o s, tv b' o' t] w fun e w' => e = .returned (.bool (allB L)) ∧ Below w.heap.size w w' := by
  obtain ⟨a7, fb, a1, b1, hh, b7⟩ := hd
  obtain ⟨Ts, vs, es, hms, -⟩ := tv_meth s b o
  obtain ⟨Tt, vt, et, hmt, -⟩ := tv_meth t b' o'
  have rs := root_at s b o w hs
  have rt := root_at t b' o' w ht
  have ce := ends_at s b o w hs
  have cb := begins_at t b' o' w ht
  rw [← fb] at cb
  rw [es] at ce hc ⊢
  rw [et] at cb hc ⊢
  clear es et hs ht fb
  generalize fin s = fs at *
  generalize nod s = x at *
  generalize nod t = y at *
  rw [hh] at rs
  generalize Cc.size s = ns at *
  generalize Cc.size t = nt at *
  have HM : Aside (∀ (k : Nat) (x y : Value) (r : Bool), L[k]? = some (x, y, r) → (∃ T u, x = .iface T u) ∧ (∃ T u, y = .iface T u) ∧ ∀ W, Below w.heap.size w W → Calls Tryz.prog 64 #[x, y] W fun e w' => e = .returned (.bool r) ∧ Below w.heap.size w w' ∧ Below W.heap.size W w') := hm
  clear hm hh
  have HL : Aside (L.length ≤ 2) := hL
  clear hL
  have hB := Below.refl w.heap.size w
  go_enter Tryz.func64, Tryz.ntmps64
  go_wp2_with (first | (go_at_call 249; refine (rs _ hB).mono ?_; rintro e w1 ⟨rfl, hB, -⟩; clear rs) | (go_at_call 249; refine (rt _ hB).mono ?_; rintro e w2 ⟨rfl, hB, -⟩; clear rt) | (go_at_call 129; refine (ce _ (below_al2 hB _ _)).mono ?_; rintro e w3 ⟨rfl, hB, hB3⟩; clear ce) | (go_at_call 130; refine (cb _ hB).mono ?_; rintro e w4 ⟨rfl, hB, hB4⟩; have e0 := (two_cells hB3 hB4).1 0 _ rfl; have e3 := (two_cells hB3 hB4).1 3 _ rfl; have f0 := (two_cells hB3 hB4).2 0 _ rfl; have f3 := (two_cells hB3 hB4).2 3 _ rfl; clear hB3 hB4 cb) | (go_at_call 131; refine (hc _).mono ?_; rintro e w5 ⟨v, rfl, ⟨a, B, rfl, hB5, hcl⟩, hB6⟩; have HC : Aside (∀ (k : Nat) (x y : Value) (r : Bool), L[k]? = some (x, y, r) → w5.cell? ⟨B, k * 2, none⟩ = some x ∧ w5.cell? ⟨B, k * 2 + 1, none⟩ = some y) := hcl; have HB5 : Aside (0 < L.length → a = some ⟨B, 0, none⟩ ∧ w4.heap.size ≤ B ∧ B < w5.heap.size) := fun h => ⟨(hB5 h).1, (hB5 h).2.1, (hB5 h).2.2.1⟩; have hB7 := hB.trans (hB6.mono hB.size); clear hc hcl hB6 hB5))
  clear e0 e3 f0 f3
  obtain ⟨m, hmL⟩ : ∃ m, m = L.length := ⟨_, rfl⟩
  have HML : Aside (m = L.length) := hmL
  rw [← hmL]
  have hm2 : m ≤ 2 := by have := HL.out; omega
  clear hmL
  go_loopg [46] m (fun gq tq wr => ∃ k : Nat, k + gq = m ∧ tq = .int .i64 (k : Int) ∧ Below w.heap.size w wr ∧ Aside (Below w5.heap.size w5 wr) ∧ Aside (∀ (j : Nat) (x y : Value) (r : Bool), j < k → L[j]? = some (x, y, r) → r = true))
  case atStart => exact ⟨0, by omega, rfl, hB7, Below.refl _ _, fun j x y r h => absurd h (by omega)⟩
  case round =>
    obtain ⟨k, hkg, rfl, hBr, HW, HT⟩ := hrel
    by_cases hk : k < m
    · have hk' : (k : Int) < (m : Int) := by omega
      obtain ⟨⟨x', y', r⟩, hq⟩ : ∃ q, L[k]? = some q := ⟨_, List.getElem?_eq_getElem (by rw [← HML.out]; exact hk)⟩
      obtain ⟨rfl, hlo, hhi⟩ := HB5.out (by have := HML.out; omega)
      obtain ⟨⟨Tx, ux, rfl⟩, ⟨Ty, uy, rfl⟩, hcall⟩ := HM.out k _ _ _ hq
      obtain ⟨c0, c1⟩ := HC.out k _ _ _ hq
      have c0' : wr.cell? ⟨B, k * 2, none⟩ = some (.iface Tx ux) := (HW.out.cell (p := ⟨B, k * 2, none⟩) hhi).trans c0
      have c1' : wr.cell? ⟨B, k * 2 + 1, none⟩ = some (.iface Ty uy) := (HW.out.cell (p := ⟨B, k * 2 + 1, none⟩) hhi).trans c1
      have HQ : Aside (L[k]? = some (.iface Tx ux, .iface Ty uy, r)) := hq
      clear c0 c1 hq hlo
      have hk9 : k ≤ 2 := by omega
      cases r
      · have HN : Aside (allB L = false) := allB_no HQ.out
        go_wp2_with (go_at_call 64; refine (hcall _ (below_al hBr hBr.size _)).mono ?_; rintro e w6 ⟨rfl, hB8, -⟩)
        go_ret
        exact ⟨ret_b HN.out.symm, hB8⟩
      · go_wp2_with (go_at_call 64; refine (hcall _ (below_al hBr hBr.size _)).mono ?_; rintro e w6 ⟨rfl, hB8, hB9⟩)
        go_roundg (m - (k + 1))
        case measure => omega
        case rel =>
          refine ⟨k + 1, by omega, by go_num, hB8, ?_, ?_⟩
          · exact (HW.out.alloc HW.out.size _).trans (hB9.mono (by have := HW.out.size; simp; omega))
          · intro j x y r hj h
            by_cases e : j = k
            · subst e
              rw [HQ.out] at h
              simp at h
              exact h.2.2
            · exact HT.out j x y r (by omega) h
    · obtain rfl : k = m := by omega
      have HY : Aside (allB L = true) := allB_yes fun j x y r h => HT.out j x y r (by rw [HML.out]; exact (List.getElem?_eq_some_iff.1 h).1) h
      go_wp2
      go_ret
      exact ⟨ret_b HY.out.symm, hBr⟩
theorem meets_any : ∀ n, MtC n
  | n => fun s t b o b' o' w hn gs gt hs ht => by
    by_cases h7 : (nod s).op = 7
    · exact meets_fl s t b o b' o' w hs ht h7
    by_cases hl : fin s ≠ beg t ∨ (nod s).op = 1 ∨ (nod t).op = 1 ∨ (nod s).head ≠ (nod t).head ∨ (nod t).op = 7
    · exact meets_low s t b o b' o' w hs ht h7 hl
    have hD : Deepr s t := by
      refine ⟨h7, ?_, ?_, ?_, ?_, ?_⟩
      · exact Classical.byContradiction fun h => hl (.inl h)
      · exact fun h => hl (.inr (.inl h))
      · exact fun h => hl (.inr (.inr (.inl h)))
      · exact Classical.byContradiction fun h => hl (.inr (.inr (.inr (.inl h))))
      · exact fun h => hl (.inr (.inr (.inr (.inr h))))
    have hf := hD.fb
    have hh := hD.hd
    cases s with
    | any => exact absurd rfl hD.a1
    | fl => exact absurd rfl h7
    | bs p j g =>
      cases t with
      | any => exact absurd rfl hD.b1
      | fl => exact absurd rfl hD.b7
      | bs q i g' =>
        obtain rfl : g = g' := hB_inj hh
        have hm : meets (.bs p j g) (.bs q i g) = allB [] := by
          simp only [fin, inj, beg, proj] at hf
          simp [meets, hf, allB]
        rw [hm]
        refine meets_kids _ _ b o b' o' w hs ht hD [] (by simp) (fun W => ?_) (fun k x y r h => by simp at h)
        refine (couples_bs p j g q i g b o b' o' W).mono ?_
        rintro e w' ⟨rfl, rfl⟩
        exact ⟨_, rfl, CpL.none _ _, Below.refl _ _⟩
      | ls q i c => simp only [gr] at gs; rcases gs with rfl | rfl | rfl <;> exact absurd hh (by simp [nod, sh, shN, hB])
      | tw k q i c d => simp only [gr] at gs; rcases gs with rfl | rfl | rfl <;> cases k <;> exact absurd hh (by simp [nod, sh, shN, hB])
    | ls p j a =>
      cases t with
      | any => exact absurd rfl hD.b1
      | fl => exact absurd rfl hD.b7
      | bs q i g' => simp only [gr] at gt; rcases gt with rfl | rfl | rfl <;> exact absurd hh (by simp [nod, sh, shN, hB])
      | ls q i c =>
        have hm : meets (.ls p j a) (.ls q i c) = allB [(tv b (o + 7) a, tv b' (o' + 7) c, meets a c)] := by
          simp only [fin, inj, beg, proj] at hf
          simp [meets, hf, allB]
        rw [hm]
        refine meets_kids _ _ b o b' o' w hs ht hD _ (by simp) (fun W => ?_) (fun k x y r h => ?_)
        · refine (couples_ls p j a q i c b o b' o' W).mono ?_
          rintro e w' ⟨v, rfl, hc, hB⟩
          exact ⟨_, rfl, CpL.one _ hc, hB⟩
        · match k, h with
          | 0, h =>
            simp at h
            obtain ⟨rfl, rfl, rfl⟩ := h
            obtain ⟨Ta, va, ea, -⟩ := tv_meth a b (o + 7)
            obtain ⟨Tc, vc, ec, -⟩ := tv_meth c b' (o' + 7)
            exact ⟨⟨_, _, ea⟩, ⟨_, _, ec⟩, (meets_any (Cc.size a + Cc.size c)).at a c b (o + 7) b' (o' + 7) w (Nat.le_refl _) gs.1 gt.1 hs.ls ht.ls⟩
          | k + 1, h => simp at h
      | tw k q i c d => cases k <;> exact absurd hh (by simp [nod, sh, shN, hB])
    | tw k p j a d =>
      cases t with
      | any => exact absurd rfl hD.b1
      | fl => exact absurd rfl hD.b7
      | bs q i g' => simp only [gr] at gt; rcases gt with rfl | rfl | rfl <;> cases k <;> exact absurd hh (by simp [nod, sh, shN, hB])
      | ls q i c => cases k <;> exact absurd hh (by simp [nod, sh, shN, hB])
      | tw m q i c e =>
        obtain rfl : k = m := by
          have := hB_inj (a := .tw k) (b := .tw m) hh
          injection this
        have hm : meets (.tw k p j a d) (.tw k q i c e) = allB [(if t0 k then tv b' (o' + 7) c else tv b (o + 7) a, if t0 k then tv b (o + 7) a else tv b' (o' + 7) c, if t0 k then meets c a else meets a c), (if t1 k then tv b' (o' + 7 + 7 * Cc.size c) e else tv b (o + 7 + 7 * Cc.size a) d, if t1 k then tv b (o + 7 + 7 * Cc.size a) d else tv b' (o' + 7 + 7 * Cc.size c) e, if t1 k then meets e d else meets d e)] := by
          simp only [fin, inj, beg, proj] at hf
          rw [meets, if_pos rfl]
          simp [hf, allB]
        rw [hm]
        have hz : Cc.size (.tw k p j a d) = Cc.size a + Cc.size d + 1 := rfl
        have hz' : Cc.size (.tw k q i c e) = Cc.size c + Cc.size e + 1 := rfl
        refine meets_kids _ _ b o b' o' w hs ht hD _ (by simp) (fun W => ?_) (fun n' x y r h => ?_)
        · refine (couples_tw k p j a d q i c e b o b' o' W).mono ?_
          rintro e w' ⟨v, rfl, hc, hB⟩
          exact ⟨_, rfl, CpL.two _ _ hc, hB⟩
        · obtain ⟨Ta, va, ea, -⟩ := tv_meth a b (o + 7)
          obtain ⟨Tc, vc, ec, -⟩ := tv_meth c b' (o' + 7)
          obtain ⟨Td, vd, ed, -⟩ := tv_meth d b (o + 7 + 7 * Cc.size a)
          obtain ⟨Te, ve, ee, -⟩ := tv_meth e b' (o' + 7 + 7 * Cc.size c)
          match n', h with
          | 0, h =>
            simp at h
            obtain ⟨rfl, rfl, rfl⟩ := h
            cases hk : t0 k <;> simp only [if_true, if_false, Bool.false_eq_true]
            · exact ⟨⟨_, _, ea⟩, ⟨_, _, ec⟩, (meets_any (Cc.size a + Cc.size c)).at a c b (o + 7) b' (o' + 7) w (Nat.le_refl _) gs.1 gt.1 hs.tw.1 ht.tw.1⟩
            · exact ⟨⟨_, _, ec⟩, ⟨_, _, ea⟩, (meets_any (Cc.size a + Cc.size c)).at c a b' (o' + 7) b (o + 7) w (by omega) gt.1 gs.1 ht.tw.1 hs.tw.1⟩
          | 1, h =>
            simp at h
            obtain ⟨rfl, rfl, rfl⟩ := h
            cases hk : t1 k <;> simp only [if_true, if_false, Bool.false_eq_true]
            · exact ⟨⟨_, _, ed⟩, ⟨_, _, ee⟩, (meets_any (Cc.size d + Cc.size e)).at d e b _ b' _ w (Nat.le_refl _) gs.2.1 gt.2.1 hs.tw.2 ht.tw.2⟩
            · exact ⟨⟨_, _, ee⟩, ⟨_, _, ed⟩, (meets_any (Cc.size d + Cc.size e)).at e d b' _ b _ w (by omega) gt.2.1 gs.2.1 ht.tw.2 hs.tw.2⟩
          | n' + 2, h => simp at h
termination_by n => n
decreasing_by all_goals (simp only [Cc.size] at hn; omega)
end Go.Proofs.YtkmoeflodafoeaaGreatDoor
