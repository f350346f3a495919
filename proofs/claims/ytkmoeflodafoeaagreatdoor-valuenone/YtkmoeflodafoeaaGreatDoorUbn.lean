/- Package coerce: take of a node that may stand, from its kids. -/
import Derived.Test.YtkmoeflodafoeaaGreatDoorUbm
namespace Go.Proofs.YtkmoeflodafoeaaGreatDoor
open Go.RowKit Cc
set_option maxRecDepth 100000
set_option linter.unusedSimpArgs false
set_option linter.unusedVariables false
namespace Cc
/-- take of whatever list, at most so high. -/
def TkC (n : Nat) : Prop := ∀ (l : List N) (b o : Nat) (v : Value) (w : World), Sl b o l.length v → At w b o l → b < w.heap.size → l.length ≤ 1000000 →
  Calls Tryz.prog 128 #[v, .int .i64 (n : Int)] w fun e w' => TkEnd b o (tk n l) e ∧ Below w.heap.size w w'
def flats : List C → List N
  | [] => []
  | c :: r => flat c ++ flats r
theorem flats_snoc (c : C) : ∀ l : List C, flats (l ++ [c]) = flats l ++ flat c
  | [] => by simp [flats]
  | d :: l => by rw [List.cons_append, flats, flats_snoc c l, flats, List.append_assoc]
theorem tks_flat {n : Nat} : ∀ {k : Nat} {r : List N} {cs : List C} {r1 : List N}, tks n k r = some (cs, r1) → r = flats cs ++ r1
  | 0, r, cs, r1, h => by simp [tks] at h; obtain ⟨rfl, rfl⟩ := h; rfl
  | k + 1, r, cs, r1, h => by
    rw [tks] at h
    split at h
    · simp at h
    · rename_i c2 r2 e
      split at h
      · simp at h
      · rename_i c r3 e3
        simp only [Option.some.injEq, Prod.mk.injEq] at h
        obtain ⟨rfl, rfl⟩ := h
        have h1 := tks_flat e
        have h2 := (tk_of _ _ _ _ e3).1
        rw [h1, h2, flats_snoc, List.append_assoc]
theorem flat_mk {s : Sh} {cs : List C} (h : cs.length = nk s) : flat (mk s cs) = shN s :: flats cs := by
  cases s with
  | ls p j => match cs, h with | [a], _ => simp [mk, flat, flats, nod, sh]
  | tw k p j => match cs, h with | [a, b], _ => simp [mk, flat, flats, nod, sh]
  | _ => match cs, h with | [], _ => simp [mk, flat, flats, nod, sh]
theorem lie_mk {w : World} {b o n : Nat} {x : N} {s : Sh} {r r1 : List N} {cs : List C} (h1 : At1 w b o x ∧ x = shN s) (h2 : At w b (o + 7) r) (hb : b < w.heap.size) (h : tks n (nk s) r = some (cs, r1)) : Lie w b o (mk s cs) := by
  have hl := tks_len h
  refine ⟨?_, hb⟩
  rw [flat_mk hl, At, ← h1.2]
  rw [tks_flat h, At.app] at h2
  exact ⟨h1.1, h2.1⟩
/-- The two kids' cells. -/
structure Kb (w0 w : World) (KB : Nat) (c0 c1 : Value) : Prop where
  bl : Below w0.heap.size w0 w
  k0 : w.cell? ⟨KB, 0, none⟩ = some c0
  k1 : w.cell? ⟨KB, 1, none⟩ = some c1
  f0 : w.frozen? ⟨KB, 0, none⟩ = false
  f1 : w.frozen? ⟨KB, 1, none⟩ = false
  lo : w0.heap.size ≤ KB
  hi : KB < w.heap.size
theorem Kb.next {w0 w w' : World} {KB : Nat} {c0 c1 : Value} (h : Kb w0 w KB c0 c1) (hB : Below w.heap.size w w') : Kb w0 w' KB c0 c1 :=
  ⟨h.bl.trans (hB.mono h.bl.size), (hB.cell (p := ⟨KB, 0, none⟩) h.hi).trans h.k0, (hB.cell (p := ⟨KB, 1, none⟩) h.hi).trans h.k1, (hB.frozen (p := ⟨KB, 0, none⟩) h.hi).trans h.f0, (hB.frozen (p := ⟨KB, 1, none⟩) h.hi).trans h.f1, h.lo, Nat.lt_of_lt_of_le h.hi hB.size⟩
theorem Kb.set0 {w0 w : World} {KB : Nat} {c0 c1 : Value} (h : Kb w0 w KB c0 c1) (v : Value) : Kb w0 (w.setCell ⟨KB, 0, none⟩ v) KB v c1 :=
  ⟨h.bl.setCell h.lo _, World.cell?_setCell_same _ _ _ h.k0, (World.cell?_setCell_other _ _ _ _ (by simp)).trans h.k1, by simpa using h.f0, by simpa using h.f1, h.lo, by simpa using h.hi⟩
theorem Kb.set1 {w0 w : World} {KB : Nat} {c0 c1 : Value} (h : Kb w0 w KB c0 c1) (v : Value) : Kb w0 (w.setCell ⟨KB, 1, none⟩ v) KB c0 v :=
  ⟨h.bl.setCell h.lo _, (World.cell?_setCell_other _ _ _ _ (by simp)).trans h.k0, World.cell?_setCell_same _ _ _ h.k1, by simpa using h.f0, by simpa using h.f1, h.lo, by simpa using h.hi⟩
theorem tks_bad {n k K : Nat} {r : List N} {cs : List C} {r1 : List N} (h : tks n k r = some (cs, r1)) (h1 : tk n r1 = none) (hk : k < K) : tks n K r = none :=
  tks_none (k := k + 1) (by rw [tks, h]; simp only [h1]) hk
theorem tks_next {n k : Nat} {r : List N} {cs : List C} {r1 r2 : List N} {c : C} (h : tks n k r = some (cs, r1)) (h1 : tk n r1 = some (c, r2)) : tks n (k + 1) r = some (cs ++ [c], r2) := by
  rw [tks, h]; simp only [h1]
end Cc
set_option maxHeartbeats 800000 in
theorem take_step (n : Nat) (hn : n < 1000) (hT : TkC n) (x : N) (r : List N) (b o : Nat) (v : Value) (w : World) (hv : Sl b o (r.length + 1) v) (hx : At1 w b o x) (hr : At w b (o + 7) r) (hb : b < w.heap.size) (hl : r.length < 1000000) (s : Sh) (hc : cls x = some s) :
    Calls Tryz.prog 128 #[v, .int .i64 ((n + 1 : Nat) : Int)] w fun e w' => TkEnd b o (tk (n + 1) (x :: r)) e ∧ Below w.heap.size w w' := by
  obtain ⟨a, c, rfl, hcap, ha⟩ := hv
  obtain rfl := ha (by omega)
  have HE : Aside (tk (n + 1) (x :: r) = _) := tk_cons n x r s hc
  have cs := stands_any x w
  rw [hc] at cs
  have ck := kidsOf_any x.op
  rw [show kidB x.op = nk s by rw [(cls_of hc).1]; exact kid_nk s] at ck
  have HX : Aside (At1 w b o x ∧ x = shN s) := ⟨hx, (cls_of hc).1⟩
  obtain ⟨g0, g1, g2, g3, g4, g5, g6⟩ := hx
  have HT : Aside (TkC n) := hT
  have HR : Aside (At w b (o + 7) r) := hr
  clear hT hc hr
  have hn1 : ¬ (((n + 1 : Nat) : Int) = 0) := by omega
  have hr1 : (((r.length + 1 : Nat) : Int) == 0) = false := by simp; omega
  have hn1' : (((n + 1 : Nat) : Int) == 0) = false := by simp; omega
  have hr2 : 0 < r.length + 1 := by omega
  have hr3 : 1 ≤ r.length + 1 := by omega
  have hr4 : 1 ≤ c := by omega
  have HM : Aside (((n + 1 : Nat) : Int) - 1 = (n : Int) ∧ ((n + 1 : Nat) : Int) = (n : Int) + 1) := ⟨by omega, by omega⟩
  generalize ((n + 1 : Nat) : Int) = m at *
  obtain ⟨L, hL⟩ : ∃ L, L = r.length + 1 := ⟨_, rfl⟩
  rw [← hL] at hr1 hr2 hr3 hcap ⊢
  have HL : Aside (L = r.length + 1) := hL
  clear hL
  obtain ⟨q, hq⟩ : ∃ q, q = tk (n + 1) (x :: r) := ⟨_, rfl⟩
  rw [← hq]
  have HE : Aside (q = match tks n (nk s) r with | none => none | some (cs, r1) => if grB (mk s cs) = true then some (mk s cs, r1) else none) := hq.trans HE.out
  clear hq
  go_enter Tryz.func128, Tryz.ntmps128
  go_wp2_with (go_at_call 167; refine cs.mono ?_; rintro e w1 ⟨rfl, hB⟩)
  go_region
  obtain ⟨a7, ha7⟩ : ∃ a7, a7 = (if c = 1 then some (⟨b, o, none⟩ : Addr) else some ⟨b, o + 7, none⟩) := ⟨_, rfl⟩
  rw [← ha7]
  have HS : Aside (Sl b (o + 7) r.length (.slice a7 (L - 1) (c - 1))) := by
    have h1 := HL.out
    refine ⟨a7, c - 1, by rw [h1]; rfl, by omega, fun h => ?_⟩
    rw [ha7, if_neg (by omega)]
  clear ha7
  obtain ⟨W0, hW0⟩ : ∃ W0, W0 = (w1.alloc (Obj.cells #[Value.nilIface, Value.nilIface] 275)).drew := ⟨_, rfl⟩
  rw [← hW0]
  have HK : Aside (Kb w W0 w1.heap.size .nilIface .nilIface) := by
    rw [hW0]
    exact ⟨(hB.alloc hB.size _).drew, by simp, by simp, by simp, by simp, hB.size, by simp⟩
  obtain ⟨KB, hKB⟩ : ∃ KB, KB = w1.heap.size := ⟨_, rfl⟩
  rw [← hKB] at HK ⊢
  have c0 : W0.cell? ⟨b, o, none⟩ = some (.int .i8 x.op) := (HK.out.bl.cell (p := ⟨b, o, none⟩) hb).trans g0
  have HK2 : Aside (nk s ≤ 2) := by show nk s ≤ 2; cases s <;> simp [nk]
  have hm1 : m - 1 = (n : Int) := HM.out.1
  have hm0 : 0 ≤ m := by have := HM.out.2; omega
  have hm2 : m ≤ 1001 := by have := HM.out.2; omega
  have en := eq_nil
  have en0 := eq_nil0
  clear hW0 hKB hB cs g0 g1 g2 g3 g4 g5 g6
  go_wp2_with (go_at_call 168; refine (ck _).mono ?_; rintro e w2 ⟨rfl, rfl⟩)
  generalize hKs : nk s = K at *
  have HKs : Aside (nk s = K) := hKs
  clear hKs c0 ck
  go_loopg [7, 33] K (fun gq v7 tq wr => ∃ (k : Nat) (cs : List C) (r1 : List N), k + gq = K ∧ tq = .int .i64 (k : Int) ∧ Aside (tks n k r = some (cs, r1)) ∧ Aside (Sl b (o + 7 + 7 * szs cs) r1.length v7) ∧ Aside (Kb w wr KB (kc0 b o cs) (kc1 b o cs)))
  case atStart => exact ⟨0, [], r, by omega, rfl, rfl, HS.out, HK.out⟩
  case round =>
    clear HS HK
    obtain ⟨k, cs, r1, hkg, rfl, HTk, HSl, HKb⟩ := hrel
    by_cases hk : k < K
    · have hk' : (k : Int) < (K : Int) := by omega
      have hcall := HT.out r1 b (o + 7 + 7 * szs cs) u7 wr HSl.out (at_take HTk.out (HR.out.below hb HKb.out.bl)) (Nat.lt_of_lt_of_le hb HKb.out.bl.size) (by have := tks_size HTk.out; omega)
      have hcl := tks_len HTk.out
      have hk2 : k = 0 ∨ k = 1 := by have := HK2.out; omega
      have HKb0 : Aside (Kb w wr KB (kc0 b o cs) (kc1 b o cs)) := HKb
      cases htk : tk n r1 with
      | none =>
        have HN : Aside (q = none) := by rw [HE.out, tks_bad HTk.out htk hk]; rfl
        rw [htk] at hcall
        clear htk
        rcases hk2 with rfl | rfl
        all_goals
          go_wp2_with (go_at_call 128; refine hcall.mono ?_; rintro e w3 ⟨he, hB3⟩; simp only [TkEnd] at he; subst he; obtain ⟨hbl, hk0, hk1, hf0, hf1, hlo, hhi⟩ := HKb0.out.next hB3)
          go_ret2
          rw [HN.out]
          exact ⟨rfl, hbl.setCell hlo _⟩
      | some p =>
        obtain ⟨d, r2⟩ := p
        have HD : Aside (tk n r1 = some (d, r2)) := htk
        rw [htk] at hcall
        clear htk
        rcases hk2 with rfl | rfl
        · obtain rfl : cs = [] := List.eq_nil_of_length_eq_zero hcl
          obtain ⟨Td, vd, ed, -⟩ := tv_meth d b (o + 7 + 7 * szs [])
          have HED : Aside (tv b (o + 7 + 7 * szs []) d = .iface Td vd) := ed
          clear ed
          have hcall' : Calls Tryz.prog 128 #[u7, .int .i64 (n : Int)] wr fun e w3 => ∃ v3, e = .returned (.tuple #[.iface Td vd, v3]) ∧ Aside (Sl b (o + 7 + 7 * szs [] + 7 * Cc.size d) r2.length v3) ∧ Kb w w3 KB (kc0 b o []) (kc1 b o []) := by
            refine hcall.mono ?_
            rintro e w3 ⟨⟨v3, h3, he⟩, hB3⟩
            rw [HED.out] at he
            exact ⟨v3, he, h3, HKb0.out.next hB3⟩
          clear hcall
          go_wp2_with (go_at_call 128; refine hcall'.mono ?_; rintro e w3 ⟨v3, rfl, HS3, HKN⟩; have HKN' : Aside (Kb w w3 KB (kc0 b o []) (kc1 b o [])) := HKN; obtain ⟨hbl, hk0, hk1, hf0, hf1, hlo, hhi⟩ := HKN)
          go_roundg (K - 1)
          case rel =>
            refine ⟨1, [d], r2, by omega, by go_num, tks_next HTk.out HD.out, ?_, ?_⟩
            · show Sl _ _ _ _
              have := HS3.out
              simpa [szs] using this
            · have h1 : kc0 b o [d] = .iface Td vd := by rw [← HED.out]; rfl
              rw [h1]
              exact HKN'.out.set0 _
          case measure => omega
        · obtain ⟨c1, rfl⟩ : ∃ c1, cs = [c1] := by
            match cs, hcl with
            | [c1], _ => exact ⟨c1, rfl⟩
          obtain ⟨Td, vd, ed, -⟩ := tv_meth d b (o + 7 + 7 * szs [c1])
          have HED : Aside (tv b (o + 7 + 7 * szs [c1]) d = .iface Td vd) := ed
          clear ed
          have hcall' : Calls Tryz.prog 128 #[u7, .int .i64 (n : Int)] wr fun e w3 => ∃ v3, e = .returned (.tuple #[.iface Td vd, v3]) ∧ Aside (Sl b (o + 7 + 7 * szs [c1] + 7 * Cc.size d) r2.length v3) ∧ Kb w w3 KB (kc0 b o [c1]) (kc1 b o [c1]) := by
            refine hcall.mono ?_
            rintro e w3 ⟨⟨v3, h3, he⟩, hB3⟩
            rw [HED.out] at he
            exact ⟨v3, he, h3, HKb0.out.next hB3⟩
          clear hcall
          go_wp2_with (go_at_call 128; refine hcall'.mono ?_; rintro e w3 ⟨v3, rfl, HS3, HKN⟩; have HKN' : Aside (Kb w w3 KB (kc0 b o [c1]) (kc1 b o [c1])) := HKN; obtain ⟨hbl, hk0, hk1, hf0, hf1, hlo, hhi⟩ := HKN)
          go_roundg (K - 2)
          case rel =>
            refine ⟨2, [c1, d], r2, by omega, by go_num, tks_next HTk.out HD.out, ?_, ?_⟩
            · show Sl _ _ _ _
              have := HS3.out
              simpa [szs, Nat.mul_add, Nat.add_assoc] using this
            · have h1 : kc1 b o [c1, d] = .iface Td vd := by rw [← HED.out]; rfl
              rw [h1]
              exact HKN'.out.set1 _
          case measure => omega
    · obtain rfl : k = K := by omega
      have hcl := tks_len HTk.out
      have HLie : Aside (Lie w b o (mk s cs)) := lie_mk HX.out HR.out hb (by rw [HKs.out]; exact HTk.out)
      have hsz := tks_size HTk.out
      obtain ⟨Z, hZ⟩ : ∃ Z, Z = szs cs + 1 := ⟨_, rfl⟩
      have HZ : Aside (Z = Cc.size (mk s cs)) := by rw [hZ]; exact (size_mk (by rw [HKs.out]; exact hcl)).symm
      obtain ⟨R, hR⟩ : ∃ R, R = r1.length := ⟨_, rfl⟩
      have hend : (L : Int) - (R : Int) = (Z : Int) := by have := HL.out; omega
      have hz1 : 1 ≤ Z := by omega
      have hz2 : Z ≤ c := by have := HL.out; omega
      have hz3 : ¬ Z = 0 := by omega
      have hLb : L ≤ 1000001 := by have := HL.out; omega
      have hRb : R ≤ 1000001 := by omega
      obtain ⟨a7, c7, rfl, HS7⟩ := HSl.out
      rw [← hR]
      have HSl' : Aside (Sl b (o + 7 + 7 * szs cs) r1.length (.slice a7 R c7)) := by rw [hR]; exact HSl
      clear HSl HS7
      have HQ : Aside (q = if grB (mk s cs) = true then some (mk s cs, r1) else none) := by rw [HE.out, HTk.out]; rfl
      obtain ⟨k0v, k1v⟩ := kc_mk b o (s := s) (by rw [HKs.out]; exact hcl)
      have HR1 : Aside (R = r1.length) := hR
      have HZ1 : Aside (Z = szs cs + 1) := hZ
      have HKV : Aside (kc0 b o cs = kv0 b o (mk s cs) ∧ kc1 b o cs = kv1 b o (mk s cs)) := ⟨k0v, k1v⟩
      clear hZ hR hsz k0v k1v hcl
      obtain ⟨hbl, hk0, hk1, hf0, hf1, hlo, hhi⟩ := HKb.out
      rw [HKV.out.1] at hk0
      rw [HKV.out.2] at hk1
      have hsh : ∀ W, Below w.heap.size w W → Calls Tryz.prog 169 #[.slice (some ⟨b, o, none⟩) Z Z, .agg #[kv0 b o (mk s cs), kv1 b o (mk s cs)]] W fun e w' => e = .returned (tv b o (mk s cs)) ∧ Below w.heap.size w w' := by
        intro W hW
        rw [HZ.out]
        have h1 := HLie.out.below hW
        refine (shaped_any (mk s cs) b o W h1.at1 h1.2).mono ?_
        rintro e w' ⟨rfl, hB⟩
        exact ⟨rfl, hW.trans (hB.mono hW.size)⟩
      have hgr : ∀ W, Below w.heap.size w W → Calls Tryz.prog 170 #[tv b o (mk s cs)] W fun e w' => e = .returned (.bool (grB (mk s cs))) ∧ Below w.heap.size w w' := by
        intro W hW
        refine (grounded_any (mk s cs) b o W (HLie.out.below hW)).mono ?_
        rintro e w' ⟨rfl, hB⟩
        exact ⟨rfl, hW.trans (hB.mono hW.size)⟩
      obtain ⟨Tm, vm, em, -⟩ := tv_meth (mk s cs) b o
      have HEM : Aside (tv b o (mk s cs) = .iface Tm vm) := em
      rw [em] at hsh hgr
      generalize kv0 b o (mk s cs) = v0 at *
      generalize kv1 b o (mk s cs) = v1 at *
      have HG : Aside (∀ b, grB (mk s cs) = b → q = if b = true then some (mk s cs, r1) else none) := fun b hb => by rw [← hb]; exact HQ.out
      generalize hgb : grB (mk s cs) = gb at *
      have HG' := HG.out gb rfl
      have HGG : Aside (q = if gb = true then some (mk s cs, r1) else none) := HG'
      clear HG HG' hgb em HQ HKb HE
      cases gb
      · go_wp2
        go_region_with (go_at_call 169; refine (hsh _ (by first | exact hbl | exact hbl.drew)).mono ?_; rintro e w4 ⟨rfl, hB4⟩)
        all_goals
          go_wp2_with (go_at_call 170; refine (hgr _ (by first | exact hB4 | exact hB4.drew)).mono ?_; rintro e w5 ⟨rfl, hB5⟩)
          go_ret2
          rw [HGG.out, if_neg (by simp)]
          exact ⟨rfl, hB5⟩
      · go_wp2
        go_region_with (go_at_call 169; refine (hsh _ (by first | exact hbl | exact hbl.drew)).mono ?_; rintro e w4 ⟨rfl, hB4⟩)
        all_goals
          go_wp2_with (go_at_call 170; refine (hgr _ (by first | exact hB4 | exact hB4.drew)).mono ?_; rintro e w5 ⟨rfl, hB5⟩)
          go_ret2
          rw [HGG.out, if_pos (by trivial)]
          refine ⟨⟨_, ?_, by rw [HEM.out]; rfl⟩, hB5⟩
          have h1 := HSl'.out
          rw [show o + 7 * Cc.size (mk s cs) = o + 7 + 7 * szs cs by rw [← HZ.out, HZ1.out]; omega]
          exact h1
theorem take_any : ∀ n : Nat, n ≤ 1000 → TkC n
  | 0, _ => fun l b o v w hv ha hb hl => take_zero l b o v w hv
  | n + 1, hn => fun l b o v w hv ha hb hl => by
    cases l with
    | nil => exact take_nil (n + 1) b o v w hv
    | cons x r =>
      cases hc : cls x with
      | none => exact take_bad n x r b o v w hv ha.1 (by omega) hc
      | some s => exact take_step n (by omega) (take_any n (by omega)) x r b o v w hv ha.1 ha.2 hb (by simp at hl; omega) s hc
namespace Cc
/-- A tree, or nothing. -/
def wv (b o : Nat) : Option C → Value
  | some c => tv b o c
  | none => .nilIface
end Cc
set_option maxHeartbeats 800000 in
theorem whole_any (l : List N) (b o : Nat) (v : Value) (w : World) (hv : Sl b o l.length v) (ha : At w b o l) (hb : b < w.heap.size) (hl : l.length ≤ 1000000) :
    Calls Tryz.prog 63 #[v] w fun e w' => e = .returned (wv b o (Cc.whole l)) ∧ Below w.heap.size w w' := by
  have hc := take_any 64 (by omega) l b o v w hv ha hb hl
  cases ht : tk 64 l with
  | none =>
    have HW : Aside (Cc.whole l = none) := by show Cc.whole l = none; unfold Cc.whole; rw [ht]
    rw [ht] at hc
    rw [HW.out]
    have hc' : Calls Tryz.prog 128 #[v, .int .i64 64] w fun e w' => e = .returned (.tuple #[.nilIface, .slice none 0 0]) ∧ Below w.heap.size w w' := hc
    clear hc ht
    go_enter Tryz.func63, Tryz.ntmps63
    go_wp2_with (go_at_call 128; refine hc'.mono ?_; rintro e w1 ⟨rfl, hB⟩)
    go_ret
    exact ⟨rfl, hB⟩
  | some p =>
    obtain ⟨c, r⟩ := p
    have hc' : Calls Tryz.prog 128 #[v, .int .i64 64] w fun e w' => ∃ a k, e = .returned (.tuple #[tv b o c, .slice a r.length k]) ∧ Below w.heap.size w w' := by
      rw [ht] at hc
      refine hc.mono ?_
      rintro e w' ⟨⟨v', ⟨a, k, rfl, -, -⟩, rfl⟩, hB⟩
      exact ⟨a, k, rfl, hB⟩
    clear hc
    cases r with
    | nil =>
      have HW : Aside (Cc.whole l = some c) := by show Cc.whole l = some c; unfold Cc.whole; rw [ht]
      rw [HW.out]
      simp only [wv, List.length_nil] at hc' ⊢
      clear ht
      go_enter Tryz.func63, Tryz.ntmps63
      go_wp2_with (go_at_call 128; refine hc'.mono ?_; rintro e w1 ⟨a, k, rfl, hB⟩)
      go_ret
      exact ⟨rfl, hB⟩
    | cons y r =>
      have HW : Aside (Cc.whole l = none) := by show Cc.whole l = none; unfold Cc.whole; rw [ht]
      rw [HW.out]
      simp only [wv, List.length_cons] at hc' ⊢
      have hp : (0 : Int) < ((r.length + 1 : Nat) : Int) := by omega
      have hp2 : 0 < r.length + 1 := by omega
      generalize r.length + 1 = L at *
      clear ht
      go_enter Tryz.func63, Tryz.ntmps63
      go_wp2_with (go_at_call 128; refine hc'.mono ?_; rintro e w1 ⟨a, k, rfl, hB⟩)
      go_ret
      exact ⟨rfl, hB⟩
end Go.Proofs.YtkmoeflodafoeaaGreatDoor
