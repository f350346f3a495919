/- Package core: functions, let, casts. -/
import Derived.Test.YtnhihajhhlilfaaMgba
namespace Go.Proofs.Ytnhihajhhlilfaa
open Go.RowKit Co
open T3.Tp (Ty enc cns)
open Tr (T flat flats)
set_option maxRecDepth 100000
set_option linter.unusedSimpArgs false
set_option linter.unusedVariables false

/-- The cells of a node. -/
abbrev ndC (x : Tr.Nd) : Array Value := #[.int .i8 x.kind, .int .i64 x.kids, .int .i64 x.n, .string x.s, .string x.t, .string x.u, .int .i64 x.ln, .int .i64 x.co]
theorem Bd.one {W W2 : World} {n : Nat} {s : ByteArray} {t : Ty} (hs : s = S (enc t)) (hW : W2 = W.alloc (.cells #[.string s] 9)) (hn : n = W.heap.size) : Bd W2 (.slice (some ⟨n, 0, none⟩) 1 1) [t] := by
  subst hW hn hs
  refine .inr ⟨W.heap.size, by simp, by simp, rfl, by simp, fun j u hu => ?_⟩
  have hb := (block_cells (heap_alloc_new W (.cells #[.string (S (enc t))] 9))).1 j
  rw [hb]
  match j, hu with
  | 0, hu => simp at hu; subst hu; rfl
  | j + 1, hu => simp at hu
theorem Bd.two {W W2 : World} {n : Nat} {s1 s2 : ByteArray} {t1 t2 : Ty} (h1 : s1 = S (enc t1)) (h2 : s2 = S (enc t2)) (hW : W2 = W.alloc (.cells #[.string s1, .string s2] 9)) (hn : n = W.heap.size) : Bd W2 (.slice (some ⟨n, 0, none⟩) 2 2) [t1, t2] := by
  subst hW hn h1 h2
  refine .inr ⟨W.heap.size, by simp, by simp, rfl, by simp, fun j u hu => ?_⟩
  have hb := (block_cells (heap_alloc_new W (.cells #[.string (S (enc t1)), .string (S (enc t2))] 9))).1 j
  rw [hb]
  match j, hu with
  | 0, hu => simp at hu; subst hu; rfl
  | 1, hu => simp at hu; subst hu; rfl
  | j + 2, hu => simp at hu
set_option maxHeartbeats 4000000 in
theorem kind_let {B cb : Nat} {nv : Value} {l : List Tr.Nd} {rb N : Nat} {x : Tr.Nd} {ks : List T} {i : Nat} {rest : List Tr.Nd} (h : Kn B cb nv l rb N x ks i rest) (hκ : x.kind = 8) : KindC B cb nv l rb 36 x ks i := by
  intro env bv w hE hen hC
  have hks := h.kidN (n := 2) (by rw [hκ]; decide) (by omega)
  obtain ⟨a, b, rfl⟩ : ∃ a b, ks = [a, b] := by
    match ks, (show ks.length = 2 by omega) with
    | [a, b], _ => exact ⟨a, b, rfl⟩
  have hf : flats [a, b] = flat a ++ flat b := by simp [flats]
  have hN := h.hN
  have hd := h.hd
  rw [hf] at hN hd
  simp only [List.length_append] at hN
  have hr : tyT env (.nd x [a, b]) i = match tyT env a (i + 1) with | .error e => .error e | .ok s => tyT (s :: env) b (i + 1 + (flat a).length) := by
    rw [tyT]
    have ha : ahd env.length x i = Option.none := by unfold ahd; simp [hκ]
    rw [ha]
    simp only [hκ, if_true, tyB]
    cases tyT env a (i + 1) with
    | error e => rfl
    | ok s => simp [tyC]
  have hPa : Calls Try.prog 27 #[.pointer (some ⟨cb, 0, none⟩), .slice none 0 0] w (PtEnd B w cb nv bv l rb (i + 1 + (flat a).length) env (tyT env a (i + 1))) := h.hP a (i + 1) (flat b ++ rest) env [] (.slice none 0 0) bv w (by omega) h.hw.1 (by rw [hd, List.append_assoc]) hE hen hC (.inl ⟨rfl, rfl⟩)
  have hlen := fun τ => tyT_len a env (i + 1) τ hE
  have hdb : l.drop (i + 1 + (flat a).length) = flat b ++ rest := by rw [← List.drop_drop, hd, List.append_assoc, List.drop_left]
  have HPb : Aside (∀ (s : Ty) (bv1 : Value) (W W2 : World) (n : Nat), sz s ≤ 64 → Cs B W cb nv bv1 l rb (i + 1 + (flat a).length) env → W2 = W.alloc (.cells #[.string (S (enc s))] 9) → n = W.heap.size → Calls Try.prog 27 #[.pointer (some ⟨cb, 0, none⟩), .slice (some ⟨n, 0, none⟩) 1 1] W2 (PtEnd B W2 cb nv bv1 l rb (i + 1 + (flat a).length + (flat b).length) env (tyT (s :: env) b (i + 1 + (flat a).length)))) := fun s bv1 W W2 n hs hC1 hW hn => by
    have hB : Below W.heap.size W W2 := by rw [hW]; exact (Below.refl _ _).alloc (Nat.le_refl _) _
    exact h.hP b _ rest env [s] _ bv1 W2 (by omega) h.hw.2.1 hdb (fun t ht => by
      simp at ht
      rcases ht with rfl | ht
      · exact hs
      · exact hE t ht) (by omega) (hC1.below hB) (Bd.one rfl hW hn)
  have hfl : i + 1 + (flats [a, b]).length = i + 1 + (flat a).length + (flat b).length := by rw [hf, List.length_append]; omega
  rw [hr, hfl]
  generalize tyT env a (i + 1) = R at *
  clear hr hC h hd hdb hf hfl hN hκ hks
  cases R with
  | error q =>
    have HF : Aside (∀ e w3, PtEnd B w cb nv bv l rb (i + 1 + (flat a).length) env (.error q) e w3 → e = .panicked (thC q.1 q.2) ∧ PtEnd B w cb nv bv l rb (i + 1 + (flat a).length + (flat b).length) env (.error q) e w3) := fun e w3 h => ⟨h.1, h⟩
    clear HPb hlen
    go_enter Try.func36, Try.ntmps36
    go_wp2_with fail
    refine hPa.mono ?_
    intro e w3 h3
    obtain ⟨rfl, h4⟩ := HF.out e w3 h3
    clear hPa HF h3
    go_wp2_with fail
    exact ⟨rfl, h4⟩
  | ok s =>
    have hs := hlen s rfl
    show Calls _ _ _ _ (PtEnd B w cb nv bv l rb (i + 1 + (flat a).length + (flat b).length) env (tyT (s :: env) b (i + 1 + (flat a).length)))
    have HPb2 : Aside (∀ (bv1 : Value) (W W2 : World) (n : Nat), Cs B W cb nv bv1 l rb (i + 1 + (flat a).length) env → Mv cb w bv W bv1 → W2 = W.alloc (.cells #[.string (S (enc s))] 9) → n = W.heap.size → Calls Try.prog 27 #[.pointer (some ⟨cb, 0, none⟩), .slice (some ⟨n, 0, none⟩) 1 1] W2 (PtEnd B w cb nv bv l rb (i + 1 + (flat a).length + (flat b).length) env (tyT (s :: env) b (i + 1 + (flat a).length)))) := fun bv1 W W2 n hC1 hM1 hW hn => by
      have hB : Below W.heap.size W W2 := by rw [hW]; exact (Below.refl _ _).alloc (Nat.le_refl _) _
      refine (HPb.out s bv1 W W2 n hs hC1 hW hn).mono ?_
      intro e w4 h4
      cases hR : tyT (s :: env) b (i + 1 + (flat a).length) with
      | error q => rw [hR] at h4; exact ⟨h4.1, (hM1.trans (Mv.below hB)).thenF h4.2⟩
      | ok τ =>
        rw [hR] at h4
        obtain ⟨h1, bv2, h2, h3⟩ := h4
        exact ⟨h1, bv2, h2, (hM1.trans (Mv.below hB)).trans h3⟩
    clear HPb hlen hs
    cases hR : tyT (s :: env) b (i + 1 + (flat a).length) with
    | error q =>
      rw [hR] at HPb2
      go_enter Try.func36, Try.ntmps36
      go_wp2_with fail
      refine hPa.mono ?_
      rintro e w3 ⟨rfl, bv1, hC1, hM1⟩
      have hPb := fun W2 n => HPb2.out bv1 w3 W2 n hC1 hM1
      clear hPa HPb2 hC1 hM1 hR
      go_wp2_with fail
      refine (hPb _ _ rfl rfl).mono ?_
      intro e w4 h4
      have he := h4.1
      subst he
      clear hPb
      go_wp2_with fail
      exact ⟨rfl, h4⟩
    | ok τ =>
      rw [hR] at HPb2
      go_enter Try.func36, Try.ntmps36
      go_wp2_with fail
      refine hPa.mono ?_
      rintro e w3 ⟨rfl, bv1, hC1, hM1⟩
      have hPb := fun W2 n => HPb2.out bv1 w3 W2 n hC1 hM1
      clear hPa HPb2 hC1 hM1 hR
      go_wp2_with fail
      refine (hPb _ _ rfl rfl).mono ?_
      intro e w4 h4
      have he := h4.1
      subst he
      clear hPb
      go_wp2_with fail
      go_ret
      exact h4
end Go.Proofs.Ytnhihajhhlilfaa
