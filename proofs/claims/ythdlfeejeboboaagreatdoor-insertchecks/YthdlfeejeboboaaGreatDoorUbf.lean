/- Insertion, plain: how many sites, where kids lie. Package insert: part's loop, what it keeps. -/
import Derived.Test.YthdlfeejeboboaaGreatDoorUbe
namespace Go.Proofs.YthdlfeejeboboaaGreatDoor
set_option maxRecDepth 100000
set_option linter.unusedVariables false
set_option linter.unusedSimpArgs false
namespace In
open Ck
open T3.Tp (Ty enc cns met sta)
open Tr (T Nd nm flat flats cut32 wf)

theorem wish_sites (x : Nd) (tk : List Ty) (kx : List Nd) (st : List PT × List Si) (w : Nat × Ty × Int) : (wish x tk kx st w).2.length ≤ st.2.length + 1 := by
  unfold wish
  split
  · omega
  · simp
theorem fold_sites (x : Nd) (tk : List Ty) (kx : List Nd) : ∀ (ws : List (Nat × Ty × Int)) (st : List PT × List Si), (ws.foldl (wish x tk kx) st).2.length ≤ st.2.length + ws.length
  | [], st => by simp
  | w :: r, st => by
    rw [List.foldl_cons]
    have h1 := fold_sites x tk kx r (wish x tk kx st w)
    have h2 := wish_sites x tk kx st w
    simp only [List.length_cons]
    omega
theorem each_len (n : Nat) (t : Ty) (r : Int) : (each n t r).length = n := by simp [each]
theorem ite_len {α : Type} {c : Prop} [Decidable c] {a b : List α} {n : Nat} (h : a.length ≤ n) (k : b.length ≤ n) : (if c then a else b).length ≤ n := by split <;> assumption
theorem each_le {m : Nat} (n : Nat) (t : Ty) (r : Int) (h : n ≤ m) : (each n t r).length ≤ m := by rw [each_len]; exact h
theorem wishes_len (x : Nd) (τ : Ty) (tk : List Ty) : (wishes x τ tk).length ≤ tk.length + 3 := by
  unfold wishes
  (repeat' (first | exact each_le _ _ _ (by omega) | (refine ite_len ?_ ?_))) <;> simp
theorem plcs_len (ks : List T) (p : Nat) : (plcs ks p).length = ks.length := by simp [plcs]
mutual
theorem sites_T (N : List (List UInt8)) (ts : List Ty) : ∀ (t : T) (L : List (List UInt8)) (i : Nat) (ss : List Si), (inT N ts L t i ss).2.length + 1 ≤ ss.length + 4 * (flat t).length
  | .nd x ks, L, i, ss => by
    rw [inT]
    simp only
    have h1 := fold_sites x ((plcs ks (i + 1)).map fun p => ts.getD p .tq) (ks.map rootN) (wishes x (ts.getD i .tq) ((plcs ks (i + 1)).map fun p => ts.getD p .tq)) (inL N ts L x 0 ks (i + 1) ss)
    have h2 := wishes_len x (ts.getD i .tq) ((plcs ks (i + 1)).map fun p => ts.getD p .tq)
    have h3 := sites_L N ts ks L x 0 (i + 1) ss
    rw [List.length_map, plcs_len] at h2
    rw [flat, List.length_cons]
    omega
theorem sites_L (N : List (List UInt8)) (ts : List Ty) : ∀ (ks : List T) (L : List (List UInt8)) (x : Nd) (j i : Nat) (ss : List Si), (inL N ts L x j ks i ss).2.length + ks.length ≤ ss.length + 4 * (flats ks).length
  | [], L, x, j, i, ss => by rw [inL]; simp
  | t :: r, L, x, j, i, ss => by
    rw [inL]
    simp only
    have h1 := sites_T N ts t (inn x j L) i ss
    have h2 := sites_L N ts r L x (j + 1) (i + (flat t).length) (inT N ts (inn x j L) t i ss).2
    simp only [flats, List.length_append, List.length_cons]
    omega
end
theorem nodeP_len (N L : List (List UInt8)) (τ : Ty) (x : Nd) : (nodeP N L τ x).length ≤ 1 := by
  unfold nodeP
  split
  · simp
  · simp
theorem inT_form (N : List (List UInt8)) (ts : List Ty) : ∀ (t : T) (L : List (List UInt8)) (i : Nat) (ss : List Si), (inT N ts L t i ss).1.plc = i ∧ ∀ a ah ks, (inT N ts L t i ss).1 = .pt a ah ks → ah.length ≤ 1
  | .nd x ks, L, i, ss => by
    rw [inT]
    simp only
    refine ⟨rfl, fun a ah ks' e => ?_⟩
    cases e
    exact nodeP_len _ _ _ _
theorem inL_plc (N : List (List UInt8)) (ts : List Ty) : ∀ (ks : List T) (L : List (List UInt8)) (x : Nd) (j i : Nat) (ss : List Si), (inL N ts L x j ks i ss).1.map PT.plc = plcs ks i ∧ AhB 1 (inL N ts L x j ks i ss).1
  | [], L, x, j, i, ss => by
    rw [inL]
    exact ⟨by simp [plcs], fun k a ah ks' e => by simp at e⟩
  | t :: r, L, x, j, i, ss => by
    rw [inL]
    simp only
    obtain ⟨h1, h2⟩ := inL_plc N ts r L x (j + 1) (i + (flat t).length) (inT N ts (inn x j L) t i ss).2
    obtain ⟨h3, h4⟩ := inT_form N ts t (inn x j L) i ss
    refine ⟨by rw [List.map_cons, h1, plcs_cons, h3], fun k a ah ks' e => ?_⟩
    cases k with
    | zero => simp at e; exact h4 a ah ks' e
    | succ k => exact h2 k a ah ks' (by simpa using e)
theorem inL_len (N : List (List UInt8)) (ts : List Ty) (ks : List T) (L : List (List UInt8)) (x : Nd) (j i : Nat) (ss : List Si) : (inL N ts L x j ks i ss).1.length = ks.length := by
  have h := congrArg List.length (inL_plc N ts ks L x j i ss).1
  rw [List.length_map, plcs_len] at h
  exact h
theorem rootN_flat : ∀ (t : T), (flat t)[0]? = some (rootN t)
  | .nd x ks => by rw [flat]; rfl
theorem gd_at {ts : List Ty} : ∀ {t : T} {i : Nat}, Gd ts t i → ∃ τ, ts[i]? = some τ
  | .nd x ks, i, h => by rw [Gd] at h; obtain ⟨⟨τ, h, _⟩, _⟩ := h; exact ⟨τ, h⟩
theorem kd_of (l : List Nd) (ts : List Ty) : ∀ (ks : List T) (p : Nat) (rest : List Nd), l.drop p = flats ks ++ rest → GdL ts ks p → Kd2 l ts (plcs ks p) ((plcs ks p).map fun q => ts.getD q .tq) (ks.map rootN)
  | [], p, rest, hd, hg => ⟨by simp [plcs], fun k q h => by simp [plcs] at h⟩
  | t :: r, p, rest, hd, hg => by
    rw [GdL] at hg
    have hd2 : l.drop (p + (flat t).length) = flats r ++ rest := by
      have h := congrArg (List.drop (flat t).length) hd
      rw [List.drop_drop, flats, List.append_assoc, List.drop_left] at h
      exact h
    have ih := kd_of l ts r (p + (flat t).length) rest hd2 hg.2
    have h0 : l[p]? = some (rootN t) := by
      have h := congrArg (fun m => m[0]?) hd
      simp only [List.getElem?_drop, Nat.add_zero] at h
      rw [h, flats, List.append_assoc, List.getElem?_append_left (Tr.flat_pos t)]
      exact rootN_flat t
    obtain ⟨τ, hτ⟩ := gd_at hg.1
    refine ⟨by simp, fun k q h => ?_⟩
    rw [plcs_cons] at h ⊢
    cases k with
    | zero =>
      simp at h
      subst h
      exact ⟨_, τ, h0, hτ, by simp [List.getD_eq_getElem?_getD, hτ], by simp⟩
    | succ k =>
      obtain ⟨y, t2, h1, h2, h3, h4⟩ := ih.at' k q (by simpa using h)
      exact ⟨y, t2, h1, h2, by simpa using h3, by simpa using h4⟩
theorem within_len (x : Nd) (L : List (List UInt8)) : (within x L).length ≤ L.length + 2 := by
  unfold within
  split
  · simp
  · split
    · simp
    · omega
end In
end Go.Proofs.YthdlfeejeboboaaGreatDoor
namespace Go.Proofs.YthdlfeejeboboaaGreatDoor
open Go.RowKit Go.Maps Ck
open Go.WideMaps Go.WideElems
open T3.Tp (Ty enc cns met)
open Tr (T Nd nm flat flats)
set_option maxRecDepth 100000
set_option linter.unusedSimpArgs false
set_option linter.unusedVariables false
namespace In
theorem PMp.upd {w : World} {mb : Nat} {pl bs : List Nat} (h : PMp w mb pl bs) {p : Nat} (hp : p ∉ pl) (hp2 : p < 1000000) (hn : pl.length < 1000000) (b : Nat) :
    ∃ w', (Instr.mapUpdate 114 (.map (some mb)) (.int .i64 (p : Int)) (.pointer (some ⟨b, 0, none⟩))).run Tryz.prog w = .ok () w' ∧ PMp w' mb (pl ++ [p]) (bs ++ [b]) ∧ w.grownBy w' (some mb) := by
  obtain ⟨D, n, hD, h1, h2, h3⟩ := h
  have hkey : keyOf Tryz.prog 3 (.int .i64 (p : Int)) = some (.int .i64 (p : Int)) := keyOf_int_mk tyI3 (by apply WalkArith.wf_i64; omega)
  obtain ⟨w', hr, ho, hg⟩ := hD.update keyed3 tyPm (by unfold maxLen; omega) hkey (ptrE_mk b)
  exact ⟨w', hr, PMp.put hD h1 h2 h3 hp ho, hg⟩
structure Lq (B ib fb i b kb mb lo n A0 : Nat) (md : ByteArray) (nv tv va : Value) (l : List Nd) (ts : List Ty) (N : List (List UInt8)) (ah : List Nd) (xc : Array Value) (w0 : World) (v iv : Value) (L L2 : List (List UInt8)) (p : Nat) (dn : List PT) (ss : List Si) (bs : List Nat) (sv : Value) (w : World) : Prop where
  is : Is B w ib sv md nv tv l ts N fb p ss
  pn : ∃ cur, cur.length = n ∧ (∀ k, k < dn.length → cur[k]? = (icells (dn.map PT.plc))[k]?) ∧ Pn w b i va kb mb n cur (dn.map PT.plc) bs
  ah : w.ownsRow 0 72 8 va ah.length (nrow ah)
  ks : IsPTs w dn lo w.heap.size bs
  ar : IsAr w v L
  ir : IsAr w iv L2
  nd : w.heap[A0]? = some (.cells xc 72 (0, 0))
  fz : Fz B ib w0.heap.size w0 w
  pl : ∀ q ∈ dn.map PT.plc, q < p
  lt : B ≤ w0.heap.size ∧ w0.heap.size ≤ b ∧ b < lo ∧ w0.heap.size ≤ kb ∧ kb < lo ∧ w0.heap.size ≤ mb ∧ mb < lo ∧ lo ≤ w.heap.size
variable {B ib fb i b kb mb lo n A0 p : Nat} {md : ByteArray} {nv tv va v iv sv : Value} {l : List Nd} {ts : List Ty} {N L L2 : List (List UInt8)} {ah : List Nd} {xc : Array Value} {w0 w : World} {dn : List PT} {ss : List Si} {bs : List Nat}
theorem Kp.setI {lo hi kb : Nat} {w : World} {C : Array Value} (h : w.heap[kb]? = some (.cells C 3 (0, 0))) (hb : kb < lo ∨ hi ≤ kb) (o : Nat) (u : Value) : Kp lo hi w (w.setCell ⟨kb, o, none⟩ u) := by
  refine ⟨fun k cur hk => setc_ne ?_, fun k cur h1 h2 hk => setc_ne (by omega), fun k cur h1 h2 hk => setc_ne (by omega), fun k es c h1 h2 hk => setc_ne (by omega)⟩
  rintro rfl
  rw [h] at hk
  have h2 := Option.some.inj hk
  injection h2 with _ h3 _
  exact absurd h3 (by decide)
theorem Kp.grownM {lo hi mb : Nat} {w w' : World} {es : Array MapEntry} {c : Nat} (h : w.heap[mb]? = some (.map es c)) (hg : w.grownBy w' (some mb)) (hb : mb < lo ∨ hi ≤ mb) : Kp lo hi w w' := by
  have lt : ∀ {k o}, w.heap[k]? = some o → k < w.heap.size := fun h => (Array.getElem?_eq_some_iff.1 h).1
  refine ⟨fun k cur hk => hg.block k (lt hk) ?_, fun k cur h1 h2 hk => hg.block k (lt hk) ?_, fun k cur h1 h2 hk => hg.block k (lt hk) ?_, fun k es c h1 h2 hk => hg.block k (lt hk) ?_⟩
  · intro e; have e := Option.some.inj e; subst e; rw [h] at hk; cases hk
  · intro e; have e := Option.some.inj e; omega
  · intro e; have e := Option.some.inj e; omega
  · intro e; have e := Option.some.inj e; omega
theorem Lq.store (h : Lq B ib fb i b kb mb lo n A0 md nv tv va l ts N ah xc w0 v iv L L2 p dn ss bs sv w) (hj : dn.length < n) :
    ∃ w1, w1 = (w.setCell ⟨kb, dn.length, none⟩ (.int .i64 (p : Int))).drew ∧ Is B w1 ib sv md nv tv l ts N fb p ss ∧ IsAr w1 v L ∧ IsAr w1 iv L2 ∧ w1.heap.size = w.heap.size ∧ w1.cell? ⟨b, 3, none⟩ = some (.map (some mb)) ∧ w1.heap[A0]? = some (.cells xc 72 (0, 0)) ∧
      ∀ (w2 : World) (bq : Nat) (sv2 : Value) (q : PT × List Si) (p' : Nat), IsPT w2 q.1 w1.heap.size w2.heap.size bq → q.1.plc = p → Is B w2 ib sv2 md nv tv l ts N fb p' q.2 → Fz B ib w1.heap.size w1 w2 → p < p' → p < 1000000 → dn.length < 1000000 →
        ∃ w3, (Instr.mapUpdate 114 (.map (some mb)) (.int .i64 (p : Int)) (.pointer (some ⟨bq, 0, none⟩))).run Tryz.prog w2 = .ok () w3 ∧ w2.cell? ⟨b, 3, none⟩ = some (.map (some mb)) ∧ w3.cell? ⟨b, 3, none⟩ = some (.map (some mb)) ∧ Lq B ib fb i b kb mb lo n A0 md nv tv va l ts N ah xc w0 v iv L L2 p' (dn ++ [q.1]) q.2 (bs ++ [bq]) sv2 w3 := by
  obtain ⟨cur, hc1, hc2, hpn⟩ := h.pn
  obtain ⟨t1, t2, t3, t4, t5, t6, t7, t8⟩ := h.lt
  obtain ⟨i1, i2, i3⟩ := h.is.lt
  have lt : ∀ {W : World} {k o}, W.heap[k]? = some o → k < W.heap.size := fun h => (Array.getElem?_eq_some_iff.1 h).1
  obtain ⟨es, cc, hm⟩ := hpn.mp.isMap
  have hbk : b ≠ kb := by
    rintro rfl
    have h1 := hpn.blk
    rw [hpn.row] at h1
    have h2 := Option.some.inj h1
    injection h2 with _ h3 _
    exact absurd h3 (by decide)
  have hmk : mb ≠ kb := by rintro rfl; rw [hpn.row] at hm; cases hm
  have ne9 : ∀ (k : Nat) (C : Array Value), w.heap[k]? = some (.cells C 9 (0, 0)) → k ≠ kb := by
    rintro k C hk rfl
    rw [hpn.row] at hk
    have h2 := Option.some.inj hk
    injection h2 with _ h3 _
    exact absurd h3 (by decide)
  have neA : A0 ≠ kb := by
    rintro rfl
    have h1 := h.nd
    rw [hpn.row] at h1
    have h2 := Option.some.inj h1
    injection h2 with _ h3 _
    exact absurd h3 (by decide)
  refine ⟨_, rfl, ?_⟩
  generalize hw1 : (w.setCell ⟨kb, dn.length, none⟩ (.int .i64 (p : Int))).drew = w1
  have hh : ∀ k : Nat, w1.heap[k]? = (w.setCell ⟨kb, dn.length, none⟩ (.int .i64 (p : Int))).heap[k]? := fun k => by rw [← hw1]; rfl
  have hsz : w1.heap.size = w.heap.size := by rw [← hw1]; exact (by simp [World.setCell] : (w.setCell ⟨kb, dn.length, none⟩ (.int .i64 (p : Int))).heap.size = w.heap.size)
  have hne : ∀ k : Nat, k ≠ kb → w1.heap[k]? = w.heap[k]? := fun k hk => (hh k).trans (setc_ne hk)
  have hI1 : Is B w1 ib sv md nv tv l ts N fb p ss := by
    have h1 := h.is.setH (b := kb) (o := dn.length) (u := .int .i64 (p : Int)) (by omega) hpn.row (by decide)
    rw [← hw1]
    exact h1.below ⟨rfl, rfl, rfl, Nat.le_refl _, fun _ _ => rfl⟩
  have hr1 : w1.heap[kb]? = some (.cells (cur.set dn.length (.int .i64 (p : Int))).toArray 3 (0, 0)) := by
    rw [hh kb, setc hpn.row]
    simp
  have hpn1 : Pn w1 b i va kb mb n (cur.set dn.length (.int .i64 (p : Int))) (dn.map PT.plc) bs := ⟨(hne b hbk).trans hpn.blk, hr1, hpn.mp.keep (hne mb hmk)⟩
  have K1 : ∀ lo' hi' : Nat, kb < lo' ∨ hi' ≤ kb → Kp lo' hi' w w1 := fun lo' hi' hb => by
    have k := Kp.setI hpn.row hb dn.length (.int .i64 (p : Int))
    exact ⟨fun k' c hk => (hh k').trans (k.nd k' c hk), fun k' c a b' hk => (hh k').trans (k.pt k' c a b' hk), fun k' c a b' hk => (hh k').trans (k.it k' c a b' hk), fun k' c d a b' hk => (hh k').trans (k.mp k' c d a b' hk)⟩
  have hA1 : w1.heap[A0]? = some (.cells xc 72 (0, 0)) := (hne A0 neA).trans h.nd
  refine ⟨hI1, h.ar.kept fun k C hk => hne k (ne9 k C hk), h.ir.kept fun k C hk => hne k (ne9 k C hk), hsz, hpn1.cells.2.2.2.1, hA1, fun w2 bq sv2 q p' hPT hq hI2 hF hp' hp1 hd => ?_⟩
  have K2 : ∀ lo' hi' : Nat, Kp lo' hi' w1 w2 := fun lo' hi' => hF.kp hI1.blk lo' hi'
  have hpn2 : Pn w2 b i va kb mb n (cur.set dn.length (.int .i64 (p : Int))) (dn.map PT.plc) bs := hpn1.keep (lo := 0) (m := lo) (K2 0 lo) (Nat.zero_le _) t3 (Nat.zero_le _) t5 (Nat.zero_le _) t7
  have hpn' : p ∉ dn.map PT.plc := fun hm => by have := h.pl p hm; omega
  obtain ⟨w3, hr, hmp3, hg3⟩ := hpn2.mp.upd hpn' hp1 (by simpa using hd) bq
  obtain ⟨es2, cc2, hm2⟩ := hpn2.mp.isMap
  have K3 : ∀ lo' hi' : Nat, mb < lo' ∨ hi' ≤ mb → Kp lo' hi' w2 w3 := fun lo' hi' hb => Kp.grownM hm2 hg3 hb
  have hbm : b ≠ mb := by rintro rfl; rw [hpn2.blk] at hm2; cases hm2
  have hkm : kb ≠ mb := by rintro rfl; rw [hpn2.row] at hm2; cases hm2
  have g3 : ∀ k, k < w2.heap.size → k ≠ mb → w3.heap[k]? = w2.heap[k]? := fun k hk hn => hg3.block k hk (by intro e; exact hn (Option.some.inj e))
  have hs12 := hF.size
  have hb3 : w3.heap[b]? = w2.heap[b]? := g3 b (lt hpn2.blk) hbm
  have hk3 : w3.heap[kb]? = w2.heap[kb]? := g3 kb (lt hpn2.row) hkm
  have F23 : Fz B ib w0.heap.size w2 w3 := Fz.grownN hg3 (fun z hz => by cases hz; exact t6) (by omega)
  have F1 : Fz B ib w0.heap.size w w1 := ⟨by rw [← hw1]; rfl, by rw [← hw1]; rfl, by rw [← hw1]; rfl, by omega, fun k hk _ _ => hne k (by omega)⟩
  have s3 := hg3.size
  have hI3 : Is B w3 ib sv2 md nv tv l ts N fb p' q.2 := hI2.move (F23.mono t1) ((g3 ib (lt hI2.blk) (by omega)).trans hI2.blk) (own_keepG hI2.own fun g C _ hC => g3 g (lt hC) (by rintro rfl; rw [hm2] at hC; cases hC))
  have ar2 : ∀ (vv : Value) (LL : List (List UInt8)), IsAr w vv LL → IsAr w3 vv LL := fun vv LL ha => by
    refine ((ha.kept fun k C hk => hne k (ne9 k C hk)).kept (w' := w2) fun k C hk => hF.block k (lt hk) (by rintro rfl; rw [hI1.blk] at hk; cases hk) (.inr fun C2 e => by rw [hk] at e; cases e)).kept fun k C hk => g3 k (lt hk) (by rintro rfl; rw [hm2] at hk; cases hk)
  refine ⟨w3, hr, hpn2.cells.2.2.2.1, (World.cell?_of_block (a := ⟨b, 3, none⟩) hb3).trans hpn2.cells.2.2.2.1, hI3, ⟨cur.set dn.length (.int .i64 (p : Int)), by simpa using hc1, ?_, ?_⟩, ?_, ?_, ar2 _ _ h.ar, ar2 _ _ h.ir, ?_, ?_, ?_, ⟨t1, t2, t3, t4, t5, t6, t7, by omega⟩⟩
  · intro k hk
    rw [List.length_append, List.length_singleton] at hk
    by_cases e : k = dn.length
    · subst e
      rw [List.getElem?_set_self (by omega)]
      simp [icells, List.getElem?_append_right, hq]
    · rw [List.getElem?_set_ne (by omega), hc2 k (by omega)]
      simp only [icells, List.map_append, List.getElem?_map]
      rw [List.getElem?_append_left (by simp; omega)]
      simp
  · refine ⟨hb3.trans hpn2.blk, hk3.trans hpn2.row, ?_⟩
    rw [List.map_append]
    simpa [hq] using hmp3
  · refine own_keepG (own_keepG (own_keepG h.ah (fun g C _ hC => (K1 (kb + 1) 0 (.inl (by omega))).nd g C hC)) (fun g C _ hC => (K2 0 0).nd g C hC)) (fun g C _ hC => (K3 (mb + 1) 0 (.inl (by omega))).nd g C hC)
  · have a1 : IsPTs w3 dn lo w1.heap.size bs := by
      rw [hsz]
      exact isPTs_keep _ (isPTs_keep _ (isPTs_keep _ h.ks (K1 lo w.heap.size (.inl t5))) (K2 lo _)) (K3 lo _ (.inl t7))
    have a2 : IsPT w3 q.1 w1.heap.size w2.heap.size bq := isPT_keep _ hPT (K3 _ _ (.inl (by omega)))
    exact isPTs_up _ (isPTs_snoc _ a1 a2) s3
  · have hA2 : w2.heap[A0]? = w1.heap[A0]? := hF.block A0 (lt hA1) (by rintro rfl; rw [hI1.blk] at hA1; cases hA1) (.inr fun C e => by rw [hA1] at e; cases e)
    rw [g3 A0 (by have := lt hA1; omega) (by rintro rfl; rw [hm2] at hA2; rw [hA1] at hA2; cases hA2), hA2]
    exact hA1
  · exact ((h.fz.trans F1).trans (hF.mono (by omega))).trans F23
  · intro z hz
    rw [List.map_append, List.mem_append] at hz
    rcases hz with hz | hz
    · have := h.pl z hz; omega
    · simp [hq] at hz; omega
end In
end Go.Proofs.YthdlfeejeboboaaGreatDoor
