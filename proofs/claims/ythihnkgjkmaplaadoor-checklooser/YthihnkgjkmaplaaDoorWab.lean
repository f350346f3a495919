/- Plain facts: parts of a tree that may be (of stage 5's texts, without the document's side). -/
import Derived.Test.YthihnkgjkmaplaaDoorUbj
import Derived.Test.YthihnkgjkmaplaaDoorUao
import Derived.Test.YthihnkgjkmaplaaDoorUbk
namespace Go.Proofs.YthihnkgjkmaplaaDoor
set_option maxRecDepth 100000
set_option linter.unusedSimpArgs false

theorem chkN_ref {l : List Tr.Nd} (h : ¬ (l.length = 0 ∨ 4096 < l.length)) : chkN l = match Tr.bad Tr.mayB l (Tr.dps (Tr.kd l) [1]) 0 with
      | some j => (18, j)
      | none => if Tr.go (Tr.kd l) [1] 0 = (true, 0 + l.length) then Tr.fin2 0 (Tr.deep (Tr.dps (Tr.kd l) [1]) 0) else (18, 0 + l.length) := by
  rw [chkN_ck h, Tr.ck_ref Tr.mayB (fun x hx => Tr.mayB_kids hx) l [1] 0 0 (by simp)]; rfl
theorem chkN_bad {l : List Tr.Nd} (h : ¬ (l.length = 0 ∨ 4096 < l.length)) {j : Nat} (hb : Tr.bad Tr.mayB l (Tr.dps (Tr.kd l) [1]) 0 = some j) : chkN l = (18, j) := by
  rw [chkN_ref h, hb]
theorem bh0_go {l : List Tr.Nd} (h : 0 < l.length) : bhI l 0 = l.length ↔ Tr.go (Tr.kd l) [1] 0 = (true, l.length) := by
  have h1 := bhI_go h
  rw [List.drop_zero] at h1
  rw [show ((0 : Nat) : Int) = 0 from rfl] at h1
  rw [h1]
  cases hg : Tr.go (Tr.kd l) [1] 0 with
  | mk b e => cases b <;> simp <;> omega
theorem chkN_short {l : List Tr.Nd} (h : ¬ (l.length = 0 ∨ 4096 < l.length)) (hb : Tr.bad Tr.mayB l (Tr.dps (Tr.kd l) [1]) 0 = none) (hg : bhI l 0 ≠ l.length) : chkN l = (18, l.length) := by
  rw [chkN_ref h, hb]
  simp only [Nat.zero_add]
  rw [if_neg (fun e => hg ((bh0_go (by omega)).2 e))]
theorem chkN_fin {l : List Tr.Nd} (h : ¬ (l.length = 0 ∨ 4096 < l.length)) (hb : Tr.bad Tr.mayB l (Tr.dps (Tr.kd l) [1]) 0 = none) (hg : bhI l 0 = l.length) : chkN l = Tr.fin2 0 (Tr.deep (Tr.dps (Tr.kd l) [1]) 0) := by
  rw [chkN_ref h, hb]
  simp only [Nat.zero_add]
  rw [if_pos ((bh0_go (by omega)).1 hg)]
namespace Tr
/-- A free name that is bound further up is none. -/
def dropb (b : List (List UInt8)) : Option (List UInt8) → Option (List UInt8)
  | none => none
  | some n => if n ∈ b then none else some n
theorem ob1_app (c b : List (List UInt8)) (x : Nd) : ob1 (c ++ b) x = dropb b (ob1 c x) := by
  unfold ob1
  by_cases h : x.kind = 4 ∧ nm x ∉ c
  · rw [if_pos h, dropb]
    by_cases hb : nm x ∈ b
    · rw [if_pos hb, if_neg (by rintro ⟨_, h2⟩; exact h2 (List.mem_append_right _ hb))]
    · rw [if_neg hb, if_pos ⟨h.1, by rw [List.mem_append]; exact fun hh => hh.elim h.2 hb⟩]
  · rw [if_neg h, dropb, if_neg (by rintro ⟨h1, h2⟩; exact h ⟨h1, fun hh => h2 (List.mem_append_left _ hh)⟩)]
mutual
theorem obT_app : ∀ (c b : List (List UInt8)) (t : T), obT (c ++ b) t = (obT c t).map (dropb b)
  | c, b, .nd x ks => by rw [obT, obT, List.map_cons, ob1_app, obL_app]
theorem obL_app : ∀ (c b : List (List UInt8)) (x : Nd) (j : Nat) (ts : List T), obL (c ++ b) x j ts = (obL c x j ts).map (dropb b)
  | c, b, x, j, [] => by simp [obL]
  | c, b, x, j, t :: r => by rw [obL, obL, List.map_append, ← List.append_assoc, obT_app, obL_app]
end
/-- One name more, if it is neither there nor bound. -/
def wo1 (bd acc : List (List UInt8)) (n : List UInt8) : List (List UInt8) := if n ∈ acc ∨ n ∈ bd then acc else acc ++ [n]
def wo (acc more bd : List (List UInt8)) : List (List UInt8) := more.foldl (wo1 bd) acc
theorem wo1_sub {bd acc : List (List UInt8)} {n m : List UInt8} (h : m ∈ acc) : m ∈ wo1 bd acc n := by
  unfold wo1; split
  · exact h
  · exact List.mem_append_left _ h
theorem wo_sub : ∀ (more acc bd : List (List UInt8)) {m : List UInt8}, m ∈ acc → m ∈ wo acc more bd
  | [], _, _, _, h => h
  | n :: more, acc, bd, _, h => wo_sub more (wo1 bd acc n) bd (wo1_sub h)
theorem wo_mem : ∀ (more acc bd : List (List UInt8)) {m : List UInt8}, m ∈ more → m ∉ bd → m ∈ wo acc more bd
  | [], _, _, _, h, _ => by simp at h
  | n :: more, acc, bd, m, h, hb => by
    show m ∈ wo (wo1 bd acc n) more bd
    rcases List.mem_cons.1 h with rfl | h
    · refine wo_sub more _ bd ?_
      unfold wo1; split
      · rename_i hh; exact hh.resolve_right hb
      · simp
    · exact wo_mem more _ bd h hb
theorem wo_snoc (acc more bd : List (List UInt8)) (n : List UInt8) : wo acc (more ++ [n]) bd = wo1 bd (wo acc more bd) n := by simp [wo]
theorem wo_len : ∀ (more acc bd : List (List UInt8)), (wo acc more bd).length ≤ acc.length + more.length
  | [], _, _ => Nat.le_refl _
  | n :: more, acc, bd => by
    have h1 := wo_len more (wo1 bd acc n) bd
    have h2 : (wo1 bd acc n).length ≤ acc.length + 1 := by unfold wo1; split <;> simp
    show (wo (wo1 bd acc n) more bd).length ≤ _
    simp; omega
theorem add1_wo (acc P bd : List (List UInt8)) (o : Option (List UInt8)) : add1 (wo acc P bd) (dropb bd o) = wo acc (add1 P o) bd := by
  cases o with
  | none => rfl
  | some n =>
    rw [dropb]
    by_cases hb : n ∈ bd
    · rw [if_pos hb, add1, add1]
      split
      · rfl
      · rw [wo_snoc, wo1, if_pos (.inr hb)]
    · rw [if_neg hb, add1, add1]
      by_cases hp : n ∈ P
      · rw [if_pos hp, if_pos (wo_mem _ _ _ hp hb)]
      · rw [if_neg hp, wo_snoc, wo1]
        by_cases ha : n ∈ wo acc P bd
        · rw [if_pos ha, if_pos (.inl ha)]
        · rw [if_neg ha, if_neg (fun hh => hh.elim ha hb)]
theorem adds_wo : ∀ (L : List (Option (List UInt8))) (acc P bd : List (List UInt8)), adds (wo acc P bd) (L.map (dropb bd)) = wo acc (adds P L) bd
  | [], _, _, _ => rfl
  | o :: L, acc, P, bd => by
    show adds (add1 (wo acc P bd) (dropb bd o)) (L.map (dropb bd)) = wo acc (adds (add1 P o) L) bd
    rw [add1_wo, adds_wo L]
theorem adds_obT (acc bd : List (List UInt8)) (t : T) : adds acc (obT bd t) = wo acc (free t) bd := by
  have h := adds_wo (obT [] t) acc [] bd
  rw [← obT_app, List.nil_append] at h
  exact h
/-- The free names of some kids, gathered. -/
def frs (x : Nd) (j : Nat) (acc : List (List UInt8)) : List T → List (List UInt8)
  | [] => acc
  | t :: r => frs x (j + 1) (wo acc (free t) (binds x j)) r
theorem adds_obL : ∀ (ts : List T) (acc : List (List UInt8)) (x : Nd) (j : Nat), adds acc (obL [] x j ts) = frs x j acc ts
  | [], acc, x, j => by simp [obL, adds, frs]
  | t :: r, acc, x, j => by rw [obL, List.append_nil, adds_append, adds_obT, adds_obL r, frs]
theorem free_node {x : Nd} {ks : List T} (h : x.kind ≠ 4) : free (.nd x ks) = frs x 0 [] ks := by
  rw [← adds_obL, free, obT, ob1, if_neg (fun hh => h hh.1)]
  rfl
theorem free_len (t : T) : (free t).length ≤ (flat t).length := by
  have := adds_len (obT [] t) []
  rw [ob_len] at this
  unfold free
  simpa using this
mutual
theorem dpT_len : ∀ (d : Nat) (t : T), (dpT d t).length = (flat t).length
  | d, .nd x ks => by rw [dpT, flat, List.length_cons, List.length_cons, dpL_len]
theorem dpL_len : ∀ (d : Nat) (ts : List T), (dpL d ts).length = (flats ts).length
  | _, [] => by simp [dpL, flats]
  | d, t :: r => by rw [dpL, flats, List.length_append, List.length_append, dpT_len, dpL_len]
end
theorem mx_ge : ∀ (ds : List Nat) (a : Nat), a ≤ mx ds a ∧ ∀ d ∈ ds, d ≤ mx ds a
  | [], a => ⟨Nat.le_refl _, by simp⟩
  | d :: ds, a => by
    obtain ⟨h1, h2⟩ := mx_ge ds (max a d)
    rw [mx]
    refine ⟨by omega, fun e he => ?_⟩
    rcases List.mem_cons.1 he with rfl | he
    · omega
    · exact h2 e he
theorem deep_none : ∀ (ds : List Nat) (i : Nat), (∀ d ∈ ds, d ≤ 64) → deep ds i = none
  | [], _, _ => rfl
  | d :: ds, i, h => by rw [deep, if_neg (by have := h d (by simp); omega)]; exact deep_none ds _ (fun e he => h e (by simp [he]))
theorem bad_none {may : Nd → Bool} : ∀ (l : List Nd) (ds : List Nat) (i : Nat), (∀ x ∈ l, may x = true) → l.length ≤ ds.length → bad may l ds i = none
  | [], _, _, _, _ => rfl
  | x :: l, [], _, _, h => by simp at h
  | x :: l, d :: ds, i, hm, h => by rw [bad, if_neg (by rw [hm x (by simp)]; decide)]; exact bad_none l ds _ (fun y hy => hm y (by simp [hy])) (by simpa using h)
theorem dps_tree {t : T} (hw : wf t) : dps (kd (flat t)) [1] = dpT 1 t := by
  have hd := dps_flat t [] 0 [] hw
  have h0 : dps [] [0] = [] := rfl
  simpa [h0, kd] using hd
theorem highs_take : ∀ (ks : List T) (k : Nat) (h : k < ks.length), highs (ks.take (k + 1)) = max (highs (ks.take k)) (high ks[k])
  | t :: r, 0, _ => by simp [highs]
  | t :: r, k + 1, h => by
    have := highs_take r k (by simpa using h)
    simp only [List.take_succ_cons, highs, this, List.getElem_cons_succ]
    omega
end Tr

theorem bhI_tree {t : Tr.T} (hw : Tr.wf t) : bhI (Tr.flat t) 0 = (Tr.flat t).length := by
  unfold bhI
  rw [if_neg (by omega), show (0 : Int).toNat = 0 from rfl, Tr.bh_tree (t := t) (rest := []) (by simp) hw]; omega
theorem chk_of {t : Tr.T} (hw : Tr.wf t) (hm : ∀ x ∈ Tr.flat t, Tr.mayB x = true) (hl : (Tr.flat t).length ≤ 4096) (hh : Tr.high t ≤ 64) : chkN (Tr.flat t) = (0, 0) := by
  have hp := Tr.flat_pos t
  rw [chkN_fin (by omega) ?_ (bhI_tree hw), Tr.dps_tree hw, Tr.deep_none]
  · rfl
  · intro d hd
    have h1 := (Tr.mx_ge (Tr.dpT 1 t) 0).2 d hd
    rw [Tr.mx_dpT] at h1
    omega
  · rw [Tr.dps_tree hw]
    exact Tr.bad_none _ _ _ hm (by rw [Tr.dpT_len]; exact Nat.le_refl _)
theorem deep_tree {t : Tr.T} (hw : Tr.wf t) : deepN (Tr.flat t) = Tr.high t := by
  have hp := Tr.flat_pos t
  unfold deepN
  rw [bhI_tree hw, if_neg (by omega), Tr.dps_tree hw, Tr.mx_dpT]; omega

/-- What holds of the node at a place of a tree that may be. -/
structure PartAt (l : List Tr.Nd) (p : Nat) (x : Tr.Nd) (ks : List Tr.T) (e : Nat) : Prop where
  at' : l[p]? = some x
  kids : x.kids = ks.length
  wfk : Tr.wfs ks
  fin : bhI l p = e
  lt : p < e
  le : e ≤ l.length
  all : (l.drop p).take (e - p) = Tr.flat (.nd x ks)
  first : Tr.kidAt l p 0 = p + 1
  last : Tr.kidAt l p ks.length = e
  kn : kidsN l p = (List.range ks.length).map (Tr.kidAt l p)
  step : ∀ k (h : k < ks.length), Tr.kidAt l p k < Tr.kidAt l p (k + 1) ∧ Tr.kidAt l p (k + 1) ≤ e ∧ bhI l (Tr.kidAt l p k) = Tr.kidAt l p (k + 1) ∧ (l.drop (Tr.kidAt l p k)).take (Tr.kidAt l p (k + 1) - Tr.kidAt l p k) = Tr.flat ks[k]
  chk : chkN (Tr.flat (.nd x ks)) = (0, 0)
  chks : ∀ k (h : k < ks.length), chkN (Tr.flat ks[k]) = (0, 0) ∧ Tr.wf ks[k] ∧ (Tr.flat ks[k]).length ≤ l.length
  may : Tr.mayB x = true
  dp : Tr.high (.nd x ks) ≤ 64
  sum : (Tr.flats ks).length ≤ l.length

theorem wf_at : ∀ {ks : List Tr.T}, Tr.wfs ks → ∀ k (h : k < ks.length), Tr.wf ks[k] ∧ Tr.high ks[k] ≤ Tr.highs ks ∧ ∀ y ∈ Tr.flat ks[k], y ∈ Tr.flats ks
  | t :: r, hw, 0, _ => by
    rw [Tr.wfs] at hw
    refine ⟨hw.1, by simp only [Tr.highs, List.getElem_cons_zero]; omega, fun y hy => ?_⟩
    rw [Tr.flats]; exact List.mem_append_left _ hy
  | t :: r, hw, k + 1, h => by
    rw [Tr.wfs] at hw
    obtain ⟨h1, h2, h3⟩ := wf_at hw.2 k (by simpa using h)
    refine ⟨h1, by simp only [Tr.highs, List.getElem_cons_succ]; omega, fun y hy => ?_⟩
    rw [Tr.flats]; exact List.mem_append_right _ (h3 y hy)

theorem part_at {l : List Tr.Nd} (hc : (chkN l).1 = 0) {p : Nat} (hp : p < l.length) : ∃ x ks e, PartAt l p x ks e := by
  obtain ⟨t, hw, rfl, hmay, hlen, hh⟩ := chk_tree hc
  obtain ⟨t', rest, hd, hw', hh'⟩ := Tr.sub_T t p hw hp
  obtain ⟨x, ks⟩ := t'
  have hwk := hw'
  rw [Tr.wf] at hwk
  have hbt := Tr.bh_tree hd hw'
  have hb : bhI (Tr.flat t) p = p + (Tr.flat (.nd x ks)).length := by unfold bhI; rw [if_neg (by omega), Int.toNat_natCast]; exact hbt
  have hfp := Tr.flat_pos (.nd x ks)
  have hlen2 : p + (Tr.flat (.nd x ks)).length ≤ (Tr.flat t).length := by
    have := congrArg List.length hd; simp at this; omega
  obtain ⟨x', n', f1, f2, f3, f4, f5, f6, f7⟩ := part_facts (l := Tr.flat t) (p := p) (by omega)
  have hx : (Tr.flat t)[p]? = some x := by have := Tr.at_drop (q := 0) hd; simpa [Tr.flat] using this
  obtain rfl : x' = x := by rw [hx] at f1; exact (Option.some.inj f1).symm
  obtain rfl : n' = ks.length := by have := hwk.1; omega
  have hk := fun k hk => Tr.kidAt_tree hwk.2 hd k hk
  have hmem : ∀ y ∈ Tr.flat (.nd x' ks), y ∈ Tr.flat t := fun y hy => List.mem_of_mem_drop (i := p) (by rw [hd]; exact List.mem_append_left _ hy)
  have hfl : (Tr.flat (.nd x' ks)).length = (Tr.flats ks).length + 1 := by simp [Tr.flat]
  have hhk : Tr.highs ks + 1 ≤ 64 := by rw [Tr.high] at hh'; omega
  have hsub : ∀ k (h : k < ks.length), (Tr.flat ks[k]).length ≤ (Tr.flats ks).length := fun k h => by
    have e1 := hk k (by omega)
    have e2 := hk (k + 1) (by omega)
    have e3 : (Tr.flats (ks.take (k + 1))).length = (Tr.flats (ks.take k)).length + (Tr.flat ks[k]).length := by
      rw [List.take_add_one, List.getElem?_eq_getElem h, Tr.flats_append]; simp [Tr.flats]
    have e5 : (Tr.flats (ks.take (k + 1))).length ≤ (Tr.flats ks).length := by
      have : Tr.flats ks = Tr.flats (ks.take (k + 1)) ++ Tr.flats (ks.drop (k + 1)) := by rw [← Tr.flats_append, List.take_append_drop]
      rw [this]; simp
    omega
  refine ⟨x', ks, _, hx, hwk.1, hwk.2, hb, by omega, hlen2, ?_, f6, by rw [f4, hb], f3, fun k h => ?_, ?_, fun k h => ?_, hmay _ (List.mem_of_getElem? hx), by rw [Tr.high]; exact hhk, by omega⟩
  · rw [hd, show p + (Tr.flat (.nd x' ks)).length - p = (Tr.flat (.nd x' ks)).length by omega, List.take_left]
  · obtain ⟨g1, g2, g3⟩ := f7 k h
    refine ⟨g1, by rw [← hb]; exact g2, g3.symm, ?_⟩
    have e1 := hk k (by omega)
    have e2 := hk (k + 1) (by omega)
    have e3 : (Tr.flats (ks.take (k + 1))).length = (Tr.flats (ks.take k)).length + (Tr.flat ks[k]).length := by
      rw [List.take_add_one, List.getElem?_eq_getElem h, Tr.flats_append]; simp [Tr.flats]
    have hd2 : (Tr.flat t).drop (p + 1 + (Tr.flats (ks.take k)).length) = Tr.flat ks[k] ++ (Tr.flats (ks.drop (k + 1)) ++ rest) := by
      rw [← List.drop_drop, ← List.drop_drop, hd, Tr.flat, List.cons_append, List.drop_succ_cons, List.drop_zero]
      have e : Tr.flats ks = Tr.flats (ks.take k) ++ Tr.flats (ks.drop k) := by rw [← Tr.flats_append, List.take_append_drop]
      rw [e, List.append_assoc, List.drop_left' rfl, List.drop_eq_getElem_cons h, Tr.flats, List.append_assoc]
    rw [e1, e2, hd2, show p + 1 + (Tr.flats (ks.take (k + 1))).length - (p + 1 + (Tr.flats (ks.take k)).length) = (Tr.flat ks[k]).length by omega, List.take_left]
  · exact chk_of hw' (fun y hy => hmay y (hmem y hy)) (by omega) (by rw [Tr.high]; exact hhk)
  · obtain ⟨w1, w2, w3⟩ := wf_at hwk.2 k h
    have := hsub k h
    exact ⟨chk_of w1 (fun y hy => hmay y (hmem y (by rw [Tr.flat]; exact List.mem_cons_of_mem _ (w3 y hy)))) (by omega) (by omega), w1, by omega⟩
end Go.Proofs.YthihnkgjkmaplaaDoor
