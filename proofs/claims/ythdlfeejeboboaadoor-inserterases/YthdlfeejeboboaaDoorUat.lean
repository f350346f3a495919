/- Insertion, plain: a tree without ?, in an environment without ?, gets no cast. -/
import Derived.Test.YthdlfeejeboboaaDoorUas
import Derived.Test.YthdlfeejeboboaaDoorUar
namespace Go.Proofs.YthdlfeejeboboaaDoor
set_option maxRecDepth 100000
set_option linter.unusedVariables false
set_option linter.unusedSimpArgs false
namespace In
open Ck
open T3.Tp (Ty enc cns met sta)
open Tr (T Nd nm flat flats cut32 wf)

theorem met_self : ∀ (a : Ty), met a a = a := by
  intro a
  induction a with
  | ti | tb | tt | tq => rfl
  | tl a ih | tx a ih => simp [met, ih]
  | tf a b iha ihb | tp a b iha ihb => simp [met, iha, ihb]
theorem eq_sta {a b : Ty} (ha : sta a = true) (hb : sta b = true) (h : cns a b = true) : a = b := by
  rw [T3.Tp.cns_sta ha hb] at h
  simpa using h
theorem has_q : ∀ (t : Ty), (enc t).contains 63 = !sta t := by
  intro t
  induction t with
  | ti | tb | tt | tq => rfl
  | tl a ih | tx a ih => simp only [enc, sta, ← ih]; simp
  | tf a b iha ihb | tp a b iha ihb =>
    have e : (!(sta a && sta b)) = ((enc a).contains 63 || (enc b).contains 63) := by rw [iha, ihb]; cases sta a <;> cases sta b <;> rfl
    simp only [enc, sta]
    rw [e]
    simp [List.contains_append]
theorem wr_sol {s : ByteArray} (hn : noteB s.data.toList = true) (h : solB s = true) : sta (wr s) = true := by
  obtain ⟨h1, _⟩ := wr_note hn
  unfold solB at h
  simp only [Bool.and_eq_true, Bool.not_eq_true', decide_eq_true_eq] at h
  rw [if_neg h.2] at h1
  have h2 := h.1
  rw [h1, S_list, has_q] at h2
  simpa using h2
def StE (env : Env) : Prop := ∀ n t, Ck.look env n = some t → sta t = true
theorem StE.cons {env : Env} {n : List UInt8} {t : Ty} (h : StE env) (ht : sta t = true) : StE ((n, t) :: env) := by
  intro m u hu
  rw [Ck.look] at hu
  split at hu
  · cases hu; exact ht
  · exact h m u hu
theorem asks_ok {u : Ty} : ∀ {ks : List (Nat × Ty)}, asks u ks = .ok () → ∀ k ∈ ks, cns k.2 u = true
  | [], _, k, hk => by simp at hk
  | (p, t) :: r, h, k, hk => by
    rw [asks] at h
    split at h
    · rename_i hc
      rcases List.mem_cons.1 hk with rfl | hk
      · exact hc
      · exact asks_ok h k hk
    · cases h
theorem others_ok {A : Ty} {kid : Nat} : ∀ {ks : List (Nat × Ty)} {j : Nat}, others A kid j ks = .ok () → ∀ m k, ks[m]? = some k → j + m ≠ kid → cns k.2 A = true
  | [], j, _, m, k, hk, _ => by simp at hk
  | (p, t) :: r, j, h, m, k, hk, hne => by
    rw [others] at h
    cases m with
    | zero =>
      simp at hk
      subst hk
      rw [if_neg (by omega)] at h
      split at h
      · rename_i hc; exact hc
      · cases h
    | succ m =>
      have h' : others A kid (j + 1) r = .ok () := by
        split at h
        · exact h
        · split at h
          · exact h
          · cases h
      exact others_ok h' m k (by simpa using hk) (by omega)
theorem meets_st {i : Nat} : ∀ {ks : List (Nat × Ty)} {a τ : Ty}, sta a = true → (∀ k ∈ ks, sta k.2 = true) → meets i a ks = .ok τ → τ = a ∧ ∀ k ∈ ks, k.2 = a
  | [], a, τ, _, _, h => by rw [meets] at h; cases h; exact ⟨rfl, by simp⟩
  | k :: r, a, τ, ha, hk, h => by
    have hk0 := hk k (by simp)
    rw [meets] at h
    unfold meetK at h
    split at h
    · cases h
    · rename_i b hb
      split at hb
      · rename_i hc
        obtain e := eq_sta ha hk0 hc
        rw [← e, met_self] at hb
        split at hb
        · cases hb
          obtain ⟨h1, h2⟩ := meets_st ha (fun q hq => hk q (by simp [hq])) h
          exact ⟨h1, fun q hq => by
            rcases List.mem_cons.1 hq with rfl | hq
            · exact e.symm
            · exact h2 q hq⟩
        · cases hb
      · cases hb
theorem opn_sta {h : UInt8} {t : Ty} (ht : sta t = true) : opn h t = t := by
  cases t <;> first | rfl | simp [sta] at ht
theorem mt_parts {t A B : Ty} {h : UInt8} (ht : sta t = true) (e : Ck.mt t h = some (A, B)) : sta A = true ∧ sta B = true := by
  cases t with
  | tq => simp [sta] at ht
  | ti | tb | tt => simp [Ck.mt] at e
  | tf a b | tp a b =>
    simp only [Ck.mt] at e
    split at e
    · cases e; simpa [sta] using ht
    · cases e
  | tl a | tx a =>
    simp only [Ck.mt] at e
    split at e
    · cases e; exact ⟨by simpa [sta] using ht, by simpa [sta] using ht⟩
    · cases e
theorem use_st {u : Nat × UInt8 × Nat} {ks : List (Nat × Ty)} {τ : Ty} (hk : ∀ k ∈ ks, sta k.2 = true) (h : use u ks = .ok τ) :
    sta τ = true ∧ ∃ k A, ks[u.1]? = some k ∧ opn u.2.1 k.2 = k.2 ∧ par0 u.2.1 k.2 = A ∧ ∀ j q, ks[j]? = some q → j ≠ u.1 → q.2 = A := by
  unfold use at h
  cases hq : ks[u.1]? with
  | none => rw [hq] at h; cases h
  | some k =>
    obtain ⟨p, t⟩ := k
    rw [hq] at h
    have ht := hk _ (List.mem_of_getElem? hq)
    simp only at h
    cases hm : Ck.mt t u.2.1 with
    | none => rw [hm] at h; cases h
    | some q =>
      obtain ⟨A, B⟩ := q
      obtain ⟨hA, hB⟩ := mt_parts ht hm
      rw [hm] at h
      simp only at h
      cases ho : others A u.1 0 ks with
      | error e => rw [ho] at h; cases h
      | ok _ =>
        rw [ho] at h
        cases h
        refine ⟨?_, (p, t), A, rfl, opn_sta ht, by unfold par0; rw [hm], fun j q hj hne => ?_⟩
        · unfold giv
          split
          · exact hA
          · split
            · exact hB
            · split
              · simpa [sta] using hA
              · rfl
        · exact eq_sta (hk q (List.mem_of_getElem? hj)) hA (others_ok ho j q hj (by omega))
/-- No cast is asked for. -/
def NoW (tk : List Ty) (ws : List (Nat × Ty × Int)) : Prop := ∀ w ∈ ws, tk.getD w.1 .tq = w.2.1
theorem each_no {n : Nat} {t : Ty} {r : Int} {tk : List Ty} (h : ∀ k, k < n → tk.getD k .tq = t) : NoW tk (each n t r) := by
  intro w hw
  unfold each at hw
  obtain ⟨k, hk, rfl⟩ := List.mem_map.1 hw
  exact h k (List.mem_range.1 hk)
theorem getD_of {ks : List (Nat × Ty)} {j : Nat} {q : Nat × Ty} (h : ks[j]? = some q) : (ks.map Prod.snd).getD j .tq = q.2 := by
  rw [List.getD_eq_getElem?_getD, List.getElem?_map, h]; rfl
theorem getD_all {ks : List (Nat × Ty)} {t : Ty} (h : ∀ k ∈ ks, k.2 = t) : ∀ j, j < (ks.map Prod.snd).length → (ks.map Prod.snd).getD j .tq = t := by
  intro j hj
  have hj' : j < ks.length := by simpa using hj
  rw [getD_of (List.getElem?_eq_getElem hj')]
  exact h _ (List.getElem_mem hj')
theorem one_no {tk : List Ty} {a : Nat × Ty × Int} (h : tk.getD a.1 .tq = a.2.1) : NoW tk [a] := by
  intro w hw; simp at hw; subst hw; exact h
theorem two_no {tk : List Ty} {a b : Nat × Ty × Int} (h : tk.getD a.1 .tq = a.2.1) (k : tk.getD b.1 .tq = b.2.1) : NoW tk [a, b] := by
  intro w hw; simp at hw; rcases hw with rfl | rfl
  · exact h
  · exact k
theorem three_no {tk : List Ty} {a b c : Nat × Ty × Int} (h : tk.getD a.1 .tq = a.2.1) (k : tk.getD b.1 .tq = b.2.1) (m : tk.getD c.1 .tq = c.2.1) : NoW tk [a, b, c] := by
  intro w hw; simp at hw; rcases hw with rfl | rfl | rfl
  · exact h
  · exact k
  · exact m
theorem made_is {i : Nat} {t u : Ty} (h : made i t = .ok u) : u = t := by
  unfold made at h
  split at h
  · cases h; rfl
  · cases h
theorem wishes_solid {env : Env} {x : Nd} {κ i : Nat} {ks : List (Nat × Ty)} {τ : Ty} (hN : Nod x κ) (hS : stN x = true) (hE : StE env) (hk : ∀ k ∈ ks, sta k.2 = true) (hlen : x.kids = (ks.length : Int)) (h : Ck.rule env x i ks = .ok τ) :
    sta τ = true ∧ NoW (ks.map Prod.snd) (wishes x τ (ks.map Prod.snd)) := by
  have hκ := hN.kind
  have hlo := hN.lo
  have hhi := hN.hi
  have hwt : (κ = 5 ∨ κ = 6 ∨ κ = 8) → sta (wr x.t) = true := fun h => by
    refine wr_sol (hN.t h) ?_
    unfold stN at hS
    by_cases h56 : x.kind = 5 ∨ x.kind = 6
    · rw [if_pos h56] at hS; simp only [Bool.and_eq_true] at hS; exact hS.1
    · rw [if_neg h56, if_pos (by omega)] at hS; exact hS
  have hwu : (κ = 5 ∨ κ = 6) → sta (wr x.u) = true := fun h => by
    refine wr_sol (hN.u h) ?_
    unfold stN at hS
    rw [if_pos (by omega)] at hS; simp only [Bool.and_eq_true] at hS; exact hS.2
  have hwa : κ = 29 → sta (wr x.t) = true := fun h => by
    refine wr_sol (by have := hN.a h; unfold noteB; rw [this]; simp) ?_
    unfold stN at hS
    rw [if_neg (by omega), if_pos (by omega)] at hS; exact hS
  have hno : κ = 21 → ks ≠ [] := fun h e => by
    unfold stN at hS
    rw [if_neg (by omega), if_neg (by omega), if_pos (by omega)] at hS
    have := of_decide_eq_true hS
    rw [hlen, e] at this
    exact this rfl
  have hlenK : ∀ n : Nat, κ ≠ 21 → Tr.arK κ = (n : Int) → ks.length = n := fun n h1 h2 => by have := hN.kids h1; omega
  unfold Ck.rule at h
  unfold wishes
  by_cases h4 : x.kind = 4
  · simp only [h4, if_true] at h
    refine ⟨?_, fun w hw => by simp [h4] at hw⟩
    cases hl : Ck.look env (nm x) with
    | none => rw [hl] at h; cases h
    | some u => rw [hl] at h; cases h; exact hE _ _ hl
  simp only [h4, if_false] at h
  by_cases h56 : x.kind = 5 ∨ x.kind = 6
  · simp only [h56, if_true] at h ⊢
    rcases ks with _ | ⟨k, r⟩
    · cases h
    · simp only at h
      split at h
      · rename_i hc
        cases h
        exact ⟨by simp [sta, hwt (by omega), hwu (by omega)], one_no (eq_sta (hk k (by simp)) (hwu (by omega)) hc)⟩
      · cases h
  simp only [h56, if_false] at h ⊢
  by_cases h8 : x.kind = 8
  · simp only [h8, if_true] at h ⊢
    rcases ks with _ | ⟨k, _ | ⟨b, r⟩⟩
    · cases h
    · cases h
    · simp only at h
      split at h
      · rename_i hc
        cases h
        exact ⟨hk b (by simp), one_no (eq_sta (hk k (by simp)) (hwt (by omega)) hc)⟩
      · cases h
  simp only [h8, if_false] at h ⊢
  by_cases h29 : x.kind = 29
  · simp only [h29, if_true] at h ⊢
    rcases ks with _ | ⟨k, r⟩
    · cases h
    · simp only at h
      split at h
      · rename_i hc
        cases h
        exact ⟨hwa (by omega), one_no (eq_sta (hk k (by simp)) (hwa (by omega)) hc)⟩
      · cases h
  simp only [h29, if_false] at h ⊢
  by_cases h9 : x.kind = 9
  · simp only [h9, if_true] at h ⊢
    rcases ks with _ | ⟨c, _ | ⟨a, _ | ⟨b, r⟩⟩⟩
    · cases h
    · cases h
    · cases h
    · simp only at h
      have ha := hk a (by simp)
      have hb := hk b (by simp)
      split at h
      · rename_i hc
        unfold meetK at h
        split at h
        · rename_i hab
          have e := eq_sta ha hb hab
          rw [← e, met_self] at h
          split at h
          · cases h
            exact ⟨ha, three_no (eq_sta (hk c (by simp)) rfl hc) rfl e.symm⟩
          · cases h
        · cases h
      · cases h
  simp only [h9, if_false] at h ⊢
  by_cases h18 : x.kind = 18
  · simp only [h18, if_true] at h
    rcases ks with _ | ⟨a, _ | ⟨b, r⟩⟩
    · cases h
    · cases h
    · simp only at h
      rw [made_is h]
      exact ⟨by simp [sta, hk a (by simp), hk b (by simp)], fun w hw => by simp [h18] at hw⟩
  simp only [h18, if_false] at h
  by_cases h26 : x.kind = 26
  · simp only [h26, if_true] at h
    rcases ks with _ | ⟨a, r⟩
    · cases h
    · simp only at h
      rw [made_is h]
      exact ⟨by simp [sta, hk a (by simp)], fun w hw => by simp [h26] at hw⟩
  simp only [h26, if_false] at h
  by_cases h21 : x.kind = 21
  · simp only [h21, if_true] at h ⊢
    rcases ks with _ | ⟨k, r⟩
    · exact absurd rfl (hno (by omega))
    · have hk0 := hk k (by simp)
      cases hm : meets i .tq (k :: r) with
      | error e => rw [hm] at h; cases h
      | ok u =>
        rw [hm] at h
        simp only at h
        have hu : u = k.2 ∧ ∀ q ∈ r, q.2 = k.2 := by
          rw [meets] at hm
          unfold meetK at hm
          rw [show cns Ty.tq k.2 = true by cases k.2 <;> rfl, show met Ty.tq k.2 = k.2 by cases k.2 <;> rfl] at hm
          simp only [if_true] at hm
          split at hm
          · cases hm
          · rename_i b hb
            split at hb
            · cases hb; exact meets_st hk0 (fun q hq => hk q (by simp [hq])) hm
            · cases hb
        rw [made_is h, hu.1]
        refine ⟨by simpa [sta] using hk0, ?_⟩
        rw [if_neg (by decide), if_neg (by decide), if_neg (by decide), if_neg (by decide)]
        refine each_no (getD_all (ks := k :: r) fun q hq => ?_)
        rcases List.mem_cons.1 hq with rfl | hq
        · rfl
        · exact hu.2 q hq
  simp only [h21, if_false] at h ⊢
  by_cases h7 : x.kind = 7
  · simp only [h7, useT] at h ⊢
    obtain ⟨s1, k, A, e1, e2, e3, e4⟩ := use_st hk h
    refine ⟨s1, ?_⟩
    have hl := hlenK 2 (by omega) (by rw [show (κ : Int) = 7 by omega]; decide)
    obtain ⟨q, hq⟩ : ∃ q, ks[1]? = some q := ⟨ks[1], List.getElem?_eq_getElem (by omega)⟩
    simp only [Int.reduceEq, if_false, if_true, or_self, false_or, or_false]
    simp only [getD_of e1] at *
    refine two_no ?_ ?_
    · show (ks.map Prod.snd).getD 0 .tq = opn 62 k.2
      rw [getD_of e1]; exact e2.symm
    · show (ks.map Prod.snd).getD 1 .tq = par0 62 k.2
      rw [getD_of hq, e4 1 q hq (by decide)]; exact e3.symm
  by_cases h19 : x.kind = 19 ∨ x.kind = 20
  · have hu : useT x.kind = some (0, 44, if x.kind = 19 then 0 else 1) := by rcases h19 with e | e <;> rw [e] <;> rfl
    rw [hu] at h
    obtain ⟨s1, k, A, e1, e2, e3, e4⟩ := use_st hk h
    refine ⟨s1, ?_⟩
    rw [if_neg h7, if_neg (by omega), if_neg (by omega), if_pos h19]
    refine one_no ?_
    show (ks.map Prod.snd).getD 0 .tq = opn 44 ((ks.map Prod.snd).getD 0 .tq)
    rw [getD_of e1]; exact e2.symm
  by_cases h22 : x.kind = 22 ∨ x.kind = 23 ∨ x.kind = 24
  · have hu : useT x.kind = some (0, 108, if x.kind = 22 then 0 else if x.kind = 23 then 2 else 3) := by rcases h22 with e | e | e <;> rw [e] <;> rfl
    rw [hu] at h
    obtain ⟨s1, k, A, e1, e2, e3, e4⟩ := use_st hk h
    refine ⟨s1, ?_⟩
    rw [if_neg h7, if_neg (by omega), if_neg (by omega), if_neg h19, if_pos h22]
    refine one_no ?_
    show (ks.map Prod.snd).getD 0 .tq = opn 108 ((ks.map Prod.snd).getD 0 .tq)
    rw [getD_of e1]; exact e2.symm
  by_cases h25 : x.kind = 25
  · have hu : useT x.kind = some (1, 108, 2) := by rw [h25]; rfl
    rw [hu] at h
    obtain ⟨s1, k, A, e1, e2, e3, e4⟩ := use_st hk h
    refine ⟨s1, ?_⟩
    have hl := hlenK 2 (by omega) (by rw [show (κ : Int) = 25 by omega]; decide)
    obtain ⟨q, hq⟩ : ∃ q, ks[0]? = some q := ⟨ks[0], List.getElem?_eq_getElem (by omega)⟩
    rw [if_neg h7, if_neg (by omega), if_neg (by omega), if_neg h19, if_neg h22, if_pos h25]
    refine two_no ?_ ?_
    · show (ks.map Prod.snd).getD 1 .tq = opn 108 ((ks.map Prod.snd).getD 1 .tq)
      rw [getD_of e1]; exact e2.symm
    · show (ks.map Prod.snd).getD 0 .tq = par0 108 ((ks.map Prod.snd).getD 1 .tq)
      rw [getD_of hq, getD_of e1, e4 0 q hq (by decide)]; exact e3.symm
  by_cases h27 : x.kind = 27
  · have hu : useT x.kind = some (0, 120, 0) := by rw [h27]; rfl
    rw [hu] at h
    obtain ⟨s1, k, A, e1, e2, e3, e4⟩ := use_st hk h
    refine ⟨s1, ?_⟩
    rw [if_neg h7, if_neg (by omega), if_neg (by omega), if_neg h19, if_neg h22, if_neg h25, if_pos h27]
    refine one_no ?_
    show (ks.map Prod.snd).getD 0 .tq = opn 120 ((ks.map Prod.snd).getD 0 .tq)
    rw [getD_of e1]; exact e2.symm
  by_cases h28 : x.kind = 28
  · have hu : useT x.kind = some (0, 120, 0) := by rw [h28]; rfl
    rw [hu] at h
    obtain ⟨s1, k, A, e1, e2, e3, e4⟩ := use_st hk h
    refine ⟨s1, ?_⟩
    have hl := hlenK 2 (by omega) (by rw [show (κ : Int) = 28 by omega]; decide)
    obtain ⟨q, hq⟩ : ∃ q, ks[1]? = some q := ⟨ks[1], List.getElem?_eq_getElem (by omega)⟩
    rw [if_neg h7, if_neg (by omega), if_neg (by omega), if_neg h19, if_neg h22, if_neg h25, if_neg h27, if_pos h28]
    refine two_no ?_ ?_
    · show (ks.map Prod.snd).getD 0 .tq = opn 120 ((ks.map Prod.snd).getD 0 .tq)
      rw [getD_of e1]; exact e2.symm
    · show (ks.map Prod.snd).getD 1 .tq = par0 120 ((ks.map Prod.snd).getD 0 .tq)
      rw [getD_of hq, getD_of e1, e4 1 q hq (by decide)]; exact e3.symm
  have hu : useT x.kind = none := by
    unfold useT
    rw [if_neg h7, if_neg (by omega), if_neg (by omega), if_neg (by omega), if_neg (by omega), if_neg (by omega), if_neg h25, if_neg h27, if_neg h28]
  rw [hu] at h
  simp only at h
  unfold opr at h
  cases hask : asks (opT x.kind).1 ks with
  | error e => rw [hask] at h; cases h
  | ok _ =>
    rw [hask] at h
    cases h
    have hall := asks_ok hask
    refine ⟨by unfold opT; (repeat' split) <;> rfl, ?_⟩
    rw [if_neg h7]
    by_cases ha : x.kind = 10 ∨ x.kind = 11 ∨ x.kind = 12 ∨ x.kind = 16 ∨ x.kind = 14 ∨ x.kind = 15
    · rw [if_pos ha]
      have e : (opT x.kind).1 = .ti := by rcases ha with e | e | e | e | e | e <;> rw [e] <;> rfl
      rw [e] at hall
      exact each_no (getD_all fun k hkm => eq_sta (hk k hkm) rfl (hall k hkm))
    rw [if_neg ha]
    by_cases hb : x.kind = 13 ∨ x.kind = 17
    · rw [if_pos hb]
      have e : (opT x.kind).1 = .tt := by rcases hb with e | e <;> rw [e] <;> rfl
      rw [e] at hall
      exact each_no (getD_all fun k hkm => eq_sta (hk k hkm) rfl (hall k hkm))
    rw [if_neg hb, if_neg h19, if_neg h22, if_neg h25, if_neg h27, if_neg h28]
    intro w hw
    simp at hw
theorem fold_no (x : Nd) (tk : List Ty) (kx : List Nd) : ∀ (ws : List (Nat × Ty × Int)) (st : List PT × List Si), NoW tk ws → ws.foldl (wish x tk kx) st = st
  | [], st, _ => rfl
  | w :: r, st, h => by
    rw [List.foldl_cons]
    have e : wish x tk kx st w = st := by unfold wish; rw [if_pos (h w (by simp))]
    rw [e]
    exact fold_no x tk kx r st (fun v hv => h v (by simp [hv]))
theorem inner_solid {env : Env} {x : Nd} {κ : Nat} (hN : Nod x κ) (hS : stN x = true) (hE : StE env) (j : Nat) : StE (Ck.inner x j env) := by
  have hκ := hN.kind
  have hwt : (κ = 5 ∨ κ = 6 ∨ κ = 8) → sta (wr x.t) = true := fun h => by
    refine wr_sol (hN.t h) ?_
    unfold stN at hS
    by_cases h56 : x.kind = 5 ∨ x.kind = 6
    · rw [if_pos h56] at hS; simp only [Bool.and_eq_true] at hS; exact hS.1
    · rw [if_neg h56, if_pos (by omega)] at hS; exact hS
  have hwu : (κ = 5 ∨ κ = 6) → sta (wr x.u) = true := fun h => by
    refine wr_sol (hN.u h) ?_
    unfold stN at hS
    rw [if_pos (by omega)] at hS; simp only [Bool.and_eq_true] at hS; exact hS.2
  unfold Ck.inner
  split
  · exact hE.cons (hwt (by omega))
  · split
    · exact (hE.cons (by simp [sta, hwt (by omega), hwu (by omega)])).cons (hwt (by omega))
    · split
      · exact hE.cons (hwt (by omega))
      · exact hE
theorem plcs_cons (t : T) (r : List T) (i : Nat) : plcs (t :: r) i = i :: plcs r (i + (flat t).length) := by
  unfold plcs
  rw [List.length_cons, List.range_succ_eq_map, List.map_cons, List.map_map]
  congr 1
  simp [flats]
  intro k _
  omega
theorem head_of {a : List Ty} {ts : List Ty} {i : Nat} (hne : 0 < a.length) (h : ∀ (j : Nat) u, a[j]? = some u → ts[i + j]? = some u) : a.headD .tq = ts.getD i .tq := by
  cases a with
  | nil => simp at hne
  | cons u r =>
    have := h 0 u rfl
    rw [Nat.add_zero] at this
    rw [List.getD_eq_getElem?_getD, this]
    rfl
mutual
theorem inT_so (N : List (List UInt8)) (ts : List Ty) : ∀ (t : T) (env : Env) (around : List (List UInt8)) (i : Nat) (ss : List Si) (a : List Ty), wf t → (∀ x ∈ flat t, Tr.mayB x = true ∧ stN x = true) → StE env → ckT env t i = .ok a → (∀ (j : Nat) u, a[j]? = some u → ts[i + j]? = some u) →
    (inT N ts around t i ss).2 = ss ∧ (∀ y ∈ term (inT N ts around t i ss).1, y.kind ≠ 30) ∧ (∀ u ∈ a, sta u = true)
  | .nd x ks, env, around, i, ss, a, hw, hm, hE, h, hts => by
    obtain ⟨hx1, hx2⟩ := hm x (by simp [flat])
    obtain ⟨κ, hN⟩ := nod_of hx1
    have hwf := hw
    rw [Tr.wf] at hwf
    rw [ckT] at h
    split at h
    · cases h
    cases hL : ckL env x 0 ks (i + 1) with
    | error e => rw [hL] at h; cases h
    | ok rs =>
      rw [hL] at h
      simp only at h
      cases hr : Ck.rule env x i (rs.map fun r => (r.1, r.2.headD .tq)) with
      | error e => rw [hr] at h; cases h
      | ok τ =>
        rw [hr] at h
        simp only at h
        cases h
        have hts0 : ts[i]? = some τ := by have := hts 0 τ rfl; rwa [Nat.add_zero] at this
        have hts1 : ∀ (q : Nat) u, (rs.map Prod.snd).flatten[q]? = some u → ts[i + 1 + q]? = some u := fun q u hq => by
          have := hts (q + 1) u (by simpa using hq)
          rwa [show i + (q + 1) = i + 1 + q by omega] at this
        obtain ⟨h1, h2, h3, h4, h5⟩ := inL_so N ts ks env x 0 around (i + 1) ss rs hwf.2 (fun y hy => hm y (by simp [flat, hy])) (fun j => inner_solid hN hx2 hE j) hL hts1
        have hk : ∀ k ∈ (rs.map fun r => (r.1, r.2.headD .tq)), sta k.2 = true := by
          intro k hk
          obtain ⟨r, hr', rfl⟩ := List.mem_map.1 hk
          exact (h3 r hr').2
        obtain ⟨s1, s2⟩ := wishes_solid hN hx2 hE hk (by rw [List.length_map, h5]; exact hwf.1) hr
        have e : (rs.map fun r => (r.1, r.2.headD .tq)).map Prod.snd = (plcs ks (i + 1)).map fun p => ts.getD p .tq := by
          rw [List.map_map, ← h4]; rfl
        rw [e] at s2
        have e0 : ts.getD i .tq = τ := by rw [List.getD_eq_getElem?_getD, hts0]; rfl
        rw [inT]
        simp only
        rw [e0, fold_no _ _ _ _ _ s2]
        refine ⟨h1, fun y hy => ?_, fun u hu => ?_⟩
        · rw [term, List.mem_append] at hy
          rcases hy with hy | hy
          · have hκ := hN.kind
            have hhi := hN.hi
            have hyk : y.kind = x.kind := by
              unfold nodeP at hy
              split at hy
              · simp at hy
              · simp only [List.mem_singleton] at hy
                subst hy
                (repeat' split) <;> rfl
            omega
          · exact h2 y hy
        · rcases List.mem_cons.1 hu with rfl | hu
          · exact s1
          · obtain ⟨l, hl, hul⟩ := List.mem_flatten.1 hu
            obtain ⟨r, hr', rfl⟩ := List.mem_map.1 hl
            exact (h3 r hr').1 u hul
theorem inL_so (N : List (List UInt8)) (ts : List Ty) : ∀ (ks : List T) (env : Env) (x : Nd) (j : Nat) (around : List (List UInt8)) (i : Nat) (ss : List Si) (rs : List (Nat × List Ty)), Tr.wfs ks → (∀ y ∈ flats ks, Tr.mayB y = true ∧ stN y = true) → (∀ j, StE (Ck.inner x j env)) → ckL env x j ks i = .ok rs → (∀ (q : Nat) u, (rs.map Prod.snd).flatten[q]? = some u → ts[i + q]? = some u) →
    (inL N ts around x j ks i ss).2 = ss ∧ (∀ y ∈ terms (inL N ts around x j ks i ss).1, y.kind ≠ 30) ∧ (∀ r ∈ rs, (∀ u ∈ r.2, sta u = true) ∧ sta (r.2.headD .tq) = true) ∧ rs.map (fun r => r.2.headD .tq) = (plcs ks i).map (fun p => ts.getD p .tq) ∧ rs.length = ks.length
  | [], env, x, j, around, i, ss, rs, hw, hm, hE, h, hts => by
    rw [ckL] at h
    cases h
    rw [inL]
    exact ⟨rfl, by simp [terms], by simp, by simp [plcs], rfl⟩
  | t :: r, env, x, j, around, i, ss, rs, hw, hm, hE, h, hts => by
    rw [Tr.wfs] at hw
    rw [ckL] at h
    cases hT : ckT (Ck.inner x j env) t i with
    | error e => rw [hT] at h; cases h
    | ok a =>
      rw [hT] at h
      simp only at h
      cases hL : ckL env x (j + 1) r (i + (flat t).length) with
      | error e => rw [hL] at h; cases h
      | ok b =>
        rw [hL] at h
        simp only at h
        cases h
        have hal : a.length = (flat t).length := Ck.len_T t _ _ a hT
        have hpos := Tr.flat_pos t
        have hta : ∀ (q : Nat) u, a[q]? = some u → ts[i + q]? = some u := fun q u hq => hts q u (by
          simp only [List.map_cons, List.flatten_cons]
          rw [List.getElem?_append_left (List.getElem?_eq_some_iff.1 hq).1]; exact hq)
        have htb : ∀ (q : Nat) u, (b.map Prod.snd).flatten[q]? = some u → ts[i + (flat t).length + q]? = some u := fun q u hq => by
          have := hts (a.length + q) u (by
            simp only [List.map_cons, List.flatten_cons]
            rw [List.getElem?_append_right (by omega), show a.length + q - a.length = q by omega]; exact hq)
          rwa [hal, ← Nat.add_assoc] at this
        obtain ⟨h1, h2, h3⟩ := inT_so N ts t (Ck.inner x j env) (inn x j around) i ss a hw.1 (fun y hy => hm y (by simp [flats, hy])) (hE j) hT hta
        rw [inL]
        simp only
        rw [h1]
        obtain ⟨g1, g2, g3, g4, g5⟩ := inL_so N ts r env x (j + 1) around (i + (flat t).length) ss b hw.2 (fun y hy => hm y (by simp [flats, hy])) hE hL htb
        have hh := head_of (by omega) hta
        refine ⟨g1, fun y hy => ?_, fun q hq => ?_, ?_, by simp [g5]⟩
        · rw [terms, List.mem_append] at hy
          rcases hy with hy | hy
          · exact h2 y hy
          · exact g2 y hy
        · rcases List.mem_cons.1 hq with rfl | hq
          · refine ⟨h3, ?_⟩
            cases a with
            | nil => simp at hal; omega
            | cons u v => exact h3 u (by simp)
          · exact g3 q hq
        · rw [plcs_cons, List.map_cons, List.map_cons, g4, ← hh]
end
end In
end Go.Proofs.YthdlfeejeboboaaDoor
