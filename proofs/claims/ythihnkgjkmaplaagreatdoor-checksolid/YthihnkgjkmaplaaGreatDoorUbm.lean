/- The document's Solid. The document's Static. A tree without ?, in an environment without ?: consistent is the same, and every type is without ?. The document's own packages: two lists of texts that are alike. The statements' cases: long, and a case in a block of its own. -/
import Derived.Test.YthihnkgjkmaplaaGreatDoorUal
import Derived.Test.YthihnkgjkmaplaaGreatDoorUbb
import Derived.Test.YthihnkgjkmaplaaGreatDoorUba
import Derived.Test.YthihnkgjkmaplaaGreatDoorUbl
namespace Go.Proofs.YthihnkgjkmaplaaGreatDoor
open Go.RowKit
set_option maxRecDepth 100000
set_option linter.unusedSimpArgs false

/-- A text that is not empty and has no ?. -/
def solB (s : ByteArray) : Bool := !s.data.toList.contains 63 && decide (s.size ≠ 0)
theorem ba_get {s : ByteArray} {j : Nat} (h : j < s.size) : s.data.toList[j]? = some (s[j]'h) := by
  have h' : j < s.data.toList.length := by simpa using h
  rw [List.getElem?_eq_getElem h']; rfl

set_option maxHeartbeats 1000000 in
theorem solid_any (s : ByteArray) (hs : s.size ≤ maxLen) (w : World) : Calls Tryz.prog 17 #[.string s] w fun e w' => e = .returned (.bool (solB s)) ∧ w' = w := by
  unfold maxLen at hs
  go_enter Tryz.func17, Tryz.ntmps17
  go_wp2_with fail
  go_loopg [3] s.size (fun g t wr => wr = w ∧ ∃ j : Nat, j + g = s.size ∧ t = .int .i64 (j : Int) ∧ Aside ((s.data.toList.take j).contains 63 = false))
  case atStart => exact ⟨rfl, 0, by omega, rfl, rfl⟩
  case round =>
    obtain ⟨rfl, j, hjg, rfl, HA⟩ := hrel
    by_cases hj : j < s.size
    · have hj' : (j : Int) < (s.size : Int) := by omega
      have hj0 : (0 : Int) ≤ (j : Int) := by omega
      have hg := ba_get hj
      by_cases hc : s[j]'hj = 63
      · have hc' : (((s[j]'hj).toNat : Int) == 63) = true := by rw [hc]; rfl
        have HF : Aside (solB s = false) := by
          show _ = _
          have hm : (63 : UInt8) ∈ s.data.toList := by rw [← hc]; exact List.mem_of_getElem? hg
          unfold solB
          simp [hm]
        clear hg hc
        go_wp2_with fail
        go_ret
        rw [HF.out]
        exact ⟨rfl, rfl⟩
      · have hc' : (((s[j]'hj).toNat : Int) == 63) = false := by
          have : (s[j]'hj).toNat ≠ 63 := fun e => hc (UInt8.toNat_inj.1 e)
          simp; omega
        have HN : Aside ((s.data.toList.take (j + 1)).contains 63 = false) := by
          show _ = _
          rw [List.take_add_one, hg]
          have := HA.out
          simp at this ⊢
          exact ⟨this, fun e => hc e.symm⟩
        clear hg hc HA
        go_wp2_with fail
        go_roundg (gk - 1)
        case measure => omega
        case rel => exact ⟨rfl, j + 1, by omega, by go_num, HN⟩
    · have hj' : decide ((j : Int) < (s.size : Int)) = false := by simp; omega
      have HE : Aside ((s.toList != []) = solB s) := by
        show _ = _
        have h1 := HA.out
        rw [List.take_of_length_le (by have : s.data.toList.length = s.size := by simp
                                       omega)] at h1
        unfold solB
        rw [h1]
        by_cases h : s = ⟨#[]⟩
        · subst h; rw [show (⟨#[]⟩ : ByteArray).toList = [] from T3.toList_S []]; rfl
        · have hz : s.size ≠ 0 := fun e => h (by obtain ⟨⟨l⟩⟩ := s; simp [ByteArray.size] at e; simp [e])
          have hb : (s.toList == []) = false := by have := (Lib.bytes_beq_false_iff s ⟨#[]⟩).2 h; simpa using this
          simp [bne, hb, hz]
      clear HA
      go_wp2_with fail
      go_ret
      rw [← HE.out]
      exact ⟨by simp; cases s.toList <;> rfl, rfl⟩
end Go.Proofs.YthihnkgjkmaplaaGreatDoor
namespace Go.Proofs.YthihnkgjkmaplaaGreatDoor
open Go.RowKit
set_option maxRecDepth 100000
set_option linter.unusedSimpArgs false

/-- A node that is written down, and a list of such. -/
def stN (x : Tr.Nd) : Bool :=
  if x.kind = 5 ∨ x.kind = 6 then solB x.t && solB x.u else if x.kind = 8 ∨ x.kind = 29 then solB x.t else if x.kind = 21 then decide (x.kids ≠ 0) else true
theorem all_take {p : Tr.Nd → Bool} {l : List Tr.Nd} {k : Nat} {x : Tr.Nd} (hx : l[k]? = some x) : (l.take (k + 1)).all p = ((l.take k).all p && p x) := by
  rw [List.take_add_one, hx]; simp
theorem all_stop {p : Tr.Nd → Bool} {l : List Tr.Nd} {k : Nat} {x : Tr.Nd} (hx : l[k]? = some x) (h : p x = false) : l.all p = false := by
  rw [List.all_eq_false]
  exact ⟨x, List.mem_of_getElem? hx, by rw [h]; simp⟩

set_option maxHeartbeats 4000000 in
theorem static08_any (l : List Tr.Nd) (hlen : l.length ≤ 1000000) (hf : ∀ x ∈ l, x.t.size ≤ maxLen ∧ x.u.size ≤ maxLen) (v : Value) (w : World) (hl : IsNodes w v l) :
    Calls Tryz.prog 18 #[v] w fun e w' => e = .returned (.bool (l.all stN)) ∧ Below w.heap.size w w' := by
  obtain ⟨al, cl, rfl⟩ := hl.form
  go_enter Tryz.func18, Tryz.ntmps18
  go_wp2_with fail
  go_loopg [3] l.length (fun gq tq wr => ∃ k : Nat, k + gq = l.length ∧ tq = .int .i64 (k : Int) ∧ Below w.heap.size w wr ∧ Aside ((l.take k).all stN = true))
  case atStart => exact ⟨0, by omega, rfl, Below.refl _ _, rfl⟩
  case round =>
    obtain ⟨k, hkg, rfl, hB, HA⟩ := hrel
    by_cases hk : k < l.length
    · have hk' : (k : Int) < (l.length : Int) := by omega
      have hk0 : (0 : Int) ≤ (k : Int) := by omega
      obtain ⟨x, hx, _⟩ := getc hk
      obtain ⟨b1, o1, rfl, hc1, hl1, hcx⟩ := (hl.below hB).at hx
      obtain ⟨p0, p1, p2, p3, p4, p5, p6, p7⟩ := agg_cells (o := o1 + k * 8) hcx
      have HS : Aside (stN x = true → (l.take (k + 1)).all stN = true) := fun h => by rw [all_take hx, HA.out, h]; rfl
      have HF : Aside (stN x = false → l.all stN = false) := all_stop hx
      obtain ⟨zt, zu⟩ := hf x (List.mem_of_getElem? hx)
      have sT := fun W => solid_any x.t zt W
      have sU := fun W => solid_any x.u zu W
      have hBw := balloc hB (.cells #[.int .i8 x.kind, .int .i64 x.kids, .int .i64 x.n, .string x.s, .string x.t, .string x.u, .int .i64 x.ln, .int .i64 x.co] 64)
      have hnew := heap_alloc_new wr (.cells #[.int .i8 x.kind, .int .i64 x.kids, .int .i64 x.n, .string x.s, .string x.t, .string x.u, .int .i64 x.ln, .int .i64 x.co] 64)
      clear hx hcx HA hf zt zu
      go_upto_region 5 with fail
      clear p0 p1 p2 p3 p4 p5 p6 p7 hB hc1 hl1 hl
      generalize World.alloc _ _ = W0 at *
      obtain ⟨f0, fz⟩ := block_cells hnew
      have p0 : W0.cell? ⟨wr.heap.size, 0, none⟩ = some (.int .i8 x.kind) := f0 0
      have p1 : W0.cell? ⟨wr.heap.size, 1, none⟩ = some (.int .i64 x.kids) := f0 1
      have p4 : W0.cell? ⟨wr.heap.size, 4, none⟩ = some (.string x.t) := f0 4
      have p5 : W0.cell? ⟨wr.heap.size, 5, none⟩ = some (.string x.u) := f0 5
      clear f0 fz hnew
      have hcase : (x.kind = 5 ∨ x.kind = 6) ∨ (x.kind = 8 ∨ x.kind = 29) ∨ x.kind = 21 ∨ (x.kind ≠ 5 ∧ x.kind ≠ 6 ∧ x.kind ≠ 8 ∧ x.kind ≠ 29 ∧ x.kind ≠ 21) := by omega
      rcases hcase with h | h | h | ⟨h5, h6, h8, h29, h21⟩
      · have HV : Aside (stN x = (solB x.t && solB x.u)) := by show _ = _; unfold stN; rw [if_pos h]
        generalize solB x.t = bt at *
        generalize solB x.u = bu at *
        generalize x.t = xt at *
        generalize x.u = xu at *
        rcases h with h | h
        all_goals
          rw [h] at p0
          clear h
          cases bt <;> cases bu
          all_goals
            go_wp2_with (first | (go_at_call_of 17 xt; refine (sT _).mono ?_; rintro e w' ⟨rfl, hw'⟩; replace hw' := hw'.symm; subst hw') | (go_at_call_of 17 xu; refine (sU _).mono ?_; rintro e w' ⟨rfl, hw'⟩; replace hw' := hw'.symm; subst hw'))
            first
              | (go_ret
                 rw [HF.out (by rw [HV.out]; rfl)]
                 exact ⟨rfl, hBw⟩)
              | (go_roundg (gk - 1)
                 case measure => omega
                 case rel => exact ⟨k + 1, by omega, by go_num, hBw, HS.out (by rw [HV.out]; rfl)⟩)
      · have HV : Aside (stN x = solB x.t) := by show _ = _; unfold stN; rw [if_neg (by omega), if_pos h]
        generalize solB x.t = bt at *
        generalize x.t = xt at *
        clear sU p5
        rcases h with h | h
        all_goals
          rw [h] at p0
          clear h
          cases bt
          all_goals
            go_wp2_with (go_at_call 17; refine (sT _).mono ?_; rintro e w' ⟨rfl, hw'⟩; replace hw' := hw'.symm; subst hw')
            first
              | (go_ret
                 rw [HF.out HV.out]
                 exact ⟨rfl, hBw⟩)
              | (go_roundg (gk - 1)
                 case measure => omega
                 case rel => exact ⟨k + 1, by omega, by go_num, hBw, HS.out HV.out⟩)
      · have HV : Aside (stN x = decide (x.kids ≠ 0)) := by show _ = _; unfold stN; rw [if_neg (by omega), if_neg (by omega), if_pos h]
        rw [h] at p0
        clear h sT sU p4 p5
        by_cases hz : x.kids = 0
        · have hz' : (x.kids == 0) = true := by simpa using hz
          have HV2 : Aside (stN x = false) := by show _ = _; rw [HV.out]; simpa using hz
          clear HV hz
          go_wp2_with fail
          go_ret
          rw [HF.out HV2.out]
          exact ⟨rfl, hBw⟩
        · have hz' : (x.kids == 0) = false := by simpa using hz
          have HV2 : Aside (stN x = true) := by show _ = _; rw [HV.out]; simpa using hz
          clear HV hz
          go_wp2_with fail
          go_roundg (gk - 1)
          case measure => omega
          case rel => exact ⟨k + 1, by omega, by go_num, hBw, HS.out HV2.out⟩
      · have HV2 : Aside (stN x = true) := by show _ = _; unfold stN; rw [if_neg (by omega), if_neg (by omega), if_neg h21]
        have e5 : (x.kind == 5) = false := by simpa using h5
        have e6 : (x.kind == 6) = false := by simpa using h6
        have e8 : (x.kind == 8) = false := by simpa using h8
        have e29 : (x.kind == 29) = false := by simpa using h29
        have e21 : (x.kind == 21) = false := by simpa using h21
        clear h5 h6 h8 h29 h21 sT sU p4 p5 p1
        go_wp2_with fail
        go_roundg (gk - 1)
        case measure => omega
        case rel => exact ⟨k + 1, by omega, by go_num, hBw, HS.out HV2.out⟩
    · have hk' : decide ((k : Int) < (l.length : Int)) = false := by simp; omega
      obtain rfl : k = l.length := by omega
      have h1 := HA.out
      rw [List.take_length] at h1
      have HA2 : Aside (l.all stN = true) := h1
      clear HA h1
      go_wp2_with fail
      go_ret
      rw [HA2.out]
      exact ⟨rfl, hB⟩
end Go.Proofs.YthihnkgjkmaplaaGreatDoor
namespace Go.Proofs.YthihnkgjkmaplaaGreatDoor
open Ck
open T3.Tp (Ty enc cns met sta)
open Tr (T Nd nm flat flats)
set_option maxRecDepth 100000
set_option linter.unusedSimpArgs false
set_option linter.unusedVariables false

theorem cn_sta {a b : Ty} (ha : sta a = true) (hb : sta b = true) : cn true a b = cn false a b := by
  unfold cn
  rw [T3.Tp.cns_sta ha hb]
  simp
theorem met_same : ∀ (a : Ty), met a a = a := by
  intro a
  induction a with
  | ti | tb | tt | tq => rfl
  | tl a ih | tx a ih => simp [met, ih]
  | tf a b iha ihb | tp a b iha ihb => simp [met, iha, ihb]
theorem met_sta {a b : Ty} (ha : sta a = true) (hb : sta b = true) (h : cns a b = true) : met a b = a := by
  rw [T3.Tp.cns_sta ha hb] at h
  obtain rfl : a = b := by simpa using h
  exact met_same a
theorem enc_sta : ∀ (t : Ty), (enc t).contains 63 = !sta t := by
  intro t
  induction t with
  | ti | tb | tt | tq => rfl
  | tl a ih | tx a ih => simp only [enc, sta, ← ih]; simp
  | tf a b iha ihb | tp a b iha ihb =>
    have e : (!(sta a && sta b)) = ((enc a).contains 63 || (enc b).contains 63) := by rw [iha, ihb]; cases sta a <;> cases sta b <;> rfl
    simp only [enc, sta]
    rw [e]
    simp [List.contains_append]
/-- An annotation without ? is a type without ?. -/
theorem wr_sta {s : ByteArray} (hn : s = ⟨#[]⟩ ∨ s = S (enc (wr s))) (h : solB s = true) : sta (wr s) = true := by
  unfold solB at h
  simp only [Bool.and_eq_true, Bool.not_eq_true', decide_eq_true_eq] at h
  rcases hn with e | e
  · exact absurd (by rw [e]; rfl) h.2
  · have h1 := h.1
    rw [e, show (S (enc (wr s))).data.toList = enc (wr s) from S_list _, enc_sta] at h1
    simpa using h1
/-- An environment without ?. -/
def StE (env : Env) : Prop := ∀ n t, Ck.look env n = some t → sta t = true
theorem StE.cons {env : Env} {n : List UInt8} {t : Ty} (h : StE env) (ht : sta t = true) : StE ((n, t) :: env) := by
  intro m u hu
  rw [Ck.look] at hu
  split at hu
  · cases hu; exact ht
  · exact h m u hu
theorem meetsS_st {i : Nat} : ∀ {ks : List (Nat × Ty)} {a : Ty}, sta a = true → (∀ k ∈ ks, sta k.2 = true) → meetsS true i a ks = meetsS false i a ks ∧ ∀ t, meetsS false i a ks = .ok t → sta t = true
  | [], a, ha, _ => ⟨rfl, fun t h => by rw [meetsS] at h; cases h; exact ha⟩
  | k :: r, a, ha, hk => by
    have h1 := hk k (by simp)
    rw [meetsS, meetsS]
    unfold meetKS
    rw [cn_sta ha h1]
    cases hc : cn false a k.2 with
    | false => simp
    | true =>
      have hm : met a k.2 = a := met_sta ha h1 (cn_cns hc)
      rw [hm]
      simp only [if_true]
      split
      · exact ⟨rfl, fun t h => by cases h⟩
      · rename_i b hb
        split at hb
        · cases hb; exact meetsS_st ha (fun q hq => hk q (by simp [hq]))
        · cases hb
theorem asksS_st {u : Ty} (hu : sta u = true) : ∀ {ks : List (Nat × Ty)}, (∀ k ∈ ks, sta k.2 = true) → asksS true u ks = asksS false u ks
  | [], _ => rfl
  | (p, t) :: r, hk => by rw [asksS, asksS, cn_sta (hk (p, t) (by simp)) hu, asksS_st hu (fun k hq => hk k (by simp [hq]))]
theorem othersS_st {A : Ty} (hA : sta A = true) {kid : Nat} : ∀ {ks : List (Nat × Ty)} {j : Nat}, (∀ k ∈ ks, sta k.2 = true) → othersS true A kid j ks = othersS false A kid j ks
  | [], _, _ => rfl
  | (p, t) :: r, j, hk => by
    have h1 := hk (p, t) (by simp)
    rw [othersS, othersS, cn_sta h1 hA, othersS_st hA (fun k hq => hk k (by simp [hq]))]
theorem mt_sta {t A B : Ty} {h : UInt8} (ht : sta t = true) (e : Ck.mt t h = some (A, B)) : sta A = true ∧ sta B = true := by
  cases t with
  | tq => simp [sta] at ht
  | ti | tb | tt => simp [Ck.mt] at e
  | tf a b | tp a b =>
    simp only [Ck.mt] at e
    split at e
    · cases e; simpa [sta] using ht
    · cases e
  | tl a | tx a =>
    simp only [Ck.mt] at e
    split at e
    · cases e; exact ⟨by simpa [sta] using ht, by simpa [sta] using ht⟩
    · cases e
theorem useS_st {u : Nat × UInt8 × Nat} {ks : List (Nat × Ty)} (hk : ∀ k ∈ ks, sta k.2 = true) : useS true u ks = useS false u ks ∧ ∀ t, useS false u ks = .ok t → sta t = true := by
  unfold useS
  cases hq : ks[u.1]? with
  | none => exact ⟨rfl, fun t h => by cases h⟩
  | some p =>
    obtain ⟨p, t⟩ := p
    have ht := hk _ (List.mem_of_getElem? hq)
    simp only
    cases hm : Ck.mt t u.2.1 with
    | none => exact ⟨rfl, fun t h => by cases h⟩
    | some q =>
      obtain ⟨A, B⟩ := q
      obtain ⟨hA, hB⟩ := mt_sta ht hm
      simp only
      rw [othersS_st hA hk]
      refine ⟨rfl, fun t h => ?_⟩
      split at h
      · cases h
      · cases h
        unfold giv
        split
        · exact hA
        · split
          · exact hB
          · split
            · simpa [sta] using hA
            · rfl
theorem opT_sta (k : Int) (h1 : k ≠ 1) (h2 : k ≠ 2) (h3 : k ≠ 3) : sta (opT k).1 = true := by
  unfold opT
  rw [if_neg h1, if_neg h2, if_neg h3]
  split
  · rfl
  · split
    · rfl
    · split <;> rfl
theorem opT_sta2 (k : Int) : sta (opT k).2 = true := by
  unfold opT
  repeat' split
  all_goals rfl
/-- A rule of kids without ?. -/
theorem ruleD_st {env : Env} {x : Nd} {κ i : Nat} {ks : List (Nat × Ty)} (hN : Nod x κ) (hS : stN x = true) (hE : StE env) (hk : ∀ k ∈ ks, sta k.2 = true) (hlen : x.kids = (ks.length : Int)) :
    ruleD true env x i ks = ruleD false env x i ks ∧ ∀ t, ruleD false env x i ks = .ok t → sta t = true := by
  have hκ := hN.kind
  have hwt : (κ = 5 ∨ κ = 6 ∨ κ = 8) → sta (wr x.t) = true := fun h => by
    refine wr_sta (note8 (hN.t h)).1 ?_
    unfold stN at hS
    by_cases h56 : x.kind = 5 ∨ x.kind = 6
    · rw [if_pos h56] at hS; simp only [Bool.and_eq_true] at hS; exact hS.1
    · rw [if_neg h56, if_pos (by omega)] at hS; exact hS
  have hwu : (κ = 5 ∨ κ = 6) → sta (wr x.u) = true := fun h => by
    refine wr_sta (note8 (hN.u h)).1 ?_
    unfold stN at hS
    rw [if_pos (by omega)] at hS; simp only [Bool.and_eq_true] at hS; exact hS.2
  have hwa : κ = 29 → sta (wr x.t) = true := fun h => by
    refine wr_sta (note8 (by have := hN.a h; unfold noteB; rw [this]; simp)).1 ?_
    unfold stN at hS
    rw [if_neg (by omega), if_pos (by omega)] at hS; exact hS
  have hno : κ = 21 → ks ≠ [] := fun h e => by
    unfold stN at hS
    rw [if_neg (by omega), if_neg (by omega), if_pos (by omega)] at hS
    have := of_decide_eq_true hS
    rw [hlen, e] at this
    exact this rfl
  have hnil : κ = 1 ∨ κ = 2 ∨ κ = 3 → ks = [] := fun h => by
    have h0 : x.kids = 0 := by rw [hN.kids (by omega)]; rcases h with rfl | rfl | rfl <;> decide
    rw [hlen] at h0
    exact List.eq_nil_of_length_eq_zero (by omega)
  unfold ruleD
  by_cases h4 : x.kind = 4
  · simp only [h4, if_true]
    refine ⟨trivial, fun t h => ?_⟩
    cases hl : Ck.look env (nm x) with
    | none => rw [hl] at h; cases h
    | some u => rw [hl] at h; cases h; exact hE _ _ hl
  simp only [h4, if_false]
  by_cases h56 : x.kind = 5 ∨ x.kind = 6
  · simp only [h56, if_true]
    rcases ks with _ | ⟨k, r⟩
    · exact ⟨rfl, fun t h => by cases h⟩
    · simp only
      rw [cn_sta (hk k (by simp)) (hwu (by omega))]
      refine ⟨rfl, fun t h => ?_⟩
      split at h
      · cases h; simp [sta, hwt (by omega), hwu (by omega)]
      · cases h
  simp only [h56, if_false]
  by_cases h8 : x.kind = 8
  · simp only [h8, if_true]
    rcases ks with _ | ⟨k, _ | ⟨b, r⟩⟩
    · exact ⟨rfl, fun t h => by cases h⟩
    · exact ⟨rfl, fun t h => by cases h⟩
    · simp only
      rw [cn_sta (hk k (by simp)) (hwt (by omega))]
      refine ⟨rfl, fun t h => ?_⟩
      split at h
      · cases h; exact hk b (by simp)
      · cases h
  simp only [h8, if_false]
  by_cases h29 : x.kind = 29
  · simp only [h29, if_true]
    rcases ks with _ | ⟨k, r⟩
    · exact ⟨rfl, fun t h => by cases h⟩
    · simp only
      rw [cn_sta (hk k (by simp)) (hwa (by omega))]
      refine ⟨rfl, fun t h => ?_⟩
      split at h
      · cases h; exact hwa (by omega)
      · cases h
  simp only [h29, if_false]
  by_cases h9 : x.kind = 9
  · simp only [h9, if_true]
    rcases ks with _ | ⟨c, _ | ⟨a, _ | ⟨b, r⟩⟩⟩
    · exact ⟨rfl, fun t h => by cases h⟩
    · exact ⟨rfl, fun t h => by cases h⟩
    · exact ⟨rfl, fun t h => by cases h⟩
    · simp only
      obtain ⟨m1, m2⟩ := meetsS_st (i := i) (ks := [b]) (hk a (by simp)) (fun k hq => hk k (by simp at hq; simp [hq]))
      rw [cn_sta (hk c (by simp)) (show sta Ty.tb = true from rfl), m1]
      refine ⟨rfl, fun t h => ?_⟩
      split at h
      · exact m2 t h
      · cases h
  simp only [h9, if_false]
  by_cases h18 : x.kind = 18
  · simp only [h18, if_true]
    rcases ks with _ | ⟨a, _ | ⟨b, r⟩⟩
    · exact ⟨trivial, fun t h => by cases h⟩
    · exact ⟨trivial, fun t h => by cases h⟩
    · exact ⟨trivial, fun t h => by cases h; simp [sta, hk a (by simp), hk b (by simp)]⟩
  simp only [h18, if_false]
  by_cases h26 : x.kind = 26
  · simp only [h26, if_true]
    rcases ks with _ | ⟨a, r⟩
    · exact ⟨trivial, fun t h => by cases h⟩
    · exact ⟨trivial, fun t h => by cases h; simp [sta, hk a (by simp)]⟩
  simp only [h26, if_false]
  by_cases h21 : x.kind = 21
  · simp only [h21, if_true]
    rcases ks with _ | ⟨k, r⟩
    · exact absurd rfl (hno (by omega))
    · simp only
      obtain ⟨m1, m2⟩ := meetsS_st (i := i) (ks := r) (hk k (by simp)) (fun q hq => hk q (by simp [hq]))
      rw [m1]
      refine ⟨rfl, fun t h => ?_⟩
      split at h
      · cases h
      · rename_i u hu; cases h; simpa [sta] using m2 u hu
  simp only [h21, if_false]
  cases hu : useT x.kind with
  | some u => exact useS_st hk
  | none =>
    simp only
    by_cases h123 : κ = 1 ∨ κ = 2 ∨ κ = 3
    · rw [hnil h123]
      exact ⟨rfl, fun t h => by cases h; exact opT_sta2 _⟩
    · unfold oprS
      rw [asksS_st (opT_sta _ (by omega) (by omega) (by omega)) hk]
      refine ⟨rfl, fun t h => ?_⟩
      split at h
      · cases h
      · cases h; exact opT_sta2 _
theorem inner_st {env : Env} {x : Nd} {κ : Nat} (hN : Nod x κ) (hS : stN x = true) (hE : StE env) (j : Nat) : StE (Ck.inner x j env) := by
  have hκ := hN.kind
  have hwt : (κ = 5 ∨ κ = 6 ∨ κ = 8) → sta (wr x.t) = true := fun h => by
    refine wr_sta (note8 (hN.t h)).1 ?_
    unfold stN at hS
    by_cases h56 : x.kind = 5 ∨ x.kind = 6
    · rw [if_pos h56] at hS; simp only [Bool.and_eq_true] at hS; exact hS.1
    · rw [if_neg h56, if_pos (by omega)] at hS; exact hS
  have hwu : (κ = 5 ∨ κ = 6) → sta (wr x.u) = true := fun h => by
    refine wr_sta (note8 (hN.u h)).1 ?_
    unfold stN at hS
    rw [if_pos (by omega)] at hS; simp only [Bool.and_eq_true] at hS; exact hS.2
  unfold Ck.inner
  split
  · exact hE.cons (hwt (by omega))
  · split
    · exact (hE.cons (by simp [sta, hwt (by omega), hwu (by omega)])).cons (hwt (by omega))
    · split
      · exact hE.cons (hwt (by omega))
      · exact hE
theorem headD_sta {ts : List Ty} (hne : ts ≠ []) (h : ∀ a ∈ ts, sta a = true) : sta (ts.headD .tq) = true := by
  cases ts with
  | nil => exact absurd rfl hne
  | cons a r => exact h a (by simp)
mutual
theorem kdT_st : ∀ (t : T) (env : Env) (i : Nat), Tr.wf t → (∀ x ∈ flat t, Tr.mayB x = true ∧ stN x = true) → StE env → kdT true env t i = kdT false env t i ∧ ∀ ts, kdT false env t i = .ok ts → ts ≠ [] ∧ ∀ a ∈ ts, sta a = true
  | .nd x ks, env, i, hw, hm, hE => by
    obtain ⟨hx1, hx2⟩ := hm x (by simp [flat])
    obtain ⟨κ, hN⟩ := nod_of hx1
    have hwf := hw
    rw [Tr.wf] at hwf
    rw [kdT, kdT]
    cases ha : Ck.ahead x with
    | true => simp
    | false =>
      obtain ⟨h1, h2⟩ := kdL_st ks env x 0 (i + 1) hwf.2 (fun y hy => hm y (by simp [flat, hy])) (fun j => inner_st hN hx2 hE j)
      rw [h1]
      cases hL : kdL false env x 0 ks (i + 1) with
      | error e => simp
      | ok rs =>
        have h3 := h2 rs hL
        have hk : ∀ k ∈ (rs.map fun r => (r.1, r.2.headD .tq)), sta k.2 = true := by
          intro k hk
          obtain ⟨r, hr, rfl⟩ := List.mem_map.1 hk
          exact headD_sta (h3 r hr).1 (h3 r hr).2
        obtain ⟨r1, r2⟩ := ruleD_st (i := i) hN hx2 hE hk (by rw [List.length_map, kdL_count ks env x 0 (i + 1) rs hL]; exact hwf.1)
        simp only [if_false, Bool.false_eq_true]
        rw [r1]
        refine ⟨rfl, fun ts h => ?_⟩
        split at h
        · cases h
        · rename_i u hu
          have hu2 := r2 u hu
          cases hM : made i u with
          | error e => rw [hM] at h; cases h
          | ok v =>
            rw [hM] at h
            cases h
            have hv : v = u := by
              unfold made at hM
              split at hM
              · cases hM; rfl
              · cases hM
            refine ⟨by simp, fun a ha => ?_⟩
            rcases List.mem_cons.1 ha with rfl | ha
            · rw [hv]; exact hu2
            · obtain ⟨l, hl, hal⟩ := List.mem_flatten.1 ha
              obtain ⟨r, hr, rfl⟩ := List.mem_map.1 hl
              exact (h3 r hr).2 a hal
theorem kdL_st : ∀ (ks : List T) (env : Env) (x : Nd) (j i : Nat), Tr.wfs ks → (∀ y ∈ flats ks, Tr.mayB y = true ∧ stN y = true) → (∀ j, StE (Ck.inner x j env)) → kdL true env x j ks i = kdL false env x j ks i ∧ ∀ rs, kdL false env x j ks i = .ok rs → ∀ r ∈ rs, r.2 ≠ [] ∧ ∀ a ∈ r.2, sta a = true
  | [], env, x, j, i, hw, hm, hE => by
    rw [kdL, kdL]
    refine ⟨rfl, fun rs h => ?_⟩
    cases h
    simp
  | t :: r, env, x, j, i, hw, hm, hE => by
    rw [Tr.wfs] at hw
    obtain ⟨h1, h2⟩ := kdT_st t (Ck.inner x j env) i hw.1 (fun y hy => hm y (by simp [flats, hy])) (hE j)
    obtain ⟨h3, h4⟩ := kdL_st r env x (j + 1) (i + (flat t).length) hw.2 (fun y hy => hm y (by simp [flats, hy])) hE
    rw [kdL, kdL, h1, h3]
    refine ⟨rfl, fun rs h => ?_⟩
    cases hT : kdT false (Ck.inner x j env) t i with
    | error e => rw [hT] at h; cases h
    | ok a =>
      rw [hT] at h
      cases hL : kdL false env x (j + 1) r (i + (flat t).length) with
      | error e => rw [hL] at h; cases h
      | ok b =>
        rw [hL] at h
        cases h
        intro q hq
        rcases List.mem_cons.1 hq with rfl | hq
        · exact h2 a hT
        · exact h4 b hL q hq
end
end Go.Proofs.YthihnkgjkmaplaaGreatDoor
namespace Go.Proofs.YthihnkgjkmaplaaGreatDoor
open Go.RowKit
set_option maxRecDepth 100000
set_option linter.unusedSimpArgs false

theorem getT {a : List (List UInt8)} {k : Nat} (h : k < a.length) : ∃ x, a[k]? = some x := ⟨a[k], List.getElem?_eq_getElem h⟩

set_option maxHeartbeats 4000000 in
theorem eqTexts_same (l : List (List UInt8)) (hlen : l.length ≤ 2199023255552) (va vb : Value) (w : World) (hla : IsTexts w va l) (hlb : IsTexts w vb l) :
    Calls Tryz.prog 12 #[va, vb] w fun e w' => e = .returned (.bool true) ∧ ∃ n, w' = w.drewN n := by
  obtain ⟨a, c, rfl⟩ := hla.form
  obtain ⟨a2, c2, rfl⟩ := hlb.form
  have hne : ((l.length : Int) != (l.length : Int)) = false := by simp
  go_enter Tryz.func12, Tryz.ntmps12
  go_wp2_with fail
  clear hne
  go_loopg [5] l.length (fun g t wr => ∃ k n : Nat, k + g = l.length ∧ t = .int .i64 (k : Int) ∧ wr = w.drewN n)
  case atStart => exact ⟨0, 0, by omega, rfl, rfl⟩
  case round =>
    obtain ⟨k, n, hkg, rfl, rfl⟩ := hrel
    by_cases hk : k < l.length
    · have hk' : (k : Int) < (l.length : Int) := by omega
      have hk0 : (0 : Int) ≤ (k : Int) := by omega
      obtain ⟨x, hx⟩ := getT hk
      obtain ⟨b1, o1, rfl, hc1, hl1, p0⟩ := hla.at hx
      obtain ⟨b2, o2, rfl, hc2, hl2, q0⟩ := hlb.at hx
      clear hx hla hlb
      go_wp2_with fail
      go_quiet (fail)
      go_wp2_with fail
      go_roundg (l.length - (k + 1))
      case measure => omega
      case rel => exact ⟨k + 1, _, by omega, by go_num, by first | rfl | exact World.drewN_drewN⟩
    · have hk' : ¬ (k : Int) < (l.length : Int) := by omega
      go_wp2_with fail
      go_ret
      exact ⟨rfl, n, rfl⟩

end Go.Proofs.YthihnkgjkmaplaaGreatDoor
namespace Go.Proofs.YthihnkgjkmaplaaGreatDoor
open Go.RowKit Ck
open T3.Tp (Ty enc cns met)
open Tr (flat wf)
set_option maxRecDepth 100000
set_option linter.unusedSimpArgs false

def caseLB (l : List Tr.Nd) (N Th : List (List UInt8)) : Bool := decide (400 < l.length) || decide (100 < N.length) || decide (100 < Th.length)
set_option maxHeartbeats 2000000 in
theorem caseLong_any (l : List Tr.Nd) (N Th : List (List UInt8)) (aL aN aT : Option Addr) (cL cN cT : Nat) (w : World) :
    Calls Tryz.prog 6 #[.agg #[.slice aL l.length cL, .slice aN N.length cN, .slice aT Th.length cT]] w fun e w' => e = .returned (.bool (caseLB l N Th)) ∧ Below w.heap.size w w' := by
  have HB : ∀ o : Obj, Below w.heap.size w (w.alloc o) := fun o => (Below.refl _ _).alloc (Nat.le_refl _) _
  by_cases h1 : 400 < l.length
  · have h1' : (400 : Int) < (l.length : Int) := by omega
    go_enter Tryz.func6, Tryz.ntmps6
    go_wp2_with fail
    go_ret
    exact ⟨ret_bool (by unfold caseLB; simp [h1]), HB _⟩
  · have h1' : ¬ (400 : Int) < (l.length : Int) := by omega
    by_cases h2 : 100 < N.length
    · have h2' : (100 : Int) < (N.length : Int) := by omega
      go_enter Tryz.func6, Tryz.ntmps6
      go_wp2_with fail
      go_ret
      exact ⟨ret_bool (by unfold caseLB; simp [h2]), HB _⟩
    · have h2' : ¬ (100 : Int) < (N.length : Int) := by omega
      go_enter Tryz.func6, Tryz.ntmps6
      go_wp2_with fail
      go_ret
      refine ⟨ret_bool ?_, HB _⟩
      unfold caseLB
      rw [Bool.eq_iff_iff]
      simp
      omega
theorem caseLong_no {l : List Tr.Nd} {N Th : List (List UInt8)} (h : caseLB l N Th = false) : l.length ≤ 400 ∧ N.length ≤ 100 ∧ Th.length ≤ 100 := by
  unfold caseLB at h
  simp at h
  omega
/-- The statement's case in a block of its own. -/
structure CBox (w : World) (b : Nat) (vL vN vT : Value) : Prop where
  lt : b < w.heap.size
  c0 : w.cell? ⟨b, 0, none⟩ = some vL
  c1 : w.cell? ⟨b, 1, none⟩ = some vN
  c2 : w.cell? ⟨b, 2, none⟩ = some vT
theorem CBox.below {w w' : World} {b : Nat} {vL vN vT : Value} (h : CBox w b vL vN vT) (hB : Below w.heap.size w w') : CBox w' b vL vN vT :=
  ⟨Nat.lt_of_lt_of_le h.lt hB.size, (hB.cell (p := ⟨b, 0, none⟩) h.lt).trans h.c0, (hB.cell (p := ⟨b, 1, none⟩) h.lt).trans h.c1, (hB.cell (p := ⟨b, 2, none⟩) h.lt).trans h.c2⟩
theorem CBox.new (w : World) (vL vN vT : Value) (t : TypeId) : CBox (w.alloc (.cells #[vL, vN, vT] t)) w.heap.size vL vN vT :=
  ⟨by simp, (block_cells (heap_alloc_new w (.cells #[vL, vN, vT] t))).1 0, (block_cells (heap_alloc_new w (.cells #[vL, vN, vT] t))).1 1, (block_cells (heap_alloc_new w (.cells #[vL, vN, vT] t))).1 2⟩

end Go.Proofs.YthihnkgjkmaplaaGreatDoor
