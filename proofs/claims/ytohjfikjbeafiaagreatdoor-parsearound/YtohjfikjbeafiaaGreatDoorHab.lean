/- For every source, ParseAround returns true: an expression that is read is read as the same tree in brackets with white space and a note between, and as what a definition says in a module; and its tree may be. Conditions: the listed variables of the library start as the program's text lays them. -/
import Derived.Test.YtohjfikjbeafiaaGreatDoorGaz
import Derived.Test.YtohjfikjbeafiaaGreatDoorHaa
import Derived.Test.YtohjfikjbeafiaaGreatDoorGad
import Derived.Test.YtohjfikjbeafiaaGreatDoorTie
import Derived.Test.YtohjfikjbeafiaaGreatDoorCards
import Derived.SevenTiedAt
namespace Go.Proofs.YtohjfikjbeafiaaGreatDoor.T1
namespace Tx
theorem sub_cons {bs : List UInt8} {i j : Nat} (h1 : i < j) (h2 : j ≤ bs.length) : ∃ c, sub bs i j = c :: sub bs (i + 1) j ∧ (c.toNat : Int) = B bs i := by
  obtain ⟨c, hd⟩ : ∃ c, bs.drop i = c :: bs.drop (i + 1) := ⟨bs[i], List.drop_eq_getElem_cons (by omega)⟩
  refine ⟨c, ?_, ?_⟩
  · unfold sub
    rw [hd, show j - i = (j - (i + 1)) + 1 from by omega, List.take_succ_cons]
  · unfold B
    have : bs[i]? = some c := by
      have := congrArg (fun l => l[0]?) hd
      simpa using this
    rw [this]
    rfl
theorem sub_split {bs : List UInt8} {i m j : Nat} (h1 : i ≤ m) (h2 : m ≤ j) : sub bs i j = sub bs i m ++ sub bs m j := by
  unfold sub
  have e : bs.drop m = (bs.drop i).drop (m - i) := by rw [List.drop_drop]; congr 1; omega
  rw [e, show j - i = (m - i) + (j - m) from by omega, List.take_add]

/-- The digits of a number, without zeros ahead. -/
structure Dec (v : Int) (p : List UInt8) : Prop where
  digs : digs p = true
  ne : p ≠ []
  lead : p = [48] ∨ ∀ c r, p = c :: r → c.toNat ≠ 48
  val : v = (vl 0 p : Int)
  max : vl 0 p ≤ 9223372036854775807
/-- What a token is written as. -/
def SaidOf (t : Tk) (p : List UInt8) : Prop := (t.kind = 4 ∧ quoted t.s = some p) ∨ (t.kind = 3 ∧ Dec t.n p) ∨ ((t.kind == 4) = false ∧ (t.kind == 3) = false ∧ t.s = p)

theorem esc_seen {c : Int} (h34 : (c == 34) = false) (h92 : (c == 92) = false) (h : seenB c = true) : esc c = some [byteOf c] := by
  unfold esc
  have h10 : (c == 10) = false := by
    unfold seenB at h
    simp at h ⊢
    omega
  simp [h10, h34, h92, h]
theorem sub_next {bs : List UInt8} {i j : Nat} (h1 : i < j) (h2 : j ≤ bs.length) : sub bs i j = byteOf (B bs i) :: sub bs (i + 1) j := by
  obtain ⟨c, hc, hB⟩ := sub_cons h1 h2
  rw [hc, ← hB, byteOf_nat]
theorem txt_said (bs : List UInt8) : ∀ (f k : Nat) (acc s : List UInt8) (j : Nat), k ≤ bs.length → acc.length ≤ 64 → txt bs f k acc = some (s, j) → ∃ s', s = acc ++ s' ∧ escAll s' = some (sub bs k (j - 1)) ∧ B bs (j - 1) = 34 ∧ s.length ≤ 64
  | 0, k, acc, s, j => fun _ _ h => by simp [txt] at h
  | f + 1, k, acc, s, j => fun hkl ha h => by
    have hc := txt_clean bs _ k acc s j hkl h
    unfold txt at h
    by_cases hk : k < bs.length
    · rw [if_pos hk] at h
      by_cases h34 : (B bs k == 34) = true
      · rw [if_pos h34] at h
        simp at h
        obtain ⟨rfl, rfl⟩ := h
        exact ⟨[], by simp, by unfold sub; simp [escAll], by simpa using h34, ha⟩
      · rw [if_neg h34] at h
        by_cases hg : ((txb bs k).2.1 && !(acc.length == 64)) = true
        · rw [if_pos hg] at h
          have h34' : (B bs k == 34) = false := by simpa using h34
          simp at hg
          have hlt := txb_lt bs k hk
          have hc2 := txt_clean bs _ _ _ s j hlt.2 h
          have hbd := txb_bd bs k
          obtain ⟨s', e1, e2, e3, e4⟩ := txt_said bs f _ _ s j hlt.2 (by simp; omega) h
          refine ⟨byteOf (txb bs k).1 :: s', by rw [e1]; simp, ?_, e3, e4⟩
          have he : esc (txb bs k).1 = some (sub bs k (txb bs k).2.2) := by
            have hg1 := hg.1
            unfold txb at hg1 ⊢
            by_cases h92 : (B bs k == 92) = true
            · rw [if_pos h92] at hg1 ⊢
              have hb92 : B bs k = 92 := by simpa using h92
              by_cases hk1 : k + 1 < bs.length
              · rw [if_pos hk1] at hg1 ⊢
                have hsub : sub bs k (k + 2) = [92, byteOf (B bs (k + 1))] := by
                  rw [sub_next (by omega) (by omega), sub_next (by omega) (by omega), hb92]
                  have : sub bs (k + 1 + 1) (k + 2) = [] := by unfold sub; simp
                  rw [this]; rfl
                by_cases h110 : (B bs (k + 1) == 110) = true
                · rw [if_pos h110] at hg1 ⊢
                  simp only []
                  rw [hsub, show B bs (k + 1) = 110 by simpa using h110]
                  rfl
                · rw [if_neg h110] at hg1 ⊢
                  simp only [] at hg1 ⊢
                  rw [hsub]
                  unfold esc
                  simp at hg1
                  rcases hg1 with e | e <;> (rw [e]; rfl)
              · rw [if_neg hk1] at hg1; simp at hg1
            · rw [if_neg h92] at hg1 ⊢
              simp only [] at hg1 ⊢
              rw [esc_seen h34' (by simpa using h92) hg1, sub_next (by omega) (by omega)]
              unfold sub; simp
          rw [escAll, byteOf_toNat hbd, he]
          simp only [e2]
          rw [← sub_split (by omega) (by omega)]
        · rw [if_neg hg] at h; cases h
    · rw [if_neg hk] at h; cases h
theorem quoted_of {s e : List UInt8} (h : escAll s = some e) (hl : s.length ≤ 64) : quoted s = some ([34] ++ e ++ [34]) := by
  unfold quoted
  rw [if_neg (by omega), quo_esc s s.length 0 [34] (by omega), List.drop_zero, h]
/-- What a token is written as is what it was cut out of. -/
theorem said_of {bs : List UInt8} {k j : Nat} {t : Tk} (hk : k < bs.length) (h : one bs k = .ok (t, j)) : SaidOf t (sub bs k j) := by
  have hj := one_ok hk h
  unfold one at h
  by_cases h1 : letterB (B bs k) = true
  · rw [if_pos h1] at h
    right; right
    unfold oneWord at h
    split at h
    · cases h; exact ⟨rfl, rfl, rfl⟩
    · split at h
      · cases h
      · cases h; exact ⟨rfl, rfl, rfl⟩
  · rw [if_neg h1] at h
    by_cases h2 : digitB (B bs k) = true
    · rw [if_pos h2] at h
      right; left
      unfold oneNum at h
      by_cases h48 : (B bs k == 48) = true ∧ k + 1 < upTo innerB bs k
      · rw [if_pos h48] at h; cases h
      · rw [if_neg h48] at h
        cases hv : numOf (sub bs k (upTo innerB bs k)) with
        | none => rw [hv] at h; cases h
        | some v =>
          rw [hv] at h
          cases h
          refine ⟨rfl, ?_⟩
          simp only []
          obtain ⟨c, hc, hcB⟩ := sub_cons hj.1 hj.2.1
          have hd : 48 ≤ c.toNat ∧ c.toNat ≤ 57 := by
            rw [← hcB] at h2
            unfold digitB at h2
            simp at h2
            omega
          have hz : c.toNat ≠ 48 ∨ sub bs (k + 1) (upTo innerB bs k) = [] := by
            by_cases e : c.toNat = 48
            · right
              have : ¬ k + 1 < upTo innerB bs k := fun e2 => h48 ⟨by rw [← hcB, e]; rfl, e2⟩
              unfold sub
              rw [show upTo innerB bs k - (k + 1) = 0 by omega]
              simp
            · exact .inl e
          rw [hc] at hv ⊢
          rw [num_worth c _ hd.1 hd.2 hz] at hv
          unfold worthF at hv
          split at hv
          · cases hv
          · split at hv
            · rename_i q
              cases hv
              refine ⟨q.1, by simp, ?_, rfl, q.2⟩
              rcases hz with e | e
              · right; intro c' r' e'; cases e'; exact e
              · by_cases e48 : c.toNat = 48
                · left; rw [e]; congr 1; exact UInt8.toNat_inj.1 e48
                · right; intro c' r' e'; cases e'; exact e48
            · cases hv
    · rw [if_neg h2] at h
      by_cases h3 : (B bs k == 34) = true
      · rw [if_pos h3] at h
        left
        unfold oneText at h
        cases hx : textAt bs k with
        | none => rw [hx] at h; cases h
        | some r =>
          obtain ⟨s, j'⟩ := r
          rw [hx] at h
          cases h
          refine ⟨rfl, ?_⟩
          simp only []
          obtain ⟨s', e1, e2, e3, e4⟩ := txt_said bs _ (k + 1) [] s _ (by omega) (by simp) hx
          have hc := txt_clean bs _ (k + 1) [] s _ (by omega) hx
          simp at e1
          subst e1
          rw [quoted_of e2 e4]
          congr 1
          have hb : B bs k = 34 := by simpa using h3
          rw [sub_split (bs := bs) (i := k) (m := k + 1) (by omega) (by omega), sub_split (bs := bs) (i := k + 1) (m := j - 1) (j := j) (by omega) (by omega)]
          have a1 : sub bs k (k + 1) = [34] := by rw [sub_next (by omega) (by omega), hb]; unfold sub; simp; rfl
          have a2 : sub bs (j - 1) j = [34] := by rw [sub_next (by omega) (by omega), e3]; unfold sub; rw [show j - (j - 1 + 1) = 0 by omega]; simp; rfl
          rw [a1, a2]
          simp
      · rw [if_neg h3] at h
        right; right
        unfold oneMark at h
        split at h
        · cases h; exact ⟨rfl, rfl, rfl⟩
        · split at h
          · cases h; exact ⟨rfl, rfl, rfl⟩
          · cases h

end Tx
end Go.Proofs.YtohjfikjbeafiaaGreatDoor.T1
namespace Go.Proofs.YtohjfikjbeafiaaGreatDoor
open Ps
set_option maxRecDepth 100000

theorem beh_same : ∀ (l : List UInt8) (m : Nat), T2.Tp.beh l m = Tp.beh l m
  | [], 0 => rfl
  | _ :: _, 0 => rfl
  | [], _ + 1 => rfl
  | c :: r, m + 1 => by
    rw [T2.Tp.beh, Tp.beh, beh_same r]
    rfl
theorem chk_same (l : List UInt8) : T2.Tp.chk l = Tp.chk l := by
  unfold T2.Tp.chk Tp.chk
  rw [beh_same]
theorem scan_same (p : Int → Bool) (bs : List UInt8) : ∀ (f k : Nat), T1.Tx.scan p bs f k = Tx.scan p bs f k
  | 0, _ => rfl
  | f + 1, k => by
    rw [T1.Tx.scan, Tx.scan, scan_same p bs f]
    rfl
theorem upTo_same (p : Int → Bool) (bs : List UInt8) (k : Nat) : T1.Tx.upTo p bs k = Tx.upTo p bs k := scan_same p bs _ _
theorem quo_same (bs : List UInt8) : ∀ (f k : Nat) (acc : List UInt8), T1.Tx.quo bs f k acc = Tx.quo bs f k acc
  | 0, _, _ => rfl
  | f + 1, k, acc => by
    rw [T1.Tx.quo, Tx.quo]
    have e : T1.Tx.esc (T1.Tx.B bs k) = Tx.esc (Tx.B bs k) := rfl
    rw [e]
    cases Tx.esc (Tx.B bs k) with
    | none => rfl
    | some x => exact quo_same bs f _ _
theorem quoted_same (bs : List UInt8) : T1.Tx.quoted bs = Tx.quoted bs := by
  unfold T1.Tx.quoted Tx.quoted
  rw [quo_same]
namespace Ps
open Tr (T Nd)
/-- A token as it may be. -/
def TokV (t : PT) : Prop := (t.kind = 2 → nameB t.s = true ∧ t.n = 0) ∧ (t.kind = 3 → t.s = [] ∧ 0 ≤ t.n) ∧ (t.kind = 4 → (Tx.quoted t.s).isSome = true ∧ t.n = 0)
theorem name_of {bs : List UInt8} {k : Nat} (hk : k < bs.length) (hl : T1.Tx.letterB (T1.Tx.B bs k) = true) (hw : ¬ T1.Tx.wordB (T1.Tx.sub bs k (T1.Tx.upTo T1.Tx.innerB bs k)) = true) (h32 : ¬ 32 < (T1.Tx.sub bs k (T1.Tx.upTo T1.Tx.innerB bs k)).length) : nameB (T1.Tx.sub bs k (T1.Tx.upTo T1.Tx.innerB bs k)) = true := by
  have hin := T1.Tx.letter_inner hl
  have h1 := T1.Tx.upTo_lt hk hin
  have h2 := T1.Tx.upTo_len T1.Tx.innerB (bs := bs) (k := k) (by omega)
  have hlen := T1.Tx.sub_length (bs := bs) (i := k) (j := T1.Tx.upTo T1.Tx.innerB bs k) (by omega) h2
  have hB : ∀ i, i < (T1.Tx.sub bs k (T1.Tx.upTo T1.Tx.innerB bs k)).length → T1.Tx.B (T1.Tx.sub bs k (T1.Tx.upTo T1.Tx.innerB bs k)) i = T1.Tx.B bs (k + i) := fun i hi => by
    rw [← T1.Tx.sub_get hi]
    unfold T1.Tx.B
    rw [List.getElem?_eq_getElem hi]
    rfl
  have hall : ∀ i, i < (T1.Tx.sub bs k (T1.Tx.upTo T1.Tx.innerB bs k)).length → T1.Tx.innerB (T1.Tx.B (T1.Tx.sub bs k (T1.Tx.upTo T1.Tx.innerB bs k)) i) = true := fun i hi => by
    rw [hB i hi]
    exact (T1.Tx.upTo_all T1.Tx.innerB bs k (k + i) (by omega) (by omega)).1
  have hB0 := hB 0 (by omega)
  generalize hs : T1.Tx.sub bs k (T1.Tx.upTo T1.Tx.innerB bs k) = s at *
  have hu : T1.Tx.upTo T1.Tx.innerB s 0 = s.length := by
    rw [T1.Tx.upTo_eq s.length (fun i hi => by rw [Nat.zero_add]; exact hall i hi) (by omega) (fun h => by omega)]
    omega
  rw [upTo_same] at hu
  have hl0 : Tx.letterB (Tx.B s 0) = true := by
    have e : Tx.B s 0 = T1.Tx.B s 0 := rfl
    rw [e, hB0]
    exact hl
  have hu' : Tx.upTo Tx.innerB s 0 = s.length := hu
  unfold nameB
  rw [hl0, hu']
  have hw' : Tx.wordB s = false := by
    have e : Tx.wordB s = T1.Tx.wordB s := rfl
    rw [e]; simpa using hw
  rw [hw']
  simp
  omega
theorem tok_valid {bs : List UInt8} {l : List (T1.Tx.Tk × Nat)} (h : T1.Tx.all bs = .ok l) {k : Nat} (hk : k < (ptsOf bs l).length) : TokV (tok (ptsOf bs l) (ptEnd bs) k) := by
  have hl : k < l.length := by simpa [ptsOf] using hk
  have hx : l[k]? = some l[k] := List.getElem?_eq_getElem hl
  obtain ⟨_, h2, j, h3⟩ := (toks_each _ _ h).1 l[k] (List.getElem_mem hl)
  have ht : tok (ptsOf bs l) (ptEnd bs) k = ptOf bs l[k] := by
    unfold tok ptsOf
    rw [List.getElem?_map, hx]
    rfl
  rw [ht]
  generalize l[k] = x at *
  obtain ⟨t, q⟩ := x
  have hs := T1.Tx.said_of h2 h3
  show (t.kind = 2 → nameB t.s = true ∧ t.n = 0) ∧ (t.kind = 3 → t.s = [] ∧ 0 ≤ t.n) ∧ (t.kind = 4 → (Tx.quoted t.s).isSome = true ∧ t.n = 0)
  simp only at h2 h3 hs
  unfold T1.Tx.one at h3
  split at h3
  · rename_i hc
    unfold T1.Tx.oneWord at h3
    split at h3
    · cases h3; simp
    · rename_i hw
      split at h3
      · cases h3
      · rename_i h32
        cases h3
        refine ⟨fun _ => ⟨name_of h2 hc hw h32, rfl⟩, by simp, by simp⟩
  · split at h3
    · unfold T1.Tx.oneNum at h3
      split at h3
      · cases h3
      · split at h3
        · cases h3
          refine ⟨by simp, fun _ => ⟨rfl, ?_⟩, by simp⟩
          rcases hs with ⟨h4, _⟩ | ⟨_, h4⟩ | ⟨_, h4, _⟩
          · simp at h4
          · have hv := h4.val
            rw [hv]
            exact Int.natCast_nonneg _
          · simp at h4
        · cases h3
    · split at h3
      · unfold T1.Tx.oneText at h3
        split at h3
        · cases h3
          refine ⟨by simp, by simp, fun _ => ⟨?_, rfl⟩⟩
          rcases hs with ⟨_, h4⟩ | ⟨h4, _⟩ | ⟨h4, _, _⟩
          · simp only at h4; rw [← quoted_same, h4]; rfl
          · simp at h4
          · simp at h4
        · cases h3
      · unfold T1.Tx.oneMark at h3
        split at h3
        · cases h3; simp
        · split at h3
          · cases h3; simp
          · cases h3
theorem cut32_app : ∀ (a b : List UInt8), (∀ c ∈ a, c ≠ 32) → Tr.cut32 (a ++ 32 :: b) = (a, b, true)
  | [], b, _ => by simp [Tr.cut32]
  | c :: a, b, h => by
    rw [List.cons_append, Tr.cut32, if_neg (h c (by simp)), cut32_app a b fun d hd => h d (by simp [hd])]
theorem name_no32 {s : List UInt8} (h : nameB s = true) : ∀ c ∈ s, c ≠ 32 := by
  intro c hc e
  subst e
  unfold nameB at h
  simp at h
  have hu := h.1.2
  obtain ⟨i, hi, he⟩ := List.getElem_of_mem hc
  have := (Tx.upTo_all Tx.innerB s 0 i (by omega) (by omega)).1
  unfold Tx.B at this
  rw [List.getElem?_eq_getElem hi, he] at this
  exact absurd this (by decide)
theorem note_val (t : Option T2.Tp.Ty) : noteB (valA t) = true := by
  cases t with
  | none => rfl
  | some t =>
    show noteB (T2.Tp.val t) = true
    by_cases h : (T2.Tp.enc t).length ≤ 64
    · unfold noteB typB
      rw [← chk_same, (T2.Tp.chk_val t).2 h]
      simp
    · rw [(val_nil t).2 h]; rfl
theorem type_val {t : T2.Tp.Ty} (h : (T2.Tp.enc t).length ≤ 64) : typB (T2.Tp.val t) = true := by
  unfold typB
  rw [← chk_same, (T2.Tp.chk_val t).2 h]
  rfl
theorem bs_list (l : List UInt8) : (bs l).data.toList = l := rfl
theorem made_may {L : List PT} {e : PT} {g : Prop} (hv : ∀ k, k < L.length → TokV (tok L e k)) (hg : g) {x : Nd} {m : Nat} (h : Made L e g x m) : Tr.mayB x = true := by
  have hkd : ∀ {k : Nat} {n : Int}, kd L k = n → n ≠ 0 → k < L.length ∧ (tok L e k).kind = n := fun {k n} hk hn => by
    have hl := kd_lt (L := L) (k := k) (by rw [hk]; exact hn)
    refine ⟨hl, ?_⟩
    unfold kd at hk
    unfold tok
    rw [List.getElem?_eq_getElem hl] at hk ⊢
    exact hk
  cases h with
  | num k h =>
    obtain ⟨hl, hk⟩ := hkd h (by decide)
    obtain ⟨h1, h2⟩ := (hv k hl).2.1 hk
    rw [h1]
    unfold Tr.mayB Tr.fitB Tr.nB Tr.sB Tr.tB Tr.uB Tr.nm
    simp [mkN, bs, Tr.arF, Tr.arK, h2]
  | str k h =>
    obtain ⟨hl, hk⟩ := hkd h (by decide)
    obtain ⟨h1, h2⟩ := (hv k hl).2.2 hk
    rw [h2]
    unfold Tr.mayB Tr.fitB Tr.nB Tr.sB Tr.tB Tr.uB Tr.nm
    simp [mkN, Tr.arF, Tr.arK, bs_list, h1]
  | var k h =>
    obtain ⟨hl, hk⟩ := hkd h (by decide)
    obtain ⟨h1, h2⟩ := (hv k hl).1 hk
    rw [h2]
    unfold Tr.mayB Tr.fitB Tr.nB Tr.sB Tr.tB Tr.uB Tr.nm
    simp [mkN, Tr.arF, Tr.arK, bs_list, h1]
  | truth p n h =>
    unfold Tr.mayB Tr.fitB Tr.nB Tr.sB Tr.tB Tr.uB Tr.nm
    rcases h with rfl | rfl <;> simp [mkN, Tr.arF, Tr.arK]
  | fn p k t u h =>
    obtain ⟨hl, hk⟩ := hkd h (by decide)
    obtain ⟨h1, _⟩ := (hv k hl).1 hk
    unfold Tr.mayB Tr.fitB Tr.nB Tr.sB Tr.tB Tr.uB Tr.nm
    simp [mkN, Tr.arF, Tr.arK, bs_list, h1, note_val]
  | rc p i k t u hi h =>
    obtain ⟨hl, hk⟩ := hkd h (by decide)
    obtain ⟨hl2, hk2⟩ := hkd hi (by decide)
    obtain ⟨h1, _⟩ := (hv k hl).1 hk
    obtain ⟨h2, _⟩ := (hv i hl2).1 hk2
    have hc : Tr.cut32 ((tok L e i).s ++ [32] ++ (tok L e k).s) = ((tok L e i).s, (tok L e k).s, true) := by
      rw [List.append_assoc]; exact cut32_app _ _ (name_no32 h2)
    unfold Tr.mayB Tr.fitB Tr.nB Tr.sB Tr.tB Tr.uB Tr.nm
    simp only [bs_list, hc]
    simp [mkN, Tr.arF, Tr.arK, h1, h2, note_val]
  | lt p k t h =>
    obtain ⟨hl, hk⟩ := hkd h (by decide)
    obtain ⟨h1, _⟩ := (hv k hl).1 hk
    unfold Tr.mayB Tr.fitB Tr.nB Tr.sB Tr.tB Tr.uB Tr.nm
    simp [mkN, Tr.arF, Tr.arK, bs_list, h1, note_val]
  | «as» p t h =>
    unfold Tr.mayB Tr.fitB Tr.nB Tr.sB Tr.tB Tr.uB Tr.nm
    simp [mkN, Tr.arF, Tr.arK, bs_list, type_val (h hg)]
  | bare p kind _ h =>
    unfold bare at h
    unfold Tr.mayB Tr.fitB Tr.nB Tr.sB Tr.tB Tr.uB Tr.nm
    rcases h with ⟨rfl, rfl⟩ | ⟨rfl, rfl⟩ | ⟨h1, h2, rfl⟩ | ⟨rfl, rfl⟩ | ⟨rfl, rfl⟩ | ⟨rfl, rfl⟩ | ⟨rfl, rfl⟩ | ⟨rfl, rfl⟩ | ⟨h1, h2, rfl⟩ | ⟨rfl, rfl⟩ | ⟨rfl, rfl⟩ | ⟨rfl, rfl⟩ | ⟨rfl, rfl⟩ | rfl
    case inr.inr.inl =>
      obtain rfl | rfl | rfl | rfl | rfl | rfl : kind = 10 ∨ kind = 11 ∨ kind = 12 ∨ kind = 13 ∨ kind = 14 ∨ kind = 15 := by omega
      all_goals simp [mkN, Tr.arF, Tr.arK]
    case inr.inr.inr.inr.inr.inr.inr.inr.inl =>
      obtain rfl | rfl | rfl : kind = 22 ∨ kind = 23 ∨ kind = 24 := by omega
      all_goals simp [mkN, Tr.arF, Tr.arK]
    all_goals simp [mkN, Tr.arF, Tr.arK]
end Ps
namespace Tr
mutual
theorem dpT_len : ∀ (d : Nat) (t : T), (dpT d t).length = (flat t).length
  | d, .nd x ks => by rw [dpT, flat, List.length_cons, List.length_cons, dpL_len]
theorem dpL_len : ∀ (d : Nat) (ts : List T), (dpL d ts).length = (flats ts).length
  | _, [] => by simp [dpL, flats]
  | d, t :: r => by rw [dpL, flats, List.length_append, List.length_append, dpT_len, dpL_len]
end
theorem mx_ge : ∀ (ds : List Nat) (a : Nat), a ≤ mx ds a ∧ ∀ d ∈ ds, d ≤ mx ds a
  | [], a => ⟨Nat.le_refl _, by simp⟩
  | d :: ds, a => by
    obtain ⟨h1, h2⟩ := mx_ge ds (max a d)
    rw [mx]
    refine ⟨by omega, fun e he => ?_⟩
    rcases List.mem_cons.1 he with rfl | he
    · omega
    · exact h2 e he
theorem deep_none : ∀ (ds : List Nat) (i : Nat), (∀ d ∈ ds, d ≤ 64) → deep ds i = none
  | [], _, _ => rfl
  | d :: ds, i, h => by rw [deep, if_neg (by have := h d (by simp); omega)]; exact deep_none ds _ (fun e he => h e (by simp [he]))
theorem bad_none {may : Nd → Bool} : ∀ (l : List Nd) (ds : List Nat) (i : Nat), (∀ x ∈ l, may x = true) → l.length ≤ ds.length → bad may l ds i = none
  | [], _, _, _, _ => rfl
  | x :: l, [], _, _, h => by simp at h
  | x :: l, d :: ds, i, hm, h => by rw [bad, if_neg (by rw [hm x (by simp)]; decide)]; exact bad_none l ds _ (fun y hy => hm y (by simp [hy])) (by simpa using h)
theorem dps_tree {t : T} (hw : wf t) : dps (kd (flat t)) [1] = dpT 1 t := by
  have hd := dps_flat t [] 0 [] hw
  have h0 : dps [] [0] = [] := rfl
  simpa [h0, kd] using hd
end Tr
theorem chk_of {t : Tr.T} (hw : Tr.wf t) (hm : ∀ x ∈ Tr.flat t, Tr.mayB x = true) (hl : (Tr.flat t).length ≤ 4096) (hh : Tr.high t ≤ 64) : chkN (Tr.flat t) = (0, 0) := by
  have hp := Tr.flat_pos t
  have hg := Tr.gs_flat t [] 0 0 hw
  rw [List.append_nil, Nat.zero_add, Nat.zero_add, Tr.gs_zero] at hg
  have hdp := Tr.dps_tree hw
  unfold Tr.kd at hg hdp
  rw [chkN_ck (by omega), Tr.ck_ref Tr.mayB (fun x hx => Tr.mayB_kids hx) (Tr.flat t) [1] 0 0 (by simp), hdp, Tr.bad_none _ _ _ hm (by rw [Tr.dpT_len]; exact Nat.le_refl _)]
  simp only
  rw [if_pos (by rw [Tr.go_gs, Nat.zero_add]; exact hg), Tr.deep_none]
  · rfl
  · intro d hd
    have h1 := (Tr.mx_ge (Tr.dpT 1 t) 0).2 d hd
    rw [Tr.mx_dpT] at h1
    omega
theorem expr_chk {bs : List UInt8} {ns : List Tr.Nd} (h : exprF bs = .ok ns) : chkN ns = (0, 0) ∧ ns.length ≤ 4096 := by
  obtain ⟨l, t, hb, hx, hsz, hhi, rfl⟩ := expr_out h
  have hall := ((pe_gd (ptsOf bs l) (ptEnd bs) _).1 0).at (show pe (ptsOf bs l) (ptEnd bs) (10 * ((ptsOf bs l).length - 0) + 7) .ex 0 = _ from hx)
  refine ⟨chk_of hall.wf (fun x hx => ?_) hsz hhi, hsz⟩
  obtain ⟨m, hm⟩ := hall.nodes x hx
  exact made_may (fun k hk => tok_valid hb hk) ⟨trivial, rfl⟩ hm
theorem likes_er : ∀ {a b : List Tr.Nd}, b.map er = a.map er → likes a b = true
  | [], [], _ => rfl
  | [], _ :: _, h => by simp at h
  | _ :: _, [], h => by simp at h
  | x :: a, y :: b, h => by
    rw [List.map_cons, List.map_cons, List.cons.injEq] at h
    rw [likes, likes_er h.2, Bool.and_true]
    have e := h.1
    unfold er at e
    simp only [Tr.Nd.mk.injEq] at e
    unfold likeB
    simp [e.1, e.2.1, e.2.2.1, e.2.2.2.1, e.2.2.2.2.1, e.2.2.2.2.2.1]
end Go.Proofs.YtohjfikjbeafiaaGreatDoor
namespace Go.Proofs.YtohjfikjbeafiaaGreatDoor
open Go.RowKit Ps
set_option maxRecDepth 100000
set_option linter.unusedSimpArgs false

theorem expr_fits {bs : List UInt8} {ns : List Tr.Nd} (hl : bs.length ≤ 60000) (h : exprF bs = .ok ns) : Fits ns := by
  obtain ⟨l, t, hb, hx, hsz, hhi, rfl⟩ := expr_out h
  have hall := ((pe_gd (ptsOf bs l) (ptEnd bs) _).1 0).at (show pe (ptsOf bs l) (ptEnd bs) (10 * ((ptsOf bs l).length - 0) + 7) .ex 0 = _ from hx)
  exact fits_all (pts_s hb hl) hall (by simp only [sz] at hsz; omega)

set_option maxHeartbeats 16000000 in
theorem parseAround_any (W : World) (hv : T1.Vars W) (h2 : 6 ≤ W.heap.size) (a0 : Option Addr) (cap0 : Nat) (bs : List UInt8) (hsrc : T1.IsSrc W (.slice a0 bs.length cap0) bs) :
    Calls Tryz.prog 6 #[.slice a0 bs.length cap0] W fun e w' => e = .returned (.bool true) ∧ Below W.heap.size W w' := by
  have HV : Aside (∀ w, Below W.heap.size W w → T1.Vars w ∧ 6 ≤ w.heap.size) := fun w hB => ⟨hv.below hB, Nat.le_trans h2 hB.size⟩
  have HK : Aside (∀ (w : World) (C : Array Value) (n c : Nat), (convert 22 22 (.slice (some ⟨w.heap.size, 0, none⟩) n c)).run Tryz.prog (w.alloc (.cells C 5)) = .ok (.slice (some ⟨w.heap.size, 0, none⟩) n c) (w.alloc (.cells C 5 (C.size, C.size + 1)))) := fun w C n c => Lib.run_convert_bytes_const w 22 5 C n c tyBytes und5
  have hwk := works_any W hv h2
  obtain ⟨i0, hi, hz0, hz1, hz2⟩ := info_parts info5
  by_cases hbig : 4096 < bs.length
  · have hbig' : (4096 : Int) < (bs.length : Int) := by omega
    go_enter Tryz.func6, Tryz.ntmps6
    go_wp2_with fail
    refine hwk.mono ?_
    rintro e1 w1 ⟨rfl, hB1⟩
    clear hwk
    go_wp2_with fail
    go_ret
    exact ⟨rfl, hB1⟩
  have hbig' : ¬ (4096 : Int) < (bs.length : Int) := by omega
  have HFc : Aside (∀ w, Below W.heap.size W w → Calls Tryz.prog 18 #[.slice a0 bs.length cap0] w (WhEnd OwnN (.slice none 0 0) w (exprF bs))) := fun w hB => faceN_any w _ bs (hsrc.kept hB) (by omega) (HV.out w hB).1 (HV.out w hB).2
  rcases hr : exprF bs with ⟨c, pa, pc⟩ | ns
  · rw [hr] at HFc
    have hc0 : c ≠ 0 := src_err hr
    have hc1 : (c == 0) = false := by simpa using hc0
    have hc2 : (c != 0) = true := by simpa using hc0
    clear hr
    go_enter Tryz.func6, Tryz.ntmps6
    go_wp2_with fail
    refine hwk.mono ?_
    rintro e1 w1 ⟨rfl, hB1⟩
    have hf := HFc.out w1 hB1
    clear hwk HFc
    go_wp2_with fail
    refine hf.mono ?_
    rintro e2 w2 ⟨hB2, rfl⟩
    have HB : Aside (∀ o, Below W.heap.size W (w2.alloc o)) := fun o => (hB1.trans (hB2.mono hB1.size)).alloc (hB1.trans (hB2.mono hB1.size)).size o
    clear hf hB2
    go_wp2_with fail
    go_ret
    exact ⟨rfl, HB.out _⟩
  rw [hr] at HFc
  obtain ⟨ns1, hr1, hlk1⟩ := expr_around hr
  obtain ⟨mo, df, hr2, hdf, hlk2⟩ := mods_around hr
  obtain ⟨hck, hnl⟩ := expr_chk hr
  have hfit := expr_fits (by omega) hr
  have hpos : 0 < bs.length := by
    by_cases h0 : bs = []
    · subst h0; exact absurd hr (by have e : exprF [] = .error (15, (1, 1)) := (by kernel_rfl); rw [e]; intro h; cases h)
    · exact List.length_pos_iff.2 h0
  have hchk := fun w v hv => treeCheck_any ns hfit v w hv
  rw [hck] at hchk
  have heq := fun w va vb ha hb => equal_any ns ns1 (by omega) va vb w ha hb
  rw [likes_er hlk1] at heq
  have heq2 := fun w va vb ha hb => equal_any ns df.ls (by omega) va vb w ha hb
  rw [likes_er hlk2] at heq2
  obtain ⟨sb, soff, scap, hvv, hsc⟩ := src_cells hsrc hpos
  obtain ⟨rfl, rfl⟩ : a0 = some ⟨sb, soff, none⟩ ∧ cap0 = scap := by simpa using hvv
  have hsb : sb < W.heap.size := by
    rcases hsrc with ⟨h, _⟩ | ⟨b, o, c, h1, h2, h3, _⟩
    · rw [h] at hpos; simp at hpos
    · simp at h1; omega
  have HDF : Aside (mo.dfs = [df]) := hdf
  have HCK := (show Aside _ from hchk)
  have HQA := (show Aside _ from heq)
  have HQB := (show Aside _ from heq2)
  have HR1 := (show Aside (True → _) from fun _ => hr1)
  have HR2 := (show Aside (True → _) from fun _ => hr2)
  clear hr hck hvv hsrc hlk1 hlk2 hdf hfit hchk heq heq2 hr1 hr2
  go_enter Tryz.func6, Tryz.ntmps6
  go_wp2_with fail
  refine hwk.mono ?_
  rintro e1 w1 ⟨rfl, hB1⟩
  have hf := HFc.out w1 hB1
  clear hwk HFc
  go_wp2_with fail
  refine hf.mono ?_
  rintro e2 w2 ⟨hB2, v2, rfl, hO2⟩
  have hB3 : Below W.heap.size W (w2.alloc (.cells #[.int .i64 0, .int .i64 0] 28)) := (hB1.trans (hB2.mono hB1.size)).alloc (hB1.trans (hB2.mono hB1.size)).size _
  have hO3 : (w2.alloc (.cells #[.int .i64 0, .int .i64 0] 28)).ownsRow w1.heap.size 80 8 v2 ns.length (nrow ns) := own_below hO2 ((Below.refl _ _).alloc (Nat.le_refl _) _)
  obtain ⟨la, lc, rfl⟩ := own_len hO3
  clear hf hB2 hO2
  go_upto_region 7 with fail
  generalize hw3 : w2.alloc (.cells #[.int .i64 0, .int .i64 0] 28) = w3 at *
  clear hw3
  have kcA : (convert 22 22 (.slice (some ⟨w3.heap.size, 0, none⟩) 7 7)).run Tryz.prog (w3.alloc (.cells #[.int .u8 40, .int .u8 32, .int .u8 35, .int .u8 32, .int .u8 40, .int .u8 10, .int .u8 9] 5)) = .ok (.slice (some ⟨w3.heap.size, 0, none⟩) 7 7) (w3.alloc (.cells #[.int .u8 40, .int .u8 32, .int .u8 35, .int .u8 32, .int .u8 40, .int .u8 10, .int .u8 9] 5 (7, 8))) := HK.out w3 #[.int .u8 40, .int .u8 32, .int .u8 35, .int .u8 32, .int .u8 40, .int .u8 10, .int .u8 9] 7 7
  have hBmA : Below W.heap.size W (w3.alloc (.cells #[.int .u8 40, .int .u8 32, .int .u8 35, .int .u8 32, .int .u8 40, .int .u8 10, .int .u8 9] 5 (7, 8))) := hB3.alloc hB3.size _
  have hlA : ∀ j u, (bc [40, 32, 35, 32, 40, 10, 9])[j]? = some u → (w3.alloc (.cells #[.int .u8 40, .int .u8 32, .int .u8 35, .int .u8 32, .int .u8 40, .int .u8 10, .int .u8 9] 5 (7, 8))).cell? ((⟨w3.heap.size, 0, none⟩ : Addr).add j) = some u := lit_cells w3 [40, 32, 35, 32, 40, 10, 9] (7, 8)
  have hxA : ∀ j u, (bc bs)[j]? = some u → (w3.alloc (.cells #[.int .u8 40, .int .u8 32, .int .u8 35, .int .u8 32, .int .u8 40, .int .u8 10, .int .u8 9] 5 (7, 8))).cell? ((⟨sb, soff, none⟩ : Addr).add j) = some u := fun j u hj => by have h := hsc j u hj; rw [Addr.add_lit] at h ⊢; exact (hBmA.cell (p := ⟨sb, soff + j, none⟩) hsb).trans h
  have HZA : Aside ((w3.alloc (.cells #[.int .u8 40, .int .u8 32, .int .u8 35, .int .u8 32, .int .u8 40, .int .u8 10, .int .u8 9] 5 (7, 8))).heap.size = w3.heap.size + 1) := by show _ = _; simp
  go_upto_region 8 with (at_builtin; go_must (refine wpList_append_grows _ rfl _ _ 22 rfl 5 i0 _ 1 1 tyBytes hi hz0 hz1 hz2 rfl (by decide) (some ⟨w3.heap.size, 0, none⟩) 7 7 (bc [40, 32, 35, 32, 40, 10, 9]) rfl (fun h => by cases h) rfl (fun b hb => by cases hb; exact hlA) ⟨sb, soff, none⟩ bs.length cap0 (bc bs) rfl (by rw [bc_len]; omega) hxA (bc_one bs) (by omega) (by unfold maxLen; omega) (by omega) ?_); intro vaA waA hoaA hgaA)
  have hbaA := below_none hgaA
  have hBaA : Below W.heap.size W waA := hBmA.trans (hbaA.mono hBmA.size)
  obtain ⟨aaA, acA, rfl⟩ := own_len hoaA
  have hszA : (w3.alloc (.cells #[.int .u8 40, .int .u8 32, .int .u8 35, .int .u8 32, .int .u8 40, .int .u8 10, .int .u8 9] 5 (7, 8))).heap.size ≤ waA.heap.size := hbaA.size
  have hNaA : Below w3.heap.size w3 waA := ((Below.refl _ _).alloc (Nat.le_refl _) _).trans (hbaA.mono (by rw [HZA.out]; omega))
  clear kcA hlA hxA hgaA hbaA
  go_wp2_with (at_builtin; go_must (refine Lib.wpList_append_own_string _ rfl _ _ 22 9 rfl _ 5 i0 tyBytes und9 hi hz0 hz1 hz2 (.slice aaA (7 + bs.length) acA) _ _ rfl hoaA ⟨#[10, 41]⟩ rfl (by unfold maxLen; show 7 + bs.length + 2 ≤ _; omega) (by show 7 + bs.length + 2 ≤ _; omega) hszA ?_); intro vbA wbA hobA hgbA _)
  have hbbA := below_row hszA hoaA hgbA
  have hBbA : Below W.heap.size W wbA := hBaA.trans (hbbA.mono (Nat.le_trans hBmA.size (Nat.le_refl _)))
  have hrowA : wbA.ownsRow (w3.alloc (.cells #[.int .u8 40, .int .u8 32, .int .u8 35, .int .u8 32, .int .u8 40, .int .u8 10, .int .u8 9] 5 (7, 8))).heap.size 5 1 vbA (T1.Tx.put [40, 32, 35, 32, 40, 10, 9] bs [41]).length (bc (T1.Tx.put [40, 32, 35, 32, 40, 10, 9] bs [41])) := (by rw [show (T1.Tx.put [40, 32, 35, 32, 40, 10, 9] bs [41]).length = 7 + bs.length + 2 by (rw [T1.Tx.put_len]; simp <;> omega), show bc (T1.Tx.put [40, 32, 35, 32, 40, 10, 9] bs [41]) = bc [40, 32, 35, 32, 40, 10, 9] ++ bc bs ++ Lib.strCells ⟨#[10, 41]⟩ by (unfold T1.Tx.put; rw [bc_app, bc_app, ← List.append_assoc]; rfl)]; exact hobA)
  have hsrA := src_own hrowA
  have hfA := faceN_any wbA _ _ hsrA (by rw [T1.Tx.put_len]; simp <;> omega) (HV.out _ hBbA).1 (HV.out _ hBbA).2
  rw [(show exprF (T1.Tx.put [40, 32, 35, 32, 40, 10, 9] bs [41]) = .ok ns1 from HR1.out trivial)] at hfA
  have hNA : Below w3.heap.size w3 wbA := hNaA.trans (hbbA.mono (by rw [HZA.out]; omega))
  clear hobA hgbA hrowA hsrA hoaA hNaA
  refine hfA.mono ?_
  rintro e5 w5 ⟨hB5, v5, rfl, hO5⟩
  have hB6 : Below W.heap.size W (w5.alloc (.cells #[.int .i64 0, .int .i64 0] 28)) := (hBbA.trans (hB5.mono hBbA.size)).alloc (hBbA.trans (hB5.mono hBbA.size)).size _
  have hS6 : Below w3.heap.size w3 (w5.alloc (.cells #[.int .i64 0, .int .i64 0] 28)) := (hNA.trans (hB5.mono hNA.size)).alloc (hNA.trans (hB5.mono hNA.size)).size _
  have hO6 := own_below hO3 hS6
  have hP6 : (w5.alloc (.cells #[.int .i64 0, .int .i64 0] 28)).ownsRow wbA.heap.size 80 8 v5 ns1.length (nrow ns1) := own_below hO5 ((Below.refl _ _).alloc (Nat.le_refl _) _)
  obtain ⟨ma, mc, rfl⟩ := own_len hP6
  clear hfA hB5 hS6 hO3 hO5 hNA
  go_upto_region 10 with fail
  generalize hw6 : w5.alloc (.cells #[.int .i64 0, .int .i64 0] 28) = w6 at *
  clear hw6
  have kcB : (convert 22 22 (.slice (some ⟨w6.heap.size, 0, none⟩) 19 19)).run Tryz.prog (w6.alloc (.cells #[.int .u8 109, .int .u8 111, .int .u8 100, .int .u8 117, .int .u8 108, .int .u8 101, .int .u8 32, .int .u8 109, .int .u8 32, .int .u8 123, .int .u8 32, .int .u8 108, .int .u8 101, .int .u8 116, .int .u8 32, .int .u8 120, .int .u8 32, .int .u8 61, .int .u8 32] 5)) = .ok (.slice (some ⟨w6.heap.size, 0, none⟩) 19 19) (w6.alloc (.cells #[.int .u8 109, .int .u8 111, .int .u8 100, .int .u8 117, .int .u8 108, .int .u8 101, .int .u8 32, .int .u8 109, .int .u8 32, .int .u8 123, .int .u8 32, .int .u8 108, .int .u8 101, .int .u8 116, .int .u8 32, .int .u8 120, .int .u8 32, .int .u8 61, .int .u8 32] 5 (19, 20))) := HK.out w6 #[.int .u8 109, .int .u8 111, .int .u8 100, .int .u8 117, .int .u8 108, .int .u8 101, .int .u8 32, .int .u8 109, .int .u8 32, .int .u8 123, .int .u8 32, .int .u8 108, .int .u8 101, .int .u8 116, .int .u8 32, .int .u8 120, .int .u8 32, .int .u8 61, .int .u8 32] 19 19
  have hBmB : Below W.heap.size W (w6.alloc (.cells #[.int .u8 109, .int .u8 111, .int .u8 100, .int .u8 117, .int .u8 108, .int .u8 101, .int .u8 32, .int .u8 109, .int .u8 32, .int .u8 123, .int .u8 32, .int .u8 108, .int .u8 101, .int .u8 116, .int .u8 32, .int .u8 120, .int .u8 32, .int .u8 61, .int .u8 32] 5 (19, 20))) := hB6.alloc hB6.size _
  have hlB : ∀ j u, (bc [109, 111, 100, 117, 108, 101, 32, 109, 32, 123, 32, 108, 101, 116, 32, 120, 32, 61, 32])[j]? = some u → (w6.alloc (.cells #[.int .u8 109, .int .u8 111, .int .u8 100, .int .u8 117, .int .u8 108, .int .u8 101, .int .u8 32, .int .u8 109, .int .u8 32, .int .u8 123, .int .u8 32, .int .u8 108, .int .u8 101, .int .u8 116, .int .u8 32, .int .u8 120, .int .u8 32, .int .u8 61, .int .u8 32] 5 (19, 20))).cell? ((⟨w6.heap.size, 0, none⟩ : Addr).add j) = some u := lit_cells w6 [109, 111, 100, 117, 108, 101, 32, 109, 32, 123, 32, 108, 101, 116, 32, 120, 32, 61, 32] (19, 20)
  have hxB : ∀ j u, (bc bs)[j]? = some u → (w6.alloc (.cells #[.int .u8 109, .int .u8 111, .int .u8 100, .int .u8 117, .int .u8 108, .int .u8 101, .int .u8 32, .int .u8 109, .int .u8 32, .int .u8 123, .int .u8 32, .int .u8 108, .int .u8 101, .int .u8 116, .int .u8 32, .int .u8 120, .int .u8 32, .int .u8 61, .int .u8 32] 5 (19, 20))).cell? ((⟨sb, soff, none⟩ : Addr).add j) = some u := fun j u hj => by have h := hsc j u hj; rw [Addr.add_lit] at h ⊢; exact (hBmB.cell (p := ⟨sb, soff + j, none⟩) hsb).trans h
  have HZB : Aside ((w6.alloc (.cells #[.int .u8 109, .int .u8 111, .int .u8 100, .int .u8 117, .int .u8 108, .int .u8 101, .int .u8 32, .int .u8 109, .int .u8 32, .int .u8 123, .int .u8 32, .int .u8 108, .int .u8 101, .int .u8 116, .int .u8 32, .int .u8 120, .int .u8 32, .int .u8 61, .int .u8 32] 5 (19, 20))).heap.size = w6.heap.size + 1) := by show _ = _; simp
  go_upto_region 11 with (at_builtin; go_must (refine wpList_append_grows _ rfl _ _ 22 rfl 5 i0 _ 1 1 tyBytes hi hz0 hz1 hz2 rfl (by decide) (some ⟨w6.heap.size, 0, none⟩) 19 19 (bc [109, 111, 100, 117, 108, 101, 32, 109, 32, 123, 32, 108, 101, 116, 32, 120, 32, 61, 32]) rfl (fun h => by cases h) rfl (fun b hb => by cases hb; exact hlB) ⟨sb, soff, none⟩ bs.length cap0 (bc bs) rfl (by rw [bc_len]; omega) hxB (bc_one bs) (by omega) (by unfold maxLen; omega) (by omega) ?_); intro vaB waB hoaB hgaB)
  have hbaB := below_none hgaB
  have hBaB : Below W.heap.size W waB := hBmB.trans (hbaB.mono hBmB.size)
  obtain ⟨aaB, acB, rfl⟩ := own_len hoaB
  have hszB : (w6.alloc (.cells #[.int .u8 109, .int .u8 111, .int .u8 100, .int .u8 117, .int .u8 108, .int .u8 101, .int .u8 32, .int .u8 109, .int .u8 32, .int .u8 123, .int .u8 32, .int .u8 108, .int .u8 101, .int .u8 116, .int .u8 32, .int .u8 120, .int .u8 32, .int .u8 61, .int .u8 32] 5 (19, 20))).heap.size ≤ waB.heap.size := hbaB.size
  have hNaB : Below w6.heap.size w6 waB := ((Below.refl _ _).alloc (Nat.le_refl _) _).trans (hbaB.mono (by rw [HZB.out]; omega))
  clear kcB hlB hxB hgaB hbaB
  go_wp2_with (at_builtin; go_must (refine Lib.wpList_append_own_string _ rfl _ _ 22 9 rfl _ 5 i0 tyBytes und9 hi hz0 hz1 hz2 (.slice aaB (19 + bs.length) acB) _ _ rfl hoaB ⟨#[10, 59, 32, 125]⟩ rfl (by unfold maxLen; show 19 + bs.length + 4 ≤ _; omega) (by show 19 + bs.length + 4 ≤ _; omega) hszB ?_); intro vbB wbB hobB hgbB _)
  have hbbB := below_row hszB hoaB hgbB
  have hBbB : Below W.heap.size W wbB := hBaB.trans (hbbB.mono (Nat.le_trans hBmB.size (Nat.le_refl _)))
  have hrowB : wbB.ownsRow (w6.alloc (.cells #[.int .u8 109, .int .u8 111, .int .u8 100, .int .u8 117, .int .u8 108, .int .u8 101, .int .u8 32, .int .u8 109, .int .u8 32, .int .u8 123, .int .u8 32, .int .u8 108, .int .u8 101, .int .u8 116, .int .u8 32, .int .u8 120, .int .u8 32, .int .u8 61, .int .u8 32] 5 (19, 20))).heap.size 5 1 vbB (T1.Tx.put [109, 111, 100, 117, 108, 101, 32, 109, 32, 123, 32, 108, 101, 116, 32, 120, 32, 61, 32] bs [59, 32, 125]).length (bc (T1.Tx.put [109, 111, 100, 117, 108, 101, 32, 109, 32, 123, 32, 108, 101, 116, 32, 120, 32, 61, 32] bs [59, 32, 125])) := (by rw [show (T1.Tx.put [109, 111, 100, 117, 108, 101, 32, 109, 32, 123, 32, 108, 101, 116, 32, 120, 32, 61, 32] bs [59, 32, 125]).length = 19 + bs.length + 4 by (rw [T1.Tx.put_len]; simp <;> omega), show bc (T1.Tx.put [109, 111, 100, 117, 108, 101, 32, 109, 32, 123, 32, 108, 101, 116, 32, 120, 32, 61, 32] bs [59, 32, 125]) = bc [109, 111, 100, 117, 108, 101, 32, 109, 32, 123, 32, 108, 101, 116, 32, 120, 32, 61, 32] ++ bc bs ++ Lib.strCells ⟨#[10, 59, 32, 125]⟩ by (unfold T1.Tx.put; rw [bc_app, bc_app, ← List.append_assoc]; rfl)]; exact hobB)
  have hsrB := src_own hrowB
  have hfB := faceM_any wbB _ _ hsrB (by rw [T1.Tx.put_len]; simp <;> omega) (HV.out _ hBbB).1 (HV.out _ hBbB).2
  rw [(show modsF (T1.Tx.put [109, 111, 100, 117, 108, 101, 32, 109, 32, 123, 32, 108, 101, 116, 32, 120, 32, 61, 32] bs [59, 32, 125]) = .ok [mo] from HR2.out trivial)] at hfB
  have hNB : Below w6.heap.size w6 wbB := hNaB.trans (hbbB.mono (by rw [HZB.out]; omega))
  clear hobB hgbB hrowB hsrB hoaB hNaB
  refine hfB.mono ?_
  rintro e7 w7 ⟨hB7, v7, rfl, hO7⟩
  have hB8 : Below W.heap.size W (w7.alloc (.cells #[.int .i64 0, .int .i64 0] 28)) := (hBbB.trans (hB7.mono hBbB.size)).alloc (hBbB.trans (hB7.mono hBbB.size)).size _
  have hS8 : Below w6.heap.size w6 (w7.alloc (.cells #[.int .i64 0, .int .i64 0] 28)) := (hNB.trans (hB7.mono hNB.size)).alloc (hNB.trans (hB7.mono hNB.size)).size _
  have hO8 := own_below hO6 hS8
  have hP8 := own_below hP6 hS8
  have hQ : Below w7.heap.size w7 (w7.alloc (.cells #[.int .i64 0, .int .i64 0] 28)) := (Below.refl _ _).alloc (Nat.le_refl _) _
  obtain ⟨Ms, hMs, hrow, hmods⟩ := hO7
  obtain ⟨M, rfl⟩ : ∃ M, Ms = [M] := List.length_eq_one_iff.1 (by have := congrArg List.length hMs; simpa using this)
  have hMm : M.m = mo := by simpa using hMs
  have hMo := (hmods.own M (by simp)).stay hQ
  have hrow8 := own_below hrow hQ
  have hDe : M.D.map (·.1) = [df] := by rw [hMo.eq, hMm, HDF.out]
  obtain ⟨pq, hpq⟩ : ∃ p, M.D = [p] := List.length_eq_one_iff.1 (by have := congrArg List.length hDe; simpa using this)
  have hpd : pq.1 = df := by rw [hpq] at hDe; simpa using hDe
  have htr := hMo.trees.own pq (by rw [hpq]; simp)
  rw [hpd] at htr
  have hdr := hMo.dfs
  rw [hpq] at hdr
  obtain ⟨gd, cd, hvD, hcd, _, hnd⟩ := own_cells hdr (by simp)
  obtain ⟨gm, cm, rfl, hcm, _, hnm⟩ := own_cells hrow8 (by simp)
  obtain ⟨ta, tc, htv⟩ := own_len htr
  have m2 : (w7.alloc (.cells #[.int .i64 0, .int .i64 0] 28)).cell? ⟨gm, 2, none⟩ = some (.slice (some ⟨gd, 0, none⟩) 1 cd) := (hnm 2 (by simp)).trans (by rw [show (.slice (some ⟨gd, 0, none⟩) 1 cd : Value) = M.vD from hvD.symm]; rfl)
  have d3 : (w7.alloc (.cells #[.int .i64 0, .int .i64 0] 28)).cell? ⟨gd, 3, none⟩ = some (.slice ta df.ls.length tc) := (hnd 3 (by simp)).trans (by rw [← htv]; rfl)
  rw [htv] at htr
  clear hfB hB7 hS8 hO6 hP6 hNB hQ hMs hrow hmods hMm hMo hrow8 hDe hpq hpd hdr hnd hnm htv hvD
  have hc8 := HCK.out _ _ (IsNodes.own hO8)
  go_wp2_with fail
  refine hc8.mono ?_
  rintro e9 w9 ⟨rfl, hB9⟩
  have hO9 := own_below hO8 hB9
  have hP9 := own_below hP8 hB9
  have hT9 := own_below htr hB9
  have m9 := (hB9.cell (p := ⟨gm, 2, none⟩) (World.block_lt_of_cell? _ _ m2)).trans m2
  have d9 := (hB9.cell (p := ⟨gd, 3, none⟩) (World.block_lt_of_cell? _ _ d3)).trans d3
  have hBW9 : Below W.heap.size W w9 := hB8.trans (hB9.mono hB8.size)
  clear hc8 hB9 hO8 hP8 htr m2 d3
  have hq9 := HQA.out w9 _ _ (IsNodes.own hO9) (IsNodes.own hP9)
  go_wp2_with fail
  refine hq9.mono ?_
  rintro e10 w10 ⟨rfl, hB10⟩
  have hO10 := own_below hO9 hB10
  have hT10 := own_below hT9 hB10
  have m10 := (hB10.cell (p := ⟨gm, 2, none⟩) (World.block_lt_of_cell? _ _ m9)).trans m9
  have d10 := (hB10.cell (p := ⟨gd, 3, none⟩) (World.block_lt_of_cell? _ _ d9)).trans d9
  have hBW10 : Below W.heap.size W w10 := hBW9.trans (hB10.mono hBW9.size)
  clear hq9 hB10 hO9 hP9 hT9 m9 d9
  have hq10 := HQB.out w10 _ _ (IsNodes.own hO10) (IsNodes.own hT10)
  go_wp2_with fail
  refine hq10.mono ?_
  rintro e11 w11 ⟨rfl, hB11⟩
  have HBF : Aside (Below W.heap.size W w11) := hBW10.trans (hB11.mono hBW10.size)
  clear hq10 hB11
  go_wp2_with fail
  go_ret
  exact ⟨rfl, HBF.out⟩
end Go.Proofs.YtohjfikjbeafiaaGreatDoor
namespace Go.Proofs.YtohjfikjbeafiaaGreatDoor
open Go.ChangeShapes Go.WideShapes Go.ChangeAt Go.RowKit

set_option maxRecDepth 100000 in
theorem parseAround_lifted (os : Os) (started : os.Started) (H : Type) (enc : TypeId × Value → H) :
    ReturnsInHanded {} Tryz.checked os 6 .any (fun w args => (Rows.parseAroundSpec.pre enc Tryz.prog Tryz.f6 [] false w args ∧ laidMetH Tryz.prog laidAll w) ∧ sizedMet enc Tryz.prog Tryz.f6 (OpenSpec.ofChange Rows.parseAroundSpec) false w args)
      (Rows.parseAroundSpec.post enc Tryz.prog Tryz.f6 false true false false) := by
  refine returnsInHanded_of_change_and (C := Tryz.checked) (X := fun w _ => laidMetH Tryz.prog laidAll w) (fun _ _ _ hh h => h.of_heap hh) ownKnobs started (by kernel_rfl) Tryz.func6
    (ChangeSpec.witness_shaped (enc := enc) (C := Tryz.checked) (os := os) (X := fun w _ => laidMetH Tryz.prog laidAll w) false (World.doorLaid Tryz.prog 400 os) #[.slice none 0 0] 8 rfl (World.shaped_of_RefB (by kernel_rfl) (by kernel_rfl)) (by kernel_rfl) (by kernel_rfl) (by kernel_rfl) (door_met os _)) ?_
  intro W base args ds gs before hval0 hW hgs _ hL _
  have hval : ∀ (j : Nat) t v, Tryz.f6.params[j]? = some t → args[j]? = some v → Value.okWide Tryz.prog W .any base t v := hval0
  have hW' := hW
  obtain ⟨p, q, hA0, hV, rfl, hfz, hnd⟩ := hW
  have hA : DataW.TrodAll enc Tryz.prog W 0 (fun _ => true) true Tryz.f6.params.toList args.toList ds p := hA0
  rw [Tryz.params6] at hA hval
  obtain ⟨v0, vs0, d0, ds0, p0, q0, hargs, rfl, rfl, h0, r0⟩ := trodAll_cons hA
  obtain ⟨rfl, rfl, rfl⟩ := trodAll_nil r0
  obtain rfl : args = #[v0] := by cases args; simp_all
  obtain ⟨rfl, rfl⟩ := trodVars_none hV
  obtain ⟨a0, len0, cap0, rfl⟩ := okWide_slice Tryz.underlying22 (hval 0 22 v0 rfl rfl)
  have k0 := h0
  have lt0 : ∀ x ∈ p0, x.block < W.heap.size := by obtain ⟨m, hm⟩ := k0; exact DataW.trod_lt m _ _ _ hm
  obtain ⟨bs, hbl, hsrc, hbc, hml⟩ : ∃ bs : List UInt8, bs.length = len0 ∧ T1.IsSrc W (.slice a0 bs.length cap0) bs ∧ bs.length ≤ cap0 ∧ bs.length ≤ maxLen := by
    obtain ⟨fuel, hf⟩ := h0
    rcases open_ints Tryz.underlying22 Tryz.underlying5 (by kernel_rfl) hf with ⟨hcs, _⟩ | ⟨x, l, c, zs, hcs, _, hl, hm, hz, _, hcell, hwz⟩
    · simp [Value.cells] at hcs
      obtain ⟨rfl, rfl, rfl⟩ := hcs
      exact ⟨[], rfl, Or.inl ⟨rfl, _, _, rfl⟩, by simp, by simp⟩
    · simp [Value.cells] at hcs
      obtain ⟨rfl, rfl, rfl⟩ := hcs
      obtain ⟨bs, e1, e2, e3⟩ := src_of_row hl (by simpa using hz) hcell hwz
      exact ⟨bs, e1, e2, e3, by omega⟩
  have hvs := vars_of_laid hL
  have h2 : 6 ≤ W.heap.size := size_of_laid hL
  clear hA0 hval0
  subst hbl
  refine (parseAround_any W hvs h2 a0 cap0 bs hsrc).mono fun e W' ⟨he, bel⟩ => ?_
  subst he
  exact ⟨_, rfl, _, _, _, [], _, [], hW', trodAll_mk1 (shut_bool Tryz.underlying4 _), (trodAll_cons_mk (Below.trod laidOutAll (by kernel_rfl) (of_decide_eq_true (by kernel_rfl)) k0 bel lt0) trodAll_mk0), rfl, bel.frame _, fun h => by cases h⟩

theorem parseAround_row : Rows.ParseAroundSaid :=
  OpenClaim.holds_of_wide 6 Tryz.f6 rfl rfl rfl rfl rfl rfl rfl ⟨rfl, rfl, rfl, rfl, rfl⟩ rfl rfl rfl rfl rfl (by kernel_rfl) Tryz.func6 (by kernel_rfl)
    (of_decide_eq_true (by kernel_rfl)) (by unfold Func.isWrapper; first | (rw [if_pos (by decide +kernel)]; kernel_rfl) | (rw [if_neg (by decide +kernel)]; exact ⟨rfl, rfl⟩))
    (fun os started H enc _ => parseAround_lifted os started H enc)

theorem parseAround_card : Rows.ParseAroundCardSaid :=
  Claim7.holds_tied_plain_at .later [] [.data, .data, .data, .sentinel, .sentinel] true (true, "74ae8284a65c62c3fdb6af67613f696d9ffd0a6b2f00fea9c0aa13435902ef90") true
    parseAround_row (fun _ h => by cases h) (by kernel_rfl) (fun _ h => by cases h) parseAround_row_tie rfl ⟨rfl, rfl⟩ (by kernel_rfl) rfl
    (fun f fn hf hfn => by
      obtain rfl : f = 6 := Option.some.inj ((show Tryz.prog.funcNamed "culprit/culpritlaw06.ParseAround" = some 6 by kernel_rfl).symm.trans hf) |>.symm
      obtain rfl : fn = Tryz.f6 := (Option.some.inj (Tryz.func6.symm.trans hfn)).symm
      exact ⟨by kernel_rfl, fun j t ht => by
        rw [Tryz.params6] at ht
        have hm : t ∈ [22] := by simpa using Array.mem_of_getElem? ht
        have hall : ([22].all fun u => !Tryz.prog.wantsStandIn u) = true := by kernel_rfl
        exact (show Tryz.prog.wantsStandIn t = false by simpa using List.all_eq_true.1 hall t hm)⟩)
    (by kernel_rfl)
end Go.Proofs.YtohjfikjbeafiaaGreatDoor
