/- Plain functions on lists of bytes: what layer 2 of the document says is read. Nothing of the program is named here. Plain functions: what layer 2 of the document says Make answers. Nothing of the program is named here. Plain functions on tokens: what layer 6 of the document reads. Nothing of the program is named here. What the program's and the document's questions about one byte answer; small facts on memory. What the program's and the document's questions about one byte answer. What the program's Check, isType, endOf, Head, Static answer. Small facts on memory: blocks that grow, rows that a call owns. What the program's isType, Head, endOf, Parts answer. -/
import Derived.Test.YtohjfikjbeafiaaGreatDoorGae
import Derived.Test.YtohjfikjbeafiaaGreatDoorRows
import Derived.WalkKit
import Derived.WalkSpells
import Derived.WalkLawsBesides
import Derived.Deep.LoopGhost
import Derived.Deep.QuietTactic
import Derived.BigQuiet
namespace Go.Proofs.YtohjfikjbeafiaaGreatDoor.T2
namespace Tp

def blankB (c : Int) : Bool := c == 9 || c == 10 || c == 13 || c == 32
def letterB (c : Int) : Bool := decide (97 ≤ c) && decide (c ≤ 122) || decide (65 ≤ c) && decide (c ≤ 90)
def digB (c : Int) : Bool := decide (48 ≤ c) && decide (c ≤ 57) || c == 95
def innerB (c : Int) : Bool := letterB c || digB c
def markB (c : Int) : Bool := c == 63 || c == 40 || c == 41 || c == 44 || c == 91 || c == 93

/-- How many bytes at the beginning are such. -/
def span (p : Int → Bool) : List UInt8 → Nat
  | [] => 0
  | c :: r => if p c.toNat then span p r + 1 else 0
theorem span_le (p : Int → Bool) : ∀ l : List UInt8, span p l ≤ l.length
  | [] => Nat.le_refl _
  | c :: r => by
    unfold span
    have := span_le p r
    split <;> simp; omega
/-- How long the token is with which a list begins; 0: there is none. -/
def tokL (l : List UInt8) : Nat :=
  match l with
  | [] => 0
  | c :: r => if c == 45 then (match r with | 62 :: _ => 2 | _ => 0) else if markB c.toNat then 1 else if letterB c.toNat then span innerB r + 1 else 0
theorem tokL_le (l : List UInt8) : tokL l ≤ l.length := by
  unfold tokL
  split
  · simp
  · rename_i c r
    split
    · split <;> simp
    · split
      · simp
      · split
        · have := span_le innerB r; simp; omega
        · simp

/-- The place of the next token from a place on; the token at a place; the place of the one behind it. -/
def sk (bs : List UInt8) (k : Nat) : Nat := k + span blankB (bs.drop k)
def tl (bs : List UInt8) (p : Nat) : Nat := tokL (bs.drop p)
def tk (bs : List UInt8) (p : Nat) : List UInt8 := (bs.drop p).take (tl bs p)
def nx (bs : List UInt8) (p : Nat) : Nat := sk bs (p + tl bs p)
theorem sk_le {bs : List UInt8} {k : Nat} (h : k ≤ bs.length) : sk bs k ≤ bs.length := by
  unfold sk
  have := span_le blankB (bs.drop k)
  rw [List.length_drop] at this
  omega
theorem sk_ge (bs : List UInt8) (k : Nat) : k ≤ sk bs k := Nat.le_add_right _ _
theorem tl_le {bs : List UInt8} {p : Nat} (h : p ≤ bs.length) : p + tl bs p ≤ bs.length := by
  unfold tl
  have := tokL_le (bs.drop p)
  rw [List.length_drop] at this
  omega
theorem nx_le {bs : List UInt8} {p : Nat} (h : p ≤ bs.length) : nx bs p ≤ bs.length := sk_le (tl_le h)
theorem tk_len (bs : List UInt8) (p : Nat) : (tk bs p).length = tl bs p := by
  unfold tk
  rw [List.length_take]
  exact Nat.min_eq_left (tokL_le _)

/-- The fault of a place at which something else should stand. -/
def bad (bs : List UInt8) (p : Nat) : Nat := if tk bs p = [] ∧ p < bs.length then 11 else 15

abbrev Res := Except (Nat × Nat) (Ty × Nat)
abbrev Rds := (Nat → Res) × (Nat → Res)
def close (bs s : List UInt8) (q : Nat) (v : Ty) : Res := if tk bs q = s then .ok (v, nx bs q) else .error (bad bs q, q)
/-- Behind a ( and what stands there. -/
def pairF (bs : List UInt8) (w : Nat → Res) (a : Ty) (q : Nat) : Res :=
  if tk bs q = [44] then (match w (nx bs q) with | .error e => .error e | .ok (b, r) => close bs [41] r (.tp a b)) else close bs [41] q a
def parenF (bs : List UInt8) (w : Nat → Res) (p : Nat) : Res :=
  match w (nx bs p) with
  | .error e => .error e
  | .ok (a, q) => pairF bs w a q
def listF (bs : List UInt8) (w : Nat → Res) (p : Nat) : Res :=
  match w (nx bs p) with
  | .error e => .error e
  | .ok (a, q) => close bs [93] q (.tl a)
def boxF (bs : List UInt8) (w : Nat → Res) (p : Nat) : Res :=
  match w (nx bs p) with
  | .error e => .error e
  | .ok (a, q) => .ok (.tx a, q)
def within (W : Option Rds) (p : Nat) (f : Rds → Res) : Res :=
  match W with
  | none => .error (16, p)
  | some w => f w
def armF (bs : List UInt8) (W : Option Rds) (p : Nat) : Res :=
  if tk bs p = [105, 110, 116] then .ok (.ti, nx bs p)
  else if tk bs p = [98, 111, 111, 108] then .ok (.tb, nx bs p)
  else if tk bs p = [116, 101, 120, 116] then .ok (.tt, nx bs p)
  else if tk bs p = [63] then .ok (.tq, nx bs p)
  else if tk bs p = [40] then within W p (fun w => parenF bs w.1 p)
  else if tk bs p = [91] then within W p (fun w => listF bs w.1 p)
  else if tk bs p = [98, 111, 120] then within W p (fun w => boxF bs w.2 p)
  else .error (bad bs p, p)
def funF (bs : List UInt8) (w : Nat → Res) (a : Ty) (q : Nat) : Res :=
  match w (nx bs q) with
  | .error e => .error e
  | .ok (b, r) => .ok (.tf a b, r)
def wholeF (bs : List UInt8) (W : Option Rds) (p : Nat) : Res :=
  match armF bs W p with
  | .error e => .error e
  | .ok (a, q) => if tk bs q = [45, 62] then within W q (fun w => funF bs w.1 a q) else .ok (a, q)
/-- d more may be open. -/
def pr (bs : List UInt8) : Nat → Rds
  | 0 => (wholeF bs none, armF bs none)
  | d + 1 => (wholeF bs (some (pr bs d)), armF bs (some (pr bs d)))
def inn (bs : List UInt8) : Nat → Option Rds
  | 0 => none
  | d + 1 => some (pr bs d)
theorem pr_eq (bs : List UInt8) (d : Nat) : pr bs d = (wholeF bs (inn bs d), armF bs (inn bs d)) := by cases d <;> rfl
/-- P2.5, but for ErrLarge. -/
def readF (bs : List UInt8) : Except (Nat × Nat) Ty :=
  match (pr bs 64).1 (sk bs 0) with
  | .error e => .error e
  | .ok (a, q) => if q < bs.length then .error (bad bs q, q) else .ok a

/-- As far as it is open. -/
def ow : Ty → Nat
  | .ti | .tb | .tt | .tq => 0
  | .tl a => ow a + 1
  | .tx a => (if isF a then ow a + 1 else ow a) + 1
  | .tf a b => max (if isF a then ow a + 1 else ow a) (ow b + 1)
  | .tp a b => max (ow a) (ow b) + 1
def oa (a : Ty) : Nat := if isF a then ow a + 1 else ow a
theorem ow_x (a : Ty) : ow (.tx a) = oa a + 1 ∧ oa (.tx a) = oa a + 1 := ⟨rfl, rfl⟩
theorem ow_f (a b : Ty) : ow (.tf a b) = max (oa a) (ow b + 1) ∧ oa (.tf a b) = max (oa a) (ow b + 1) + 1 := ⟨rfl, rfl⟩
theorem enc_lens (a b : Ty) : (enc (.tl a)).length = (enc a).length + 1 ∧ (enc (.tx a)).length = (enc a).length + 1 ∧ (enc (.tf a b)).length = (enc a).length + (enc b).length + 1 ∧ (enc (.tp a b)).length = (enc a).length + (enc b).length + 1 := by simp [enc]
theorem ow_lt : ∀ t : Ty, ow t + 1 ≤ (enc t).length ∧ oa t + 1 ≤ (enc t).length
  | .ti | .tb | .tt | .tq => by decide
  | .tl a => by have := ow_lt a; have := enc_lens a a; have : ow (.tl a) = ow a + 1 ∧ oa (.tl a) = ow a + 1 := ⟨rfl, rfl⟩; omega
  | .tx a => by have h := ow_lt a; have := enc_lens a a; have := ow_x a; omega
  | .tf a b => by
    have h1 := ow_lt a; have h2 := ow_lt b; have h3 := enc_pos a; have h4 := enc_pos b
    have := enc_lens a b; have := ow_f a b; omega
  | .tp a b => by
    have h1 := ow_lt a; have h2 := ow_lt b; have h3 := enc_pos a; have h4 := enc_pos b
    have := enc_lens a b; have : ow (.tp a b) = max (ow a) (ow b) + 1 ∧ oa (.tp a b) = max (ow a) (ow b) + 1 := ⟨rfl, rfl⟩; omega

/-- No word goes on there. -/
def Stop (r : List UInt8) : Prop := ∀ c s, r = c :: s → innerB c.toNat = false
theorem span_stop {r : List UInt8} (h : Stop r) : span innerB r = 0 := by
  cases r with
  | nil => rfl
  | cons c s => simp [span, h c s rfl]
/-- What stands first is no blank. -/
def NoBlank (r : List UInt8) : Prop := ∀ c s, r = c :: s → blankB c.toNat = false
theorem sk_here {bs : List UInt8} {k : Nat} {r : List UInt8} (h : bs.drop k = r) (hr : NoBlank r) : sk bs k = k := by
  unfold sk
  rw [h]
  cases r with
  | nil => rfl
  | cons c s => simp [span, hr c s rfl]
theorem drop_add {bs a r : List UInt8} {k : Nat} (h : bs.drop k = a ++ r) : bs.drop (k + a.length) = r := by
  rw [← List.drop_drop, h, List.drop_left]
theorem wd_first (t : Ty) (r : List UInt8) : NoBlank (wd t ++ r) ∧ NoBlank (par t (wd t) ++ r) := by
  suffices h : ∀ r, NoBlank (wd t ++ r) by
    refine ⟨h r, ?_⟩
    unfold par
    split
    · intro c s e; cases e; decide
    · exact h r
  induction t with
  | ti | tb | tt | tq => intro r c s e; cases e; decide
  | tl a ih => intro r c s e; cases e; decide
  | tx a ih => intro r c s e; cases e; decide
  | tp a b iha ihb => intro r c s e; cases e; decide
  | tf a b iha ihb =>
    intro r
    rw [wd, List.append_assoc]
    unfold par
    split
    · intro c s e; cases e; decide
    · exact iha _
theorem tk_mark {bs r : List UInt8} {p : Nat} {c : UInt8} (h : bs.drop p = c :: r) (hm : markB c.toNat = true) (h45 : (c == 45) = false) : tk bs p = [c] ∧ tl bs p = 1 := by
  have : tl bs p = 1 := by unfold tl; rw [h]; simp only [tokL, h45, hm]; rfl
  exact ⟨by unfold tk; rw [this, h]; rfl, this⟩
theorem tk_arrow {bs r : List UInt8} {p : Nat} (h : bs.drop p = 45 :: 62 :: r) : tk bs p = [45, 62] ∧ tl bs p = 2 := by
  have : tl bs p = 2 := by unfold tl; rw [h]; rfl
  exact ⟨by unfold tk; rw [this, h]; rfl, this⟩
theorem span_app (p : Int → Bool) : ∀ (l r : List UInt8), (∀ c ∈ l, p c.toNat = true) → span p (l ++ r) = l.length + span p r
  | [], r, _ => by simp
  | c :: l, r, h => by
    rw [List.cons_append, span, if_pos (h c (by simp)), span_app p l r (fun d hd => h d (by simp [hd]))]
    simp; omega
theorem tk_word {bs r l : List UInt8} {p : Nat} {c : UInt8} (h : bs.drop p = (c :: l) ++ r) (h1 : letterB c.toNat = true) (h2 : ∀ d ∈ l, innerB d.toNat = true) (hs : Stop r) (h45 : (c == 45) = false) (hm : markB c.toNat = false) : tk bs p = c :: l ∧ tl bs p = (c :: l).length := by
  have : tl bs p = (c :: l).length := by
    unfold tl
    rw [h, List.cons_append]
    simp only [tokL, h45, hm, h1, span_app _ _ _ h2, span_stop hs]
    simp
  exact ⟨by unfold tk; rw [this, h, List.take_left' rfl], this⟩
theorem stop_of {c : UInt8} {s : List UInt8} (h : innerB c.toNat = false) : Stop (c :: s) := fun d t e => by cases e; exact h

theorem arm_leaf {bs r : List UInt8} {W : Option Rds} {p : Nat} {t : Ty} (hk : kids t = []) (h : bs.drop p = wd t ++ r) (hs : Stop r) : armF bs W p = .ok (t, sk bs (p + (wd t).length)) := by
  cases t <;> simp [kids] at hk
  · obtain ⟨h1, h2⟩ := tk_word (c := 105) (l := [110, 116]) h (by decide) (by decide) hs (by decide) (by decide)
    unfold armF; rw [if_pos h1, nx, h2]; rfl
  · obtain ⟨h1, h2⟩ := tk_word (c := 98) (l := [111, 111, 108]) h (by decide) (by decide) hs (by decide) (by decide)
    unfold armF; rw [h1, nx, h2]; rfl
  · obtain ⟨h1, h2⟩ := tk_word (c := 116) (l := [101, 120, 116]) h (by decide) (by decide) hs (by decide) (by decide)
    unfold armF; rw [h1, nx, h2]; rfl
  · obtain ⟨h1, h2⟩ := tk_mark (c := 63) h (by decide) (by decide)
    unfold armF; rw [h1, nx, h2]; rfl

def WholeOk (t : Ty) : Prop := ∀ (d : Nat) (bs r : List UInt8) (p : Nat), ow t ≤ d → bs.drop p = wd t ++ r → Stop r → tk bs (sk bs (p + (wd t).length)) ≠ [45, 62] → (pr bs d).1 p = .ok (t, sk bs (p + (wd t).length))
def ArmOk (t : Ty) : Prop := ∀ (d : Nat) (bs r : List UInt8) (p : Nat), oa t ≤ d → bs.drop p = par t (wd t) ++ r → Stop r → (pr bs d).2 p = .ok (t, sk bs (p + (par t (wd t)).length))

theorem whole_of_arm {t : Ty} (hf : isF t = false) (h : ArmOk t) : WholeOk t := by
  intro d bs r p hd hp hs ht
  have hpar : par t (wd t) = wd t := by simp [par, hf]
  have h1 := h d bs r p (by simpa [oa, hf] using hd) (by rw [hpar]; exact hp) hs
  rw [pr_eq] at h1 ⊢
  rw [hpar] at h1
  replace h1 : armF bs (inn bs d) p = _ := h1
  simp only [wholeF]
  rw [h1]
  simp only []
  rw [if_neg ht]
theorem arm_paren {bs r : List UInt8} {d p : Nat} (h : bs.drop p = 40 :: r) (hr : NoBlank r) : armF bs (inn bs (d + 1)) p = parenF bs (pr bs d).1 p ∧ nx bs p = p + 1 := by
  obtain ⟨h1, h2⟩ := tk_mark (c := 40) h (by decide) (by decide)
  refine ⟨by unfold armF; rw [h1]; rfl, ?_⟩
  rw [nx, h2]
  exact sk_here (drop_add (a := [40]) h) hr
theorem close_ok {bs r : List UInt8} {c : UInt8} {q : Nat} {v : Ty} (h : bs.drop q = c :: r) (hc : markB c.toNat = true) (h45 : (c == 45) = false) : close bs [c] q v = .ok (v, sk bs (q + 1)) := by
  obtain ⟨h1, h2⟩ := tk_mark h hc h45
  unfold close; rw [if_pos h1, nx, h2]
theorem arm_of_whole {t : Ty} (hf : isF t = true) (h : WholeOk t) : ArmOk t := by
  intro d bs r p hd hp hs
  have hpar : par t (wd t) = 40 :: (wd t ++ [41]) := by simp [par, hf]
  have hoa : oa t = ow t + 1 := by simp [oa, hf]
  rw [hpar] at hp ⊢
  obtain ⟨d, rfl⟩ : ∃ e, d = e + 1 := ⟨d - 1, by omega⟩
  have hp' : bs.drop p = 40 :: (wd t ++ (41 :: r)) := by simpa using hp
  obtain ⟨h1, h2⟩ := arm_paren (d := d) hp' (wd_first t _).1
  rw [pr_eq]
  show armF bs (inn bs (d + 1)) p = _
  rw [h1]
  have hd1 : bs.drop (p + 1) = wd t ++ (41 :: r) := drop_add (a := [40]) hp'
  have hd2 : bs.drop (p + 1 + (wd t).length) = 41 :: r := drop_add hd1
  have hsk : sk bs (p + 1 + (wd t).length) = p + 1 + (wd t).length := sk_here hd2 (fun c s e => by cases e; decide)
  have hm := tk_mark (c := 41) hd2 (by decide) (by decide)
  have hw := h d bs (41 :: r) (p + 1) (by omega) hd1 (stop_of (by decide)) (by rw [hsk, hm.1]; decide)
  unfold parenF
  rw [h2, hw, hsk]
  simp only [pairF]
  rw [hm.1, if_neg (by decide), close_ok hd2 (by decide) (by decide)]
  simp [Nat.add_assoc, Nat.add_comm, Nat.add_left_comm]

theorem both : ∀ t : Ty, WholeOk t ∧ ArmOk t
  | .ti => by
    have h : ArmOk .ti := fun d bs r p _ hp hs => by rw [pr_eq]; exact arm_leaf rfl hp hs
    exact ⟨whole_of_arm rfl h, h⟩
  | .tb => by
    have h : ArmOk .tb := fun d bs r p _ hp hs => by rw [pr_eq]; exact arm_leaf rfl hp hs
    exact ⟨whole_of_arm rfl h, h⟩
  | .tt => by
    have h : ArmOk .tt := fun d bs r p _ hp hs => by rw [pr_eq]; exact arm_leaf rfl hp hs
    exact ⟨whole_of_arm rfl h, h⟩
  | .tq => by
    have h : ArmOk .tq := fun d bs r p _ hp hs => by rw [pr_eq]; exact arm_leaf rfl hp hs
    exact ⟨whole_of_arm rfl h, h⟩
  | .tl a => by
    have h : ArmOk (.tl a) := fun d bs r p hd hp hs => by
      have hoa : oa (.tl a) = ow a + 1 := rfl
      obtain ⟨d, rfl⟩ : ∃ e, d = e + 1 := ⟨d - 1, by omega⟩
      have hp' : bs.drop p = 91 :: (wd a ++ (93 :: r)) := by simpa [par, isF, wd] using hp
      obtain ⟨h1, h2⟩ := tk_mark (c := 91) hp' (by decide) (by decide)
      have hd1 : bs.drop (p + 1) = wd a ++ (93 :: r) := drop_add (a := [91]) hp'
      have hd2 : bs.drop (p + 1 + (wd a).length) = 93 :: r := drop_add hd1
      have hsk : sk bs (p + 1 + (wd a).length) = p + 1 + (wd a).length := sk_here hd2 (fun c s e => by cases e; decide)
      have hm := tk_mark (c := 93) hd2 (by decide) (by decide)
      have hw := (both a).1 d bs (93 :: r) (p + 1) (by omega) hd1 (stop_of (by decide)) (by rw [hsk, hm.1]; decide)
      have hn : nx bs p = p + 1 := by rw [nx, h2]; exact sk_here hd1 (wd_first a _).1
      rw [pr_eq]
      show armF bs (inn bs (d + 1)) p = _
      unfold armF
      rw [h1]
      show listF bs (pr bs d).1 p = _
      unfold listF
      rw [hn, hw, hsk]
      simp only []
      rw [close_ok hd2 (by decide) (by decide)]
      simp [par, isF, wd, Nat.add_assoc, Nat.add_comm, Nat.add_left_comm]
    exact ⟨whole_of_arm rfl h, h⟩
  | .tx a => by
    have h : ArmOk (.tx a) := fun d bs r p hd hp hs => by
      have hoa : oa (.tx a) = oa a + 1 := rfl
      obtain ⟨d, rfl⟩ : ∃ e, d = e + 1 := ⟨d - 1, by omega⟩
      have hp' : bs.drop p = [98, 111, 120] ++ (32 :: (par a (wd a) ++ r)) := by simpa [par, isF, wd] using hp
      obtain ⟨h1, h2⟩ := tk_word (c := 98) (l := [111, 120]) hp' (by decide) (by decide) (stop_of (by decide)) (by decide) (by decide)
      have hd1 : bs.drop (p + 3) = 32 :: (par a (wd a) ++ r) := drop_add (a := [98, 111, 120]) hp'
      have hd2 : bs.drop (p + 4) = par a (wd a) ++ r := drop_add (a := [32]) hd1
      have hn : nx bs p = p + 4 := by
        rw [nx, h2]
        show sk bs (p + 3) = _
        have := sk_here hd2 (wd_first a r).2
        unfold sk at this ⊢
        rw [hd2] at this
        rw [hd1]
        simp only [span]
        rw [if_pos (by decide)]
        omega
      have hw := (both a).2 d bs r (p + 4) (by omega) hd2 hs
      rw [pr_eq]
      show armF bs (inn bs (d + 1)) p = _
      unfold armF
      rw [h1]
      show boxF bs (pr bs d).2 p = _
      unfold boxF
      rw [hn, hw]
      have e : p + 4 + (par a (wd a)).length = p + (par (.tx a) (wd (.tx a))).length := by rw [show par (.tx a) (wd (.tx a)) = [98, 111, 120, 32] ++ par a (wd a) from rfl]; simp; omega
      rw [← e]
    exact ⟨whole_of_arm rfl h, h⟩
  | .tp a b => by
    have h : ArmOk (.tp a b) := fun d bs r p hd hp hs => by
      have hoa : oa (.tp a b) = max (ow a) (ow b) + 1 := rfl
      obtain ⟨d, rfl⟩ : ∃ e, d = e + 1 := ⟨d - 1, by omega⟩
      have hp' : bs.drop p = 40 :: (wd a ++ (44 :: (32 :: (wd b ++ (41 :: r))))) := by simpa [par, isF, wd] using hp
      obtain ⟨h1, h2⟩ := arm_paren (d := d) hp' (wd_first a _).1
      have hd1 : bs.drop (p + 1) = wd a ++ (44 :: (32 :: (wd b ++ (41 :: r)))) := drop_add (a := [40]) hp'
      have hd2 : bs.drop (p + 1 + (wd a).length) = 44 :: (32 :: (wd b ++ (41 :: r))) := drop_add hd1
      have hd3 : bs.drop (p + 1 + (wd a).length + 1) = 32 :: (wd b ++ (41 :: r)) := drop_add (a := [44]) hd2
      have hd4 : bs.drop (p + 1 + (wd a).length + 2) = wd b ++ (41 :: r) := drop_add (a := [32]) hd3
      have hd5 : bs.drop (p + 1 + (wd a).length + 2 + (wd b).length) = 41 :: r := drop_add hd4
      have hsk : sk bs (p + 1 + (wd a).length) = p + 1 + (wd a).length := sk_here hd2 (fun c s e => by cases e; decide)
      have hsk5 : sk bs (p + 1 + (wd a).length + 2 + (wd b).length) = p + 1 + (wd a).length + 2 + (wd b).length := sk_here hd5 (fun c s e => by cases e; decide)
      have hm := tk_mark (c := 44) hd2 (by decide) (by decide)
      have hm5 := tk_mark (c := 41) hd5 (by decide) (by decide)
      have hw := (both a).1 d bs _ (p + 1) (by omega) hd1 (stop_of (by decide)) (by rw [hsk, hm.1]; decide)
      have hw2 := (both b).1 d bs _ _ (by omega) hd4 (stop_of (by decide)) (by rw [hsk5, hm5.1]; decide)
      have hn : nx bs (p + 1 + (wd a).length) = p + 1 + (wd a).length + 2 := by
        rw [nx, hm.2]
        have := sk_here hd4 (wd_first b _).1
        unfold sk at this ⊢
        rw [hd4] at this
        rw [hd3]
        simp only [span]
        rw [if_pos (by decide)]
        omega
      rw [pr_eq]
      show armF bs (inn bs (d + 1)) p = _
      rw [h1]
      unfold parenF
      rw [h2, hw, hsk]
      simp only [pairF]
      rw [hm.1, if_pos rfl, hn, hw2, hsk5]
      simp only []
      rw [close_ok hd5 (by decide) (by decide)]
      have e : p + 1 + (wd a).length + 2 + (wd b).length + 1 = p + (par (.tp a b) (wd (.tp a b))).length := by simp [par, isF, wd]; omega
      rw [← e]
    exact ⟨whole_of_arm rfl h, h⟩
  | .tf a b => by
    have h : WholeOk (.tf a b) := fun d bs r p hd hp hs ht => by
      have how : ow (.tf a b) = max (oa a) (ow b + 1) := rfl
      obtain ⟨d, rfl⟩ : ∃ e, d = e + 1 := ⟨d - 1, by omega⟩
      have hp' : bs.drop p = par a (wd a) ++ (32 :: (45 :: 62 :: (32 :: (wd b ++ r)))) := by simpa [wd] using hp
      have hd1 : bs.drop (p + (par a (wd a)).length) = 32 :: (45 :: 62 :: (32 :: (wd b ++ r))) := drop_add hp'
      have hd2 : bs.drop (p + (par a (wd a)).length + 1) = 45 :: 62 :: (32 :: (wd b ++ r)) := drop_add (a := [32]) hd1
      have hd3 : bs.drop (p + (par a (wd a)).length + 3) = 32 :: (wd b ++ r) := drop_add (a := [45, 62]) hd2
      have hd4 : bs.drop (p + (par a (wd a)).length + 4) = wd b ++ r := drop_add (a := [32]) hd3
      have hsk : sk bs (p + (par a (wd a)).length) = p + (par a (wd a)).length + 1 := by
        unfold sk
        rw [hd1]
        simp only [span]
        rw [if_pos (by decide), if_neg (by decide)]
      have hw := (both a).2 (d + 1) bs _ p (by omega) hp' (stop_of (by decide))
      have hm := tk_arrow hd2
      have hn : nx bs (p + (par a (wd a)).length + 1) = p + (par a (wd a)).length + 4 := by
        rw [nx, hm.2]
        have := sk_here hd4 (wd_first b _).1
        unfold sk at this ⊢
        rw [hd4] at this
        rw [show p + (par a (wd a)).length + 1 + 2 = p + (par a (wd a)).length + 3 by omega, hd3]
        simp only [span]
        rw [if_pos (by decide)]
        omega
      have hlen : p + (wd (.tf a b)).length = p + (par a (wd a)).length + 4 + (wd b).length := by simp [wd]; omega
      rw [hlen] at ht ⊢
      have hw2 := (both b).1 d bs r _ (by omega) hd4 hs ht
      rw [pr_eq] at hw ⊢
      replace hw : armF bs (inn bs (d + 1)) p = _ := hw
      show wholeF bs (inn bs (d + 1)) p = _
      unfold wholeF
      rw [hw, hsk]
      simp only []
      rw [if_pos hm.1]
      show funF bs (pr bs d).1 a _ = _
      unfold funF
      rw [hn, hw2]
    exact ⟨h, arm_of_whole rfl h⟩

/-- The words of a type are read as it. -/
theorem read_wd (t : Ty) (h : (enc t).length ≤ 64) : readF (wd t) = .ok t := by
  have hd : (wd t).drop 0 = wd t ++ [] := by simp
  have h0 : sk (wd t) 0 = 0 := sk_here hd (wd_first t _).1
  have hend : (wd t).drop (0 + (wd t).length) = [] := by simp
  have hs : sk (wd t) (0 + (wd t).length) = (wd t).length := by rw [sk_here hend (fun c s e => by cases e)]; omega
  have := (both t).1 64 (wd t) [] 0 (by have := (ow_lt t).1; omega) hd (fun c s e => by cases e) (by rw [hs]; unfold tk; simp)
  unfold readF
  rw [h0, this, hs]
  simp
end Tp
end Go.Proofs.YtohjfikjbeafiaaGreatDoor.T2
namespace Go.Proofs.YtohjfikjbeafiaaGreatDoor.T2
namespace Tp

/-- The error of the first part that is no type; 0: all are. -/
def firstBad : List (List UInt8) → Nat
  | [] => 0
  | p :: r => if (chk p).1 = 0 then firstBad r else (chk p).1
theorem firstBad_app : ∀ (a b : List (List UInt8)), firstBad a = 0 → firstBad (a ++ b) = firstBad b
  | [], _, _ => rfl
  | p :: r, b, h => by
    unfold firstBad at h
    by_cases hp : (chk p).1 = 0
    · rw [if_pos hp] at h
      rw [List.cons_append, firstBad, if_pos hp, firstBad_app r b h]
    · rw [if_neg hp] at h
      exact absurd h hp
/-- P2.3: the error, and the type. -/
def mkF (h : UInt8) (ps : List (List UInt8)) : Nat × List UInt8 :=
  if ar h.toNat ≠ ps.length then (1, [])
  else if firstBad ps ≠ 0 then (firstBad ps, [])
  else if 64 < 1 + ps.flatten.length then (21, [])
  else (0, h :: ps.flatten)
theorem mk_arg {h : UInt8} {ps : List (List UInt8)} (e : ar h.toNat ≠ ps.length) : mkF h ps = (1, []) := by unfold mkF; rw [if_pos e]
theorem mk_bad {h : UInt8} {ps : List (List UInt8)} (e : ar h.toNat = ps.length) (e2 : firstBad ps ≠ 0) : mkF h ps = (firstBad ps, []) := by unfold mkF; rw [if_neg (by simpa using e), if_pos e2]
theorem mk_large {h : UInt8} {ps : List (List UInt8)} (e : ar h.toNat = ps.length) (e2 : firstBad ps = 0) (e3 : 64 < 1 + ps.flatten.length) : mkF h ps = (21, []) := by unfold mkF; rw [if_neg (by simpa using e), if_neg (by simpa using e2), if_pos e3]
theorem mk_ok {h : UInt8} {ps : List (List UInt8)} (e : ar h.toNat = ps.length) (e2 : firstBad ps = 0) (e3 : ¬ 64 < 1 + ps.flatten.length) : mkF h ps = (0, h :: ps.flatten) := by unfold mkF; rw [if_neg (by simpa using e), if_neg (by simpa using e2), if_neg e3]
theorem firstBad_encs : ∀ (ts : List Ty), (∀ t ∈ ts, (enc t).length ≤ 64) → firstBad (ts.map enc) = 0
  | [], _ => rfl
  | t :: ts, h => by
    rw [List.map_cons, firstBad, chk_enc t (h t (by simp)), if_pos rfl]
    exact firstBad_encs ts (fun u hu => h u (by simp [hu]))
theorem kid_len (t : Ty) : ∀ u ∈ kids t, (enc u).length < (enc t).length := by
  cases t <;> simp [kids, enc] <;> omega
theorem kid_high (t : Ty) : ∀ u ∈ kids t, high u < high t := by
  cases t <;> simp [kids, high] <;> omega
/-- Make of a type's head and parts is it. -/
theorem mk_parts (t : Ty) (h : (enc t).length ≤ 64) : mkF (hd t) ((kids t).map enc) = (0, enc t) := by
  have e : enc t = hd t :: ((kids t).map enc).flatten := enc_eq t
  rw [mk_ok (by rw [List.length_map]; exact ar_hd t) (firstBad_encs _ (fun u hu => by have := kid_len t u hu; omega)), ← e]
  rw [e] at h
  simpa [Nat.add_comm] using h
/-- What the program holds of a type that was read: nothing, if it is too large. -/
def val (t : Ty) : List UInt8 := if (enc t).length ≤ 64 then enc t else []
theorem val_len (t : Ty) : (val t).length ≤ 64 := by unfold val; split <;> simp_all
theorem chk_val (t : Ty) : ((chk (val t)).1 = 0) ↔ (enc t).length ≤ 64 := by
  unfold val
  split
  · rename_i h; simp [chk_enc t h, h]
  · rename_i h; simp [h, chk, beh]
theorem mk_len (h : UInt8) (ps : List (List UInt8)) : (mkF h ps).2.length ≤ 64 := by
  unfold mkF
  repeat' split
  all_goals simp at *
  omega
theorem made_val (t : Ty) : (mkF (hd t) ((kids t).map val)).2 = val t := by
  by_cases h : ∀ u ∈ kids t, (enc u).length ≤ 64
  · have hm : (kids t).map val = (kids t).map enc := List.map_congr_left (fun u hu => by simp [val, h u hu])
    rw [hm]
    have e : enc t = hd t :: ((kids t).map enc).flatten := enc_eq t
    by_cases h64 : (enc t).length ≤ 64
    · rw [mk_parts t h64]; simp [val, h64]
    · rw [mk_large (by rw [List.length_map]; exact ar_hd t) (firstBad_encs _ h)]
      · simp [val, h64]
      · rw [e] at h64; simp at h64 ⊢; omega
  · have h1 : ¬ (enc t).length ≤ 64 := fun h64 => h (fun u hu => by have := kid_len t u hu; omega)
    have hb : firstBad ((kids t).map val) ≠ 0 := by
      intro hb
      apply h
      clear h h1
      revert hb
      generalize kids t = ks
      induction ks with
      | nil => simp
      | cons a r ih =>
        intro hb u hu
        rw [List.map_cons, firstBad] at hb
        by_cases ha : (chk (val a)).1 = 0
        · rw [if_pos ha] at hb
          rcases List.mem_cons.1 hu with rfl | hu
          · exact (chk_val _).1 ha
          · exact ih hb u hu
        · rw [if_neg ha] at hb
          exact absurd hb ha
    rw [mk_bad (by rw [List.length_map]; exact ar_hd t) hb]
    simp [val, h1]
end Tp
end Go.Proofs.YtohjfikjbeafiaaGreatDoor.T2
namespace Go.Proofs.YtohjfikjbeafiaaGreatDoor
namespace Ps

/-- A token, with its place. -/
structure PT where
  kind : Int
  n : Int
  s : List UInt8
  ln : Int
  co : Int
/-- The token at a place; behind the last one stands one of no kind. -/
def tok (L : List PT) (e : PT) (k : Nat) : PT := (L[k]?).getD e
/-- The word or the mark that stands next, nothing where something else does. -/
def sg (L : List PT) (k : Nat) : List UInt8 := match L[k]? with
  | some t => if t.kind = 1 ∨ t.kind = 5 then t.s else []
  | none => []
/-- Of which kind is the next token? 0: there is none. -/
def kd (L : List PT) (k : Nat) : Int := match L[k]? with
  | some t => t.kind
  | none => 0
theorem sg_lt {L : List PT} {k : Nat} {c : UInt8} {r : List UInt8} (h : sg L k = c :: r) : k < L.length := by
  unfold sg at h
  split at h
  · rename_i t ht; exact (List.getElem?_eq_some_iff.1 ht).1
  · cases h
theorem kd_lt {L : List PT} {k : Nat} (h : kd L k ≠ 0) : k < L.length := by
  unfold kd at h
  split at h
  · rename_i t ht; exact (List.getElem?_eq_some_iff.1 ht).1
  · exact absurd rfl h

abbrev wInt : List UInt8 := [105, 110, 116]
abbrev wBool : List UInt8 := [98, 111, 111, 108]
abbrev wText : List UInt8 := [116, 101, 120, 116]
abbrev wBox : List UInt8 := [98, 111, 120]

/-- What is read, and the place behind it; or the place of the token that can't stand there. -/
abbrev Rd (α : Type) := Except Nat (α × Nat)
/-- A type (true), or an arm of one (false), where so many more may be open. -/
def ty (L : List PT) : Nat → Bool → Nat → Rd T2.Tp.Ty
  | 0, _, k => .error k
  | d + 1, true, k => match ty L d false k with
    | .error j => .error j
    | .ok (a, j) => if sg L j = [45, 62] then (match ty L d true (j + 1) with
        | .error i => .error i
        | .ok (b, i) => .ok (.tf a b, i)) else .ok (a, j)
  | d + 1, false, k =>
    if sg L k = wInt then .ok (.ti, k + 1) else if sg L k = wBool then .ok (.tb, k + 1) else if sg L k = wText then .ok (.tt, k + 1) else if sg L k = [63] then .ok (.tq, k + 1)
    else if sg L k = [40] then (match ty L d true (k + 1) with
      | .error j => .error j
      | .ok (a, j) => if sg L j = [44] then (match ty L d true (j + 1) with
          | .error i => .error i
          | .ok (b, i) => if sg L i = [41] then .ok (.tp a b, i + 1) else .error i)
        else if sg L j = [41] then .ok (a, j + 1) else .error j)
    else if sg L k = [91] then (match ty L d true (k + 1) with
      | .error j => .error j
      | .ok (a, j) => if sg L j = [93] then .ok (.tl a, j + 1) else .error j)
    else if sg L k = wBox then (match ty L d false (k + 1) with
      | .error j => .error j
      | .ok (a, j) => .ok (.tx a, j))
    else .error k
/-- Where a reading ends. -/
def Within (L : List PT) (k : Nat) {α : Type} : Rd α → Prop
  | .error j => k ≤ j ∧ j ≤ L.length
  | .ok (_, j) => k < j ∧ j ≤ L.length
theorem ty_within (L : List PT) : ∀ (d : Nat) (f : Bool) (k : Nat), k ≤ L.length → Within L k (ty L d f k) := by
  intro d
  induction d with
  | zero => intro f k hk; exact ⟨Nat.le_refl _, hk⟩
  | succ d ih =>
    have one : ∀ {k : Nat} {c : UInt8} {r : List UInt8}, sg L k = c :: r → k + 1 ≤ L.length := fun h => sg_lt h
    intro f k hk
    cases f with
    | true =>
      rw [ty]
      have h1 := ih false k hk
      cases e1 : ty L d false k with
      | error j => rw [e1] at h1; exact h1
      | ok p =>
        obtain ⟨a, j⟩ := p
        rw [e1] at h1
        obtain ⟨h1, h2⟩ := h1
        simp only
        split
        · rename_i hs
          have h3 := ih true (j + 1) (one hs)
          cases e2 : ty L d true (j + 1) with
          | error i => rw [e2] at h3; exact ⟨by have := h3.1; omega, h3.2⟩
          | ok q => obtain ⟨b, i⟩ := q; rw [e2] at h3; exact ⟨by have := h3.1; omega, h3.2⟩
        · exact ⟨h1, h2⟩
    | false =>
      rw [ty]
      split
      · rename_i hs; exact ⟨by omega, one hs⟩
      split
      · rename_i hs; exact ⟨by omega, one hs⟩
      split
      · rename_i hs; exact ⟨by omega, one hs⟩
      split
      · rename_i hs; exact ⟨by omega, one hs⟩
      split
      · rename_i hs
        have h1 := ih true (k + 1) (one hs)
        cases e1 : ty L d true (k + 1) with
        | error j => rw [e1] at h1; exact ⟨by have := h1.1; omega, h1.2⟩
        | ok p =>
          obtain ⟨a, j⟩ := p
          rw [e1] at h1
          obtain ⟨h1, h2⟩ := h1
          simp only
          split
          · rename_i hs2
            have h3 := ih true (j + 1) (one hs2)
            cases e2 : ty L d true (j + 1) with
            | error i => rw [e2] at h3; exact ⟨by have := h3.1; omega, h3.2⟩
            | ok q =>
              obtain ⟨b, i⟩ := q
              rw [e2] at h3
              obtain ⟨h3, h4⟩ := h3
              simp only
              split
              · rename_i hs3; exact ⟨by omega, one hs3⟩
              · exact ⟨by omega, h4⟩
          · split
            · rename_i hs3; exact ⟨by omega, one hs3⟩
            · exact ⟨by omega, h2⟩
      split
      · rename_i hs
        have h1 := ih true (k + 1) (one hs)
        cases e1 : ty L d true (k + 1) with
        | error j => rw [e1] at h1; exact ⟨by have := h1.1; omega, h1.2⟩
        | ok p =>
          obtain ⟨a, j⟩ := p
          rw [e1] at h1
          obtain ⟨h1, h2⟩ := h1
          simp only
          split
          · rename_i hs3; exact ⟨by omega, one hs3⟩
          · exact ⟨by omega, h2⟩
      split
      · rename_i hs
        have h1 := ih false (k + 1) (one hs)
        cases e1 : ty L d false (k + 1) with
        | error j => rw [e1] at h1; exact ⟨by have := h1.1; omega, h1.2⟩
        | ok p =>
          obtain ⟨a, j⟩ := p
          rw [e1] at h1
          exact ⟨by have := h1.1; omega, h1.2⟩
      · exact ⟨Nat.le_refl _, hk⟩
end Ps
end Go.Proofs.YtohjfikjbeafiaaGreatDoor
namespace Go.Proofs.YtohjfikjbeafiaaGreatDoor
open Go.RowKit
set_option maxRecDepth 100000

theorem ret_bool {a b : Bool} (h : a = b) : Ending.returned (.bool a) = .returned (.bool b) := by rw [h]

set_option maxHeartbeats 400000 in
theorem isLetter_any (c : Int) (w : World) :
    Calls Tryz.prog 162 #[.int .u8 c] w fun e w' => e = .returned (.bool (Tx.letterB c)) ∧ w' = w := by
  go_enter Tryz.func162, Tryz.ntmps162
  go_wp2
  all_goals
    go_ret
    refine ⟨ret_bool ?_, rfl⟩
    unfold Tx.letterB
    rw [Bool.eq_iff_iff]; simp; omega

set_option maxHeartbeats 400000 in
theorem isDigit_any (c : Int) (w : World) :
    Calls Tryz.prog 166 #[.int .u8 c] w fun e w' => e = .returned (.bool (Tx.digitB c)) ∧ w' = w := by
  go_enter Tryz.func166, Tryz.ntmps166
  go_wp2
  all_goals
    go_ret
    refine ⟨ret_bool ?_, rfl⟩
    unfold Tx.digitB
    rw [Bool.eq_iff_iff]; simp; omega

set_option maxHeartbeats 400000 in
theorem isSeen_any (c : Int) (w : World) :
    Calls Tryz.prog 160 #[.int .u8 c] w fun e w' => e = .returned (.bool (Tx.seenB c)) ∧ w' = w := by
  go_enter Tryz.func160, Tryz.ntmps160
  go_wp2
  all_goals
    go_ret
    refine ⟨ret_bool ?_, rfl⟩
    unfold Tx.seenB
    rw [Bool.eq_iff_iff]; simp; omega

set_option maxHeartbeats 400000 in
theorem isInner_any (c : Int) (w : World) :
    Calls Tryz.prog 163 #[.int .u8 c] w fun e w' => e = .returned (.bool (Tx.innerB c)) ∧ w' = w := by
  go_enter Tryz.func163, Tryz.ntmps163
  go_wp2_with (first | (go_at_call 162; refine (isLetter_any _ _).mono ?_; rintro e w' ⟨rfl, rfl⟩) | (go_at_call 166; refine (isDigit_any _ _).mono ?_; rintro e w' ⟨rfl, rfl⟩))
  all_goals
    go_ret
    refine ⟨ret_bool ?_, rfl⟩
    unfold Tx.innerB
    simp_all

set_option maxHeartbeats 400000 in
theorem letter_any (c : Int) (w : World) :
    Calls Tryz.prog 107 #[.int .u8 c] w fun e w' => e = .returned (.bool (Tx.letterB c)) ∧ w' = w := by
  go_enter Tryz.func107, Tryz.ntmps107
  go_wp2
  all_goals
    go_ret
    refine ⟨ret_bool ?_, rfl⟩
    unfold Tx.letterB
    rw [Bool.eq_iff_iff]; simp; omega

set_option maxHeartbeats 400000 in
theorem digit_any (c : Int) (w : World) :
    Calls Tryz.prog 110 #[.int .u8 c] w fun e w' => e = .returned (.bool (Tx.digitB c)) ∧ w' = w := by
  go_enter Tryz.func110, Tryz.ntmps110
  go_wp2
  all_goals
    go_ret
    refine ⟨ret_bool ?_, rfl⟩
    unfold Tx.digitB
    rw [Bool.eq_iff_iff]; simp; omega
theorem ret_int {a b : Int} (h : a = b) : Ending.returned (.int .i64 a) = .returned (.int .i64 b) := by rw [h]

set_option maxHeartbeats 400000 in
theorem partsOf_any (c : Int) (w : World) :
    Calls Tryz.prog 72 #[.int .u8 c] w fun e w' => e = .returned (.int .i64 (Tp.ar c)) ∧ w' = w := by
  go_enter Tryz.func72, Tryz.ntmps72
  go_wp2
  all_goals
    go_ret
    refine ⟨ret_int ?_, rfl⟩
    unfold Tp.ar
    simp_all
theorem grownBy_refl (w : World) (r : Option Nat) : w.grownBy w r := ⟨rfl, rfl, rfl, Nat.le_refl _, fun _ _ _ => rfl⟩
theorem grownBy_drewN {w w' : World} {r : Option Nat} (h : w.grownBy w' r) (n : Nat) : w.grownBy (w'.drewN n) r := ⟨h.os, h.tape, h.output, h.size, h.block⟩
theorem grownBy_drew {w w' : World} {r : Option Nat} (h : w.grownBy w' r) : w.grownBy w'.drew r := ⟨h.os, h.tape, h.output, h.size, h.block⟩
theorem grownBy_trans {a b c : World} {r : Option Nat} (h : a.grownBy b r) (k : b.grownBy c r) : a.grownBy c r :=
  ⟨k.os.trans h.os, k.tape.trans h.tape, k.output.trans h.output, Nat.le_trans h.size k.size, fun i hi hne => (k.block i (Nat.lt_of_lt_of_le hi h.size) hne).trans (h.block i hi hne)⟩
theorem grownBy_set {a b : World} {rb o : Nat} (h : a.grownBy b (some rb)) (u : Value) : a.grownBy (b.setCell ⟨rb, o, none⟩ u) (some rb) :=
  grownBy_trans h ⟨rfl, rfl, rfl, by simp [World.setCell], fun k hk hne => Below.heap_setCell _ _ _ _ (by intro e; exact hne (by rw [e]))⟩
theorem grownBy_cell {a b : World} {rb : Nat} (h : a.grownBy b (some rb)) {p : Nat} {o : Nat} {v : Value} (hne : p ≠ rb) (hc : a.cell? ⟨p, o, none⟩ = some v) : b.cell? ⟨p, o, none⟩ = some v :=
  h.cell hc (by simpa using hne)
theorem grownBy_alloc_pre {w w' : World} {o : Obj} {r : Option Nat} (h : (w.alloc o).grownBy w' r) : w.grownBy w' r :=
  ⟨h.os, h.tape, h.output, by have := h.size; simp at this; omega, fun k hk hne => (h.block k (by simp; omega) hne).trans (Below.heap_alloc _ _ _ hk)⟩
theorem grownBy_alloc {w w' : World} {r : Option Nat} (h : w.grownBy w' r) (o : Obj) : w.grownBy (w'.alloc o) r :=
  ⟨h.os, h.tape, h.output, by have := h.size; simp; omega, fun k hk hne => (Below.heap_alloc _ _ _ (by have := h.size; omega)).trans (h.block k hk hne)⟩
theorem grownBy_high {w w1 W : World} {rb : Nat} {row : Option Nat} (h1 : w.grownBy w1 (some rb)) (hg : w1.grownBy W row) (hr : ∀ x, row = some x → w.heap.size ≤ x) : w.grownBy W (some rb) :=
  ⟨hg.os.trans h1.os, hg.tape.trans h1.tape, hg.output.trans h1.output, Nat.le_trans h1.size hg.size, fun k hk hne =>
    (hg.block k (Nat.lt_of_lt_of_le hk h1.size) (fun e => by have := hr k e.symm; omega)).trans (h1.block k hk hne)⟩
/-- What stands below stands, but for one block. -/
theorem grownBy_below {w w1 W : World} {rb : Nat} (h1 : w.grownBy w1 (some rb)) (hB : Below w1.heap.size w1 W) : w.grownBy W (some rb) := by
  refine grownBy_trans h1 ⟨hB.os, hB.tape, hB.output, hB.size, fun k hk _ => hB.block k hk⟩

theorem block_cells {w : World} {g : Nat} {C : Array Value} {t : TypeId} (h : w.heap[g]? = some (.cells C t (0, 0))) : (∀ o, w.cell? ⟨g, o, none⟩ = C[o]?) ∧ ∀ o, w.frozen? ⟨g, o, none⟩ = false := by
  refine ⟨fun o => ?_, fun o => ?_⟩
  · simp [World.cell?, h]
  · simp [World.frozen?, h]
theorem cells_list_new (w : World) (xs : List Value) (t : TypeId) : ∀ j u, xs[j]? = some u → (w.alloc (.cells xs.toArray t)).cell? ((⟨w.heap.size, 0, none⟩ : Addr).add j) = some u := by
  intro j u hj
  have hb := (block_cells (heap_alloc_new w (.cells xs.toArray t))).1 j
  rw [List.getElem?_toArray, hj] at hb
  by_cases h0 : j = 0
  · subst h0; simpa [Addr.add] using hb
  · simpa [Addr.add, h0] using hb
theorem own_lit (w : World) (xs : List Value) (e : TypeId) (hm : xs.length ≤ maxLen) : (w.alloc (.cells xs.toArray e)).ownsRow w.heap.size e 1 (.slice (some ⟨w.heap.size, 0, none⟩) xs.length xs.length) xs.length xs :=
  ⟨by simp, .inr ⟨w.heap.size, xs.length, xs.toArray, rfl, Nat.le_refl _, heap_alloc_new _ _, Nat.le_refl _, hm, by simp, by simp⟩⟩
theorem own_nil (w : World) (base : Nat) (e : TypeId) (sz : Nat) : w.ownsRow base e sz (.slice none 0 0) 0 [] := ⟨by simp, .inl ⟨rfl, rfl⟩⟩
theorem own_len {W : World} {base e size n : Nat} {v : Value} {xs : List Value} (h : W.ownsRow base e size v n xs) : ∃ a c, v = .slice a n c := by
  obtain ⟨_, ⟨rfl, rfl⟩ | ⟨g, cap, cur, rfl, _⟩⟩ := h
  · exact ⟨none, 0, rfl⟩
  · exact ⟨some ⟨g, 0, none⟩, cap, rfl⟩
/-- The cells of a row that the call owns. -/
theorem own_cells {W : World} {base e size n : Nat} {v : Value} {xs : List Value} (h : W.ownsRow base e size v n xs) (hn : 0 < n) : ∃ g cap, v = .slice (some ⟨g, 0, none⟩) n cap ∧ n ≤ cap ∧ base ≤ g ∧ ∀ j, j < n * size → W.cell? ⟨g, j, none⟩ = xs[j]? := by
  obtain ⟨h1, ⟨rfl, h0⟩ | ⟨g, cap, cur, rfl, hg, hh, hc, _, hs, ht⟩⟩ := h
  · omega
  · refine ⟨g, cap, rfl, hc, hg, fun j hj => ?_⟩
    rw [← ht, List.getElem?_take, if_pos hj, Array.getElem?_toList]
    simp [World.cell?, hh]

/-- A text of these bytes. -/
def S (l : List UInt8) : ByteArray := ⟨l.toArray⟩
theorem S_list (l : List UInt8) : (S l).data.toList = l := rfl
theorem S_size (l : List UInt8) : (S l).size = l.length := by simp [S, ByteArray.size]
theorem S_of (s : ByteArray) : s = S s.data.toList := rfl
theorem S_cut (l : List UInt8) (a b : Nat) : (S l).extract a b = S ((l.drop a).take (b - a)) := by
  apply ByteArray.ext
  simp [S, ByteArray.data_extract]
/-- A row of texts. -/
def tcells (ls : List (List UInt8)) : List Value := ls.map (fun l => .string (S l))
theorem tcells_append (a b : List (List UInt8)) : tcells (a ++ b) = tcells a ++ tcells b := by simp [tcells]
theorem tcells_one (l : List (List UInt8)) : ∀ u ∈ tcells l, u.oneCell' = true := by
  intro u hu
  unfold tcells at hu
  obtain ⟨c, _, rfl⟩ := List.mem_map.1 hu
  rfl
theorem info9 : (Tryz.prog.info? 9).map (fun i => (i.zero, i.size, i.bytes)) = some (some (.string ⟨#[]⟩), 1, 16) := by kernel_rfl
theorem tyTexts : Tryz.prog.underlying 148 = some (.slice 9) := by kernel_rfl
theorem info5 : (Tryz.prog.info? 5).map (fun i => (i.zero, i.size, i.bytes)) = some (some (.int .u8 0), 1, 1) := by kernel_rfl
theorem tyBytes : Tryz.prog.underlying 22 = some (.slice 5) := by kernel_rfl
theorem info3 : (Tryz.prog.info? 3).map (fun i => (i.zero, i.size, i.bytes)) = some (some (.int .i64 0), 1, 8) := by kernel_rfl
theorem tyInts : Tryz.prog.underlying 144 = some (.slice 3) := by kernel_rfl
theorem str_len (s : ByteArray) : s.data.toList.length = s.size := by rw [Array.length_toList]; rfl
theorem str_B (s : ByteArray) (k : Nat) (h : k < s.size) : ((s[k]'h).toNat : Int) = Tx.B s.data.toList k := by
  unfold Tx.B
  have h' : k < s.data.toList.length := by simpa using h
  rw [List.getElem?_eq_getElem h']
  rfl
end Go.Proofs.YtohjfikjbeafiaaGreatDoor
namespace Go.Proofs.YtohjfikjbeafiaaGreatDoor.T2
open Go.RowKit

theorem ret_bool {a b : Bool} (h : a = b) : Ending.returned (.bool a) = .returned (.bool b) := by rw [h]
theorem ret_int {a b : Int} (h : a = b) : Ending.returned (.int .i64 a) = .returned (.int .i64 b) := by rw [h]

set_option maxHeartbeats 400000 in
theorem partsOf_any (c : Int) (w : World) :
    Calls Tryz.prog 72 #[.int .u8 c] w fun e w' => e = .returned (.int .i64 (Tp.ar c)) ∧ w' = w := by
  go_enter Tryz.func72, Tryz.ntmps72
  go_wp2
  all_goals
    go_ret
    refine ⟨ret_int ?_, rfl⟩
    unfold Tp.ar
    simp_all

end Go.Proofs.YtohjfikjbeafiaaGreatDoor.T2
namespace Go.Proofs.YtohjfikjbeafiaaGreatDoor.T2
open Go.RowKit

theorem str_len (s : ByteArray) : s.data.toList.length = s.size := by rw [Array.length_toList]; rfl
theorem str_B (s : ByteArray) (k : Nat) (h : k < s.size) : ((s[k]'h).toNat : Int) = Tp.B s.data.toList k := by
  unfold Tp.B
  have h' : k < s.data.toList.length := by simpa using h
  rw [List.getElem?_eq_getElem h']
  rfl

namespace Tp
theorem drop_B {l : List UInt8} {k : Nat} (h : k < l.length) : ∃ c : UInt8, l.drop k = c :: l.drop (k + 1) ∧ (c.toNat : Int) = B l k := by
  refine ⟨l[k], List.drop_eq_getElem_cons h, ?_⟩
  unfold B
  rw [List.getElem?_eq_getElem h]
  rfl
/-- So far m types are still to come. -/
def Sofar (l : List UInt8) (k m : Nat) : Prop := beh l 1 = (k + (beh (l.drop k) m).1, (beh (l.drop k) m).2)
theorem Sofar.start (l : List UInt8) : Sofar l 0 1 := by unfold Sofar; simp
theorem Sofar.step {l : List UInt8} {k m : Nat} (h : Sofar l k (m + 1)) (hk : k < l.length) (ha : 0 ≤ ar (B l k)) : Sofar l (k + 1) (m + (ar (B l k)).toNat) := by
  unfold Sofar at *
  obtain ⟨c, hd, hc⟩ := drop_B hk
  rw [h, hd, beh_cons _ _ _ (by rw [hc]; exact ha), hc]
  simp; omega
theorem Sofar.zero {l : List UInt8} {k : Nat} (h : Sofar l k 0) : beh l 1 = (k, true) := by unfold Sofar at h; rw [h, beh_zero]; rfl
theorem Sofar.bad {l : List UInt8} {k m : Nat} (h : Sofar l k (m + 1)) (hk : k < l.length) (ha : ar (B l k) < 0) : beh l 1 = (k, false) := by
  unfold Sofar at h
  obtain ⟨c, hd, hc⟩ := drop_B hk
  rw [h, hd, beh, if_pos (by rw [hc]; exact ha)]
  rfl
theorem Sofar.early {l : List UInt8} {m : Nat} (h : Sofar l l.length (m + 1)) : beh l 1 = (l.length, false) := by
  unfold Sofar at h
  rw [h, List.drop_length]
  rfl
end Tp

theorem chk_ret {l : List UInt8} {a b : Nat} (h : Tp.chk l = (a, b)) {w w' : World} (hw : w' = w) {e : Ending} (he : e = .returned (.tuple #[.int .i64 (a : Int), .int .i64 (b : Int)])) : e = .returned (.tuple #[.int .i64 (Tp.chk l).1, .int .i64 (Tp.chk l).2]) ∧ w' = w := by
  rw [h]; exact ⟨he, hw⟩

set_option maxHeartbeats 1000000 in
theorem check_any (s : ByteArray) (w : World) :
    Calls Tryz.prog 29 #[.string s] w fun e w' => e = .returned (.tuple #[.int .i64 (Tp.chk s.data.toList).1, .int .i64 (Tp.chk s.data.toList).2]) ∧ w' = w := by
  have hsl := str_len s
  by_cases h64 : 64 < s.size
  · have HN : Aside (Tp.chk s.data.toList = (21, 64)) := Tp.chk_long (by omega)
    have h64' : (64 : Int) < (s.size : Int) := by omega
    clear hsl
    go_enter Tryz.func29, Tryz.ntmps29
    go_wp2_with fail
    go_ret2
    exact chk_ret HN.out rfl rfl
  · have h64' : decide ((64 : Int) < (s.size : Int)) = false := by simp; omega
    have hsz : s.size ≤ 64 := by omega
    have HL : Aside (s.data.toList.length = s.size) := hsl
    clear hsl h64
    go_enter Tryz.func29, Tryz.ntmps29
    go_wp2_with fail
    go_loopg [4, 12] s.size (fun g mv t wr => wr = w ∧ ∃ k m : Nat, k + g = s.size ∧ t = .int .i64 k ∧ mv = .int .i64 m ∧ m ≤ k + 1 ∧ Aside (Tp.Sofar s.data.toList k m))
    case atStart => exact ⟨rfl, 0, 1, by omega, rfl, rfl, by omega, Tp.Sofar.start _⟩
    case round =>
      obtain ⟨rfl, k, m, hkg, rfl, rfl, hmk, HS⟩ := hrel
      by_cases hk : k < s.size
      · have hk' : (k : Int) < (s.size : Int) := by omega
        have hBk := str_B s k hk
        have hk0 : (0 : Int) ≤ (k : Int) := by omega
        have had := Tp.ar_bd (Tp.B s.data.toList k)
        have hkl : k < s.data.toList.length := by rw [HL.out]; exact hk
        cases m with
        | zero =>
          have HN : Aside (Tp.chk s.data.toList = (20, k)) := by
            have h0 := HS.out.zero
            show _ = _
            rw [Tp.chk_bad (by rw [HL.out]; omega) (.inr (by rw [h0, HL.out]; show k ≠ _; omega)), h0]
          go_wp2_with (go_at_call 72; refine (partsOf_any _ _).mono ?_; rintro e w' ⟨rfl, rfl⟩)
          go_ret2
          exact chk_ret HN.out rfl rfl
        | succ m =>
          have hm0 : ((((m + 1 : Nat) : Int)) == 0) = false := by simp; omega
          by_cases ha : Tp.ar (Tp.B s.data.toList k) < 0
          · have HN : Aside (Tp.chk s.data.toList = (20, k)) := by
              have h0 := HS.out.bad hkl ha
              show _ = _
              rw [Tp.chk_bad (by rw [HL.out]; omega) (.inl (by rw [h0])), h0]
            go_wp2_with (go_at_call 72; refine (partsOf_any _ _).mono ?_; rintro e w' ⟨rfl, rfl⟩)
            go_ret2
            exact chk_ret HN.out rfl rfl
          · have ha' : 0 ≤ Tp.ar (Tp.B s.data.toList k) := by omega
            have HT : Aside (Tp.Sofar s.data.toList (k + 1) (m + (Tp.ar (Tp.B s.data.toList k)).toNat)) := HS.out.step hkl ha'
            have had' : decide (Tp.ar (Tp.B s.data.toList k) < 0) = false := by simpa using ha'
            go_wp2_with (go_at_call 72; refine (partsOf_any _ _).mono ?_; rintro e w' ⟨rfl, rfl⟩)
            go_roundg (gk - 1)
            case measure => omega
            case rel => exact ⟨rfl, k + 1, m + (Tp.ar (Tp.B s.data.toList k)).toNat, by omega, by go_num, by go_num, by omega, HT⟩
      · have hk' : decide ((k : Int) < (s.size : Int)) = false := by simp; omega
        have hkn : k = s.size := by omega
        cases m with
        | zero =>
          have HN : Aside (Tp.chk s.data.toList = (0, 0)) := by
            have h0 := HS.out.zero
            show _ = _
            rw [Tp.chk_good (by rw [HL.out]; omega) (by rw [h0, HL.out, hkn])]
          go_wp2_with fail
          go_ret2
          exact chk_ret HN.out rfl rfl
        | succ m =>
          have hm0 : (0 : Int) < (((m + 1 : Nat) : Int)) := by omega
          have HN : Aside (Tp.chk s.data.toList = (20, s.size)) := by
            have h1 : Tp.Sofar s.data.toList s.data.toList.length (m + 1) := by have := HS.out; rw [hkn, ← HL.out] at this; exact this
            have h0 := h1.early
            show _ = _
            rw [Tp.chk_bad (by rw [HL.out]; omega) (.inl (by rw [h0])), h0, HL.out]
          go_wp2_with fail
          go_ret2
          exact chk_ret HN.out rfl rfl
end Go.Proofs.YtohjfikjbeafiaaGreatDoor.T2
namespace Go.Proofs.YtohjfikjbeafiaaGreatDoor.T2
open Go.RowKit

theorem grownBy_refl (w : World) (r : Option Nat) : w.grownBy w r := ⟨rfl, rfl, rfl, Nat.le_refl _, fun _ _ _ => rfl⟩
theorem grownBy_drewN {w w' : World} {r : Option Nat} (h : w.grownBy w' r) (n : Nat) : w.grownBy (w'.drewN n) r := ⟨h.os, h.tape, h.output, h.size, h.block⟩
theorem grownBy_drew {w w' : World} {r : Option Nat} (h : w.grownBy w' r) : w.grownBy w'.drew r := ⟨h.os, h.tape, h.output, h.size, h.block⟩
theorem grownBy_trans {a b c : World} {r : Option Nat} (h : a.grownBy b r) (k : b.grownBy c r) : a.grownBy c r :=
  ⟨k.os.trans h.os, k.tape.trans h.tape, k.output.trans h.output, Nat.le_trans h.size k.size, fun i hi hne => (k.block i (Nat.lt_of_lt_of_le hi h.size) hne).trans (h.block i hi hne)⟩
theorem grownBy_set {a b : World} {rb o : Nat} (h : a.grownBy b (some rb)) (u : Value) : a.grownBy (b.setCell ⟨rb, o, none⟩ u) (some rb) :=
  grownBy_trans h ⟨rfl, rfl, rfl, by simp [World.setCell], fun k hk hne => Below.heap_setCell _ _ _ _ (by intro e; exact hne (by rw [e]))⟩
theorem grownBy_cell {a b : World} {rb : Nat} (h : a.grownBy b (some rb)) {p : Nat} {o : Nat} {v : Value} (hne : p ≠ rb) (hc : a.cell? ⟨p, o, none⟩ = some v) : b.cell? ⟨p, o, none⟩ = some v :=
  h.cell hc (by simpa using hne)
theorem grownBy_alloc_pre {w w' : World} {o : Obj} {r : Option Nat} (h : (w.alloc o).grownBy w' r) : w.grownBy w' r :=
  ⟨h.os, h.tape, h.output, by have := h.size; simp at this; omega, fun k hk hne => (h.block k (by simp; omega) hne).trans (Below.heap_alloc _ _ _ hk)⟩
theorem grownBy_alloc {w w' : World} {r : Option Nat} (h : w.grownBy w' r) (o : Obj) : w.grownBy (w'.alloc o) r :=
  ⟨h.os, h.tape, h.output, by have := h.size; simp; omega, fun k hk hne => (Below.heap_alloc _ _ _ (by have := h.size; omega)).trans (h.block k hk hne)⟩
theorem grownBy_high {w w1 W : World} {rb : Nat} {row : Option Nat} (h1 : w.grownBy w1 (some rb)) (hg : w1.grownBy W row) (hr : ∀ x, row = some x → w.heap.size ≤ x) : w.grownBy W (some rb) :=
  ⟨hg.os.trans h1.os, hg.tape.trans h1.tape, hg.output.trans h1.output, Nat.le_trans h1.size hg.size, fun k hk hne =>
    (hg.block k (Nat.lt_of_lt_of_le hk h1.size) (fun e => by have := hr k e.symm; omega)).trans (h1.block k hk hne)⟩
/-- What stands below stands, but for one block. -/
theorem grownBy_below {w w1 W : World} {rb : Nat} (h1 : w.grownBy w1 (some rb)) (hB : Below w1.heap.size w1 W) : w.grownBy W (some rb) := by
  refine grownBy_trans h1 ⟨hB.os, hB.tape, hB.output, hB.size, fun k hk _ => hB.block k hk⟩

theorem block_cells {w : World} {g : Nat} {C : Array Value} {t : TypeId} (h : w.heap[g]? = some (.cells C t (0, 0))) : (∀ o, w.cell? ⟨g, o, none⟩ = C[o]?) ∧ ∀ o, w.frozen? ⟨g, o, none⟩ = false := by
  refine ⟨fun o => ?_, fun o => ?_⟩
  · simp [World.cell?, h]
  · simp [World.frozen?, h]
theorem cells_list_new (w : World) (xs : List Value) (t : TypeId) : ∀ j u, xs[j]? = some u → (w.alloc (.cells xs.toArray t)).cell? ((⟨w.heap.size, 0, none⟩ : Addr).add j) = some u := by
  intro j u hj
  have hb := (block_cells (heap_alloc_new w (.cells xs.toArray t))).1 j
  rw [List.getElem?_toArray, hj] at hb
  by_cases h0 : j = 0
  · subst h0; simpa [Addr.add] using hb
  · simpa [Addr.add, h0] using hb
theorem own_lit (w : World) (xs : List Value) (e : TypeId) (hm : xs.length ≤ maxLen) : (w.alloc (.cells xs.toArray e)).ownsRow w.heap.size e 1 (.slice (some ⟨w.heap.size, 0, none⟩) xs.length xs.length) xs.length xs :=
  ⟨by simp, .inr ⟨w.heap.size, xs.length, xs.toArray, rfl, Nat.le_refl _, heap_alloc_new _ _, Nat.le_refl _, hm, by simp, by simp⟩⟩
theorem own_nil (w : World) (base : Nat) (e : TypeId) (sz : Nat) : w.ownsRow base e sz (.slice none 0 0) 0 [] := ⟨by simp, .inl ⟨rfl, rfl⟩⟩
theorem own_len {W : World} {base e size n : Nat} {v : Value} {xs : List Value} (h : W.ownsRow base e size v n xs) : ∃ a c, v = .slice a n c := by
  obtain ⟨_, ⟨rfl, rfl⟩ | ⟨g, cap, cur, rfl, _⟩⟩ := h
  · exact ⟨none, 0, rfl⟩
  · exact ⟨some ⟨g, 0, none⟩, cap, rfl⟩
/-- The cells of a row that the call owns. -/
theorem own_cells {W : World} {base e size n : Nat} {v : Value} {xs : List Value} (h : W.ownsRow base e size v n xs) (hn : 0 < n) : ∃ g cap, v = .slice (some ⟨g, 0, none⟩) n cap ∧ n ≤ cap ∧ base ≤ g ∧ ∀ j, j < n * size → W.cell? ⟨g, j, none⟩ = xs[j]? := by
  obtain ⟨h1, ⟨rfl, h0⟩ | ⟨g, cap, cur, rfl, hg, hh, hc, _, hs, ht⟩⟩ := h
  · omega
  · refine ⟨g, cap, rfl, hc, hg, fun j hj => ?_⟩
    rw [← ht, List.getElem?_take, if_pos hj, Array.getElem?_toList]
    simp [World.cell?, hh]

/-- A text of these bytes. -/
def S (l : List UInt8) : ByteArray := ⟨l.toArray⟩
theorem S_list (l : List UInt8) : (S l).data.toList = l := rfl
theorem S_size (l : List UInt8) : (S l).size = l.length := by simp [S, ByteArray.size]
theorem S_of (s : ByteArray) : s = S s.data.toList := rfl
theorem S_cut (l : List UInt8) (a b : Nat) : (S l).extract a b = S ((l.drop a).take (b - a)) := by
  apply ByteArray.ext
  simp [S, ByteArray.data_extract]
/-- A row of texts. -/
def tcells (ls : List (List UInt8)) : List Value := ls.map (fun l => .string (S l))
theorem tcells_append (a b : List (List UInt8)) : tcells (a ++ b) = tcells a ++ tcells b := by simp [tcells]
theorem tcells_one (l : List (List UInt8)) : ∀ u ∈ tcells l, u.oneCell' = true := by
  intro u hu
  unfold tcells at hu
  obtain ⟨c, _, rfl⟩ := List.mem_map.1 hu
  rfl
theorem info9 : (Tryz.prog.info? 9).map (fun i => (i.zero, i.size, i.bytes)) = some (some (.string ⟨#[]⟩), 1, 16) := by kernel_rfl
theorem ty22 : Tryz.prog.underlying 148 = some (.slice 9) := by kernel_rfl
end Go.Proofs.YtohjfikjbeafiaaGreatDoor.T2
namespace Go.Proofs.YtohjfikjbeafiaaGreatDoor.T2
open Go.RowKit

theorem S_head (t : Tp.Ty) : 0 < (S (Tp.enc t)).size ∧ ∀ h : 0 < (S (Tp.enc t)).size, ((S (Tp.enc t))[0]'h).toNat = (Tp.hd t).toNat := by
  refine ⟨by rw [S_size]; exact Tp.enc_pos t, fun h => ?_⟩
  have := Tp.enc_eq t
  show (((Tp.enc t).toArray)[0]'_).toNat = _
  simp [this]

theorem beh_true {l : List UInt8} {j m n : Nat} (h : Tp.beh (l.drop j) (m + 1) = (n, true)) : j < l.length ∧ 0 ≤ Tp.ar (Tp.B l j) ∧ ∃ n', n = n' + 1 ∧ Tp.beh (l.drop (j + 1)) (m + (Tp.ar (Tp.B l j)).toNat) = (n', true) := by
  by_cases hj : j < l.length
  · obtain ⟨c, hd, hc⟩ := Tp.drop_B hj
    rw [hd] at h
    by_cases ha : Tp.ar (Tp.B l j) < 0
    · rw [Tp.beh, if_pos (by rw [hc]; exact ha)] at h
      simp at h
    · rw [Tp.beh_cons _ _ _ (by rw [hc]; omega), hc] at h
      exact ⟨hj, by omega, _, (Prod.mk.inj h).1.symm, Prod.ext rfl (Prod.mk.inj h).2⟩
  · rw [List.drop_eq_nil_of_le (by omega)] at h
    simp [Tp.beh] at h

end Go.Proofs.YtohjfikjbeafiaaGreatDoor.T2
