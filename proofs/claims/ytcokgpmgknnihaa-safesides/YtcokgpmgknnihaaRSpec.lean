/- Plain functions on lists of bytes: what layer 2 of the document says is read. Nothing of the program is named here. -/
import Derived.Test.YtcokgpmgknnihaaSpec
namespace Go.Proofs.Ytcokgpmgknnihaa
namespace Tp

def blankB (c : Int) : Bool := c == 9 || c == 10 || c == 13 || c == 32
def letterB (c : Int) : Bool := decide (97 ≤ c) && decide (c ≤ 122) || decide (65 ≤ c) && decide (c ≤ 90)
def digB (c : Int) : Bool := decide (48 ≤ c) && decide (c ≤ 57) || c == 95
def innerB (c : Int) : Bool := letterB c || digB c
def markB (c : Int) : Bool := c == 63 || c == 40 || c == 41 || c == 44 || c == 91 || c == 93

/-- How many bytes at the beginning are such. -/
def span (p : Int → Bool) : List UInt8 → Nat
  | [] => 0
  | c :: r => if p c.toNat then span p r + 1 else 0
theorem span_le (p : Int → Bool) : ∀ l : List UInt8, span p l ≤ l.length
  | [] => Nat.le_refl _
  | c :: r => by
    unfold span
    have := span_le p r
    split <;> simp; omega
/-- How long the token is with which a list begins; 0: there is none. -/
def tokL (l : List UInt8) : Nat :=
  match l with
  | [] => 0
  | c :: r => if c == 45 then (match r with | 62 :: _ => 2 | _ => 0) else if markB c.toNat then 1 else if letterB c.toNat then span innerB r + 1 else 0
theorem tokL_le (l : List UInt8) : tokL l ≤ l.length := by
  unfold tokL
  split
  · simp
  · rename_i c r
    split
    · split <;> simp
    · split
      · simp
      · split
        · have := span_le innerB r; simp; omega
        · simp

/-- The place of the next token from a place on; the token at a place; the place of the one behind it. -/
def sk (bs : List UInt8) (k : Nat) : Nat := k + span blankB (bs.drop k)
def tl (bs : List UInt8) (p : Nat) : Nat := tokL (bs.drop p)
def tk (bs : List UInt8) (p : Nat) : List UInt8 := (bs.drop p).take (tl bs p)
def nx (bs : List UInt8) (p : Nat) : Nat := sk bs (p + tl bs p)
theorem sk_le {bs : List UInt8} {k : Nat} (h : k ≤ bs.length) : sk bs k ≤ bs.length := by
  unfold sk
  have := span_le blankB (bs.drop k)
  rw [List.length_drop] at this
  omega
theorem sk_ge (bs : List UInt8) (k : Nat) : k ≤ sk bs k := Nat.le_add_right _ _
theorem tl_le {bs : List UInt8} {p : Nat} (h : p ≤ bs.length) : p + tl bs p ≤ bs.length := by
  unfold tl
  have := tokL_le (bs.drop p)
  rw [List.length_drop] at this
  omega
theorem nx_le {bs : List UInt8} {p : Nat} (h : p ≤ bs.length) : nx bs p ≤ bs.length := sk_le (tl_le h)
theorem tk_len (bs : List UInt8) (p : Nat) : (tk bs p).length = tl bs p := by
  unfold tk
  rw [List.length_take]
  exact Nat.min_eq_left (tokL_le _)

/-- The fault of a place at which something else should stand. -/
def bad (bs : List UInt8) (p : Nat) : Nat := if tk bs p = [] ∧ p < bs.length then 11 else 15

abbrev Res := Except (Nat × Nat) (Ty × Nat)
abbrev Rds := (Nat → Res) × (Nat → Res)
def close (bs s : List UInt8) (q : Nat) (v : Ty) : Res := if tk bs q = s then .ok (v, nx bs q) else .error (bad bs q, q)
/-- Behind a ( and what stands there. -/
def pairF (bs : List UInt8) (w : Nat → Res) (a : Ty) (q : Nat) : Res :=
  if tk bs q = [44] then (match w (nx bs q) with | .error e => .error e | .ok (b, r) => close bs [41] r (.tp a b)) else close bs [41] q a
def parenF (bs : List UInt8) (w : Nat → Res) (p : Nat) : Res :=
  match w (nx bs p) with
  | .error e => .error e
  | .ok (a, q) => pairF bs w a q
def listF (bs : List UInt8) (w : Nat → Res) (p : Nat) : Res :=
  match w (nx bs p) with
  | .error e => .error e
  | .ok (a, q) => close bs [93] q (.tl a)
def boxF (bs : List UInt8) (w : Nat → Res) (p : Nat) : Res :=
  match w (nx bs p) with
  | .error e => .error e
  | .ok (a, q) => .ok (.tx a, q)
def within (W : Option Rds) (p : Nat) (f : Rds → Res) : Res :=
  match W with
  | none => .error (16, p)
  | some w => f w
def armF (bs : List UInt8) (W : Option Rds) (p : Nat) : Res :=
  if tk bs p = [105, 110, 116] then .ok (.ti, nx bs p)
  else if tk bs p = [98, 111, 111, 108] then .ok (.tb, nx bs p)
  else if tk bs p = [116, 101, 120, 116] then .ok (.tt, nx bs p)
  else if tk bs p = [63] then .ok (.tq, nx bs p)
  else if tk bs p = [40] then within W p (fun w => parenF bs w.1 p)
  else if tk bs p = [91] then within W p (fun w => listF bs w.1 p)
  else if tk bs p = [98, 111, 120] then within W p (fun w => boxF bs w.2 p)
  else .error (bad bs p, p)
def funF (bs : List UInt8) (w : Nat → Res) (a : Ty) (q : Nat) : Res :=
  match w (nx bs q) with
  | .error e => .error e
  | .ok (b, r) => .ok (.tf a b, r)
def wholeF (bs : List UInt8) (W : Option Rds) (p : Nat) : Res :=
  match armF bs W p with
  | .error e => .error e
  | .ok (a, q) => if tk bs q = [45, 62] then within W q (fun w => funF bs w.1 a q) else .ok (a, q)
/-- d more may be open. -/
def pr (bs : List UInt8) : Nat → Rds
  | 0 => (wholeF bs none, armF bs none)
  | d + 1 => (wholeF bs (some (pr bs d)), armF bs (some (pr bs d)))
def inn (bs : List UInt8) : Nat → Option Rds
  | 0 => none
  | d + 1 => some (pr bs d)
theorem pr_eq (bs : List UInt8) (d : Nat) : pr bs d = (wholeF bs (inn bs d), armF bs (inn bs d)) := by cases d <;> rfl
/-- P2.5, but for ErrLarge. -/
def readF (bs : List UInt8) : Except (Nat × Nat) Ty :=
  match (pr bs 64).1 (sk bs 0) with
  | .error e => .error e
  | .ok (a, q) => if q < bs.length then .error (bad bs q, q) else .ok a

/-- As far as it is open. -/
def ow : Ty → Nat
  | .ti | .tb | .tt | .tq => 0
  | .tl a => ow a + 1
  | .tx a => (if isF a then ow a + 1 else ow a) + 1
  | .tf a b => max (if isF a then ow a + 1 else ow a) (ow b + 1)
  | .tp a b => max (ow a) (ow b) + 1
def oa (a : Ty) : Nat := if isF a then ow a + 1 else ow a
theorem ow_x (a : Ty) : ow (.tx a) = oa a + 1 ∧ oa (.tx a) = oa a + 1 := ⟨rfl, rfl⟩
theorem ow_f (a b : Ty) : ow (.tf a b) = max (oa a) (ow b + 1) ∧ oa (.tf a b) = max (oa a) (ow b + 1) + 1 := ⟨rfl, rfl⟩
theorem enc_lens (a b : Ty) : (enc (.tl a)).length = (enc a).length + 1 ∧ (enc (.tx a)).length = (enc a).length + 1 ∧ (enc (.tf a b)).length = (enc a).length + (enc b).length + 1 ∧ (enc (.tp a b)).length = (enc a).length + (enc b).length + 1 := by simp [enc]
theorem ow_lt : ∀ t : Ty, ow t + 1 ≤ (enc t).length ∧ oa t + 1 ≤ (enc t).length
  | .ti | .tb | .tt | .tq => by decide
  | .tl a => by have := ow_lt a; have := enc_lens a a; have : ow (.tl a) = ow a + 1 ∧ oa (.tl a) = ow a + 1 := ⟨rfl, rfl⟩; omega
  | .tx a => by have h := ow_lt a; have := enc_lens a a; have := ow_x a; omega
  | .tf a b => by
    have h1 := ow_lt a; have h2 := ow_lt b; have h3 := enc_pos a; have h4 := enc_pos b
    have := enc_lens a b; have := ow_f a b; omega
  | .tp a b => by
    have h1 := ow_lt a; have h2 := ow_lt b; have h3 := enc_pos a; have h4 := enc_pos b
    have := enc_lens a b; have : ow (.tp a b) = max (ow a) (ow b) + 1 ∧ oa (.tp a b) = max (ow a) (ow b) + 1 := ⟨rfl, rfl⟩; omega

/-- No word goes on there. -/
def Stop (r : List UInt8) : Prop := ∀ c s, r = c :: s → innerB c.toNat = false
theorem span_stop {r : List UInt8} (h : Stop r) : span innerB r = 0 := by
  cases r with
  | nil => rfl
  | cons c s => simp [span, h c s rfl]
/-- What stands first is no blank. -/
def NoBlank (r : List UInt8) : Prop := ∀ c s, r = c :: s → blankB c.toNat = false
theorem sk_here {bs : List UInt8} {k : Nat} {r : List UInt8} (h : bs.drop k = r) (hr : NoBlank r) : sk bs k = k := by
  unfold sk
  rw [h]
  cases r with
  | nil => rfl
  | cons c s => simp [span, hr c s rfl]
theorem drop_add {bs a r : List UInt8} {k : Nat} (h : bs.drop k = a ++ r) : bs.drop (k + a.length) = r := by
  rw [← List.drop_drop, h, List.drop_left]
theorem wd_first (t : Ty) (r : List UInt8) : NoBlank (wd t ++ r) ∧ NoBlank (par t (wd t) ++ r) := by
  suffices h : ∀ r, NoBlank (wd t ++ r) by
    refine ⟨h r, ?_⟩
    unfold par
    split
    · intro c s e; cases e; decide
    · exact h r
  induction t with
  | ti | tb | tt | tq => intro r c s e; cases e; decide
  | tl a ih => intro r c s e; cases e; decide
  | tx a ih => intro r c s e; cases e; decide
  | tp a b iha ihb => intro r c s e; cases e; decide
  | tf a b iha ihb =>
    intro r
    rw [wd, List.append_assoc]
    unfold par
    split
    · intro c s e; cases e; decide
    · exact iha _
theorem tk_mark {bs r : List UInt8} {p : Nat} {c : UInt8} (h : bs.drop p = c :: r) (hm : markB c.toNat = true) (h45 : (c == 45) = false) : tk bs p = [c] ∧ tl bs p = 1 := by
  have : tl bs p = 1 := by unfold tl; rw [h]; simp only [tokL, h45, hm]; rfl
  exact ⟨by unfold tk; rw [this, h]; rfl, this⟩
theorem tk_arrow {bs r : List UInt8} {p : Nat} (h : bs.drop p = 45 :: 62 :: r) : tk bs p = [45, 62] ∧ tl bs p = 2 := by
  have : tl bs p = 2 := by unfold tl; rw [h]; rfl
  exact ⟨by unfold tk; rw [this, h]; rfl, this⟩
theorem span_app (p : Int → Bool) : ∀ (l r : List UInt8), (∀ c ∈ l, p c.toNat = true) → span p (l ++ r) = l.length + span p r
  | [], r, _ => by simp
  | c :: l, r, h => by
    rw [List.cons_append, span, if_pos (h c (by simp)), span_app p l r (fun d hd => h d (by simp [hd]))]
    simp; omega
theorem tk_word {bs r l : List UInt8} {p : Nat} {c : UInt8} (h : bs.drop p = (c :: l) ++ r) (h1 : letterB c.toNat = true) (h2 : ∀ d ∈ l, innerB d.toNat = true) (hs : Stop r) (h45 : (c == 45) = false) (hm : markB c.toNat = false) : tk bs p = c :: l ∧ tl bs p = (c :: l).length := by
  have : tl bs p = (c :: l).length := by
    unfold tl
    rw [h, List.cons_append]
    simp only [tokL, h45, hm, h1, span_app _ _ _ h2, span_stop hs]
    simp
  exact ⟨by unfold tk; rw [this, h, List.take_left' rfl], this⟩
theorem stop_of {c : UInt8} {s : List UInt8} (h : innerB c.toNat = false) : Stop (c :: s) := fun d t e => by cases e; exact h

theorem arm_leaf {bs r : List UInt8} {W : Option Rds} {p : Nat} {t : Ty} (hk : kids t = []) (h : bs.drop p = wd t ++ r) (hs : Stop r) : armF bs W p = .ok (t, sk bs (p + (wd t).length)) := by
  cases t <;> simp [kids] at hk
  · obtain ⟨h1, h2⟩ := tk_word (c := 105) (l := [110, 116]) h (by decide) (by decide) hs (by decide) (by decide)
    unfold armF; rw [if_pos h1, nx, h2]; rfl
  · obtain ⟨h1, h2⟩ := tk_word (c := 98) (l := [111, 111, 108]) h (by decide) (by decide) hs (by decide) (by decide)
    unfold armF; rw [h1, nx, h2]; rfl
  · obtain ⟨h1, h2⟩ := tk_word (c := 116) (l := [101, 120, 116]) h (by decide) (by decide) hs (by decide) (by decide)
    unfold armF; rw [h1, nx, h2]; rfl
  · obtain ⟨h1, h2⟩ := tk_mark (c := 63) h (by decide) (by decide)
    unfold armF; rw [h1, nx, h2]; rfl

def WholeOk (t : Ty) : Prop := ∀ (d : Nat) (bs r : List UInt8) (p : Nat), ow t ≤ d → bs.drop p = wd t ++ r → Stop r → tk bs (sk bs (p + (wd t).length)) ≠ [45, 62] → (pr bs d).1 p = .ok (t, sk bs (p + (wd t).length))
def ArmOk (t : Ty) : Prop := ∀ (d : Nat) (bs r : List UInt8) (p : Nat), oa t ≤ d → bs.drop p = par t (wd t) ++ r → Stop r → (pr bs d).2 p = .ok (t, sk bs (p + (par t (wd t)).length))

theorem whole_of_arm {t : Ty} (hf : isF t = false) (h : ArmOk t) : WholeOk t := by
  intro d bs r p hd hp hs ht
  have hpar : par t (wd t) = wd t := by simp [par, hf]
  have h1 := h d bs r p (by simpa [oa, hf] using hd) (by rw [hpar]; exact hp) hs
  rw [pr_eq] at h1 ⊢
  rw [hpar] at h1
  replace h1 : armF bs (inn bs d) p = _ := h1
  simp only [wholeF]
  rw [h1]
  simp only []
  rw [if_neg ht]
theorem arm_paren {bs r : List UInt8} {d p : Nat} (h : bs.drop p = 40 :: r) (hr : NoBlank r) : armF bs (inn bs (d + 1)) p = parenF bs (pr bs d).1 p ∧ nx bs p = p + 1 := by
  obtain ⟨h1, h2⟩ := tk_mark (c := 40) h (by decide) (by decide)
  refine ⟨by unfold armF; rw [h1]; rfl, ?_⟩
  rw [nx, h2]
  exact sk_here (drop_add (a := [40]) h) hr
theorem close_ok {bs r : List UInt8} {c : UInt8} {q : Nat} {v : Ty} (h : bs.drop q = c :: r) (hc : markB c.toNat = true) (h45 : (c == 45) = false) : close bs [c] q v = .ok (v, sk bs (q + 1)) := by
  obtain ⟨h1, h2⟩ := tk_mark h hc h45
  unfold close; rw [if_pos h1, nx, h2]
theorem arm_of_whole {t : Ty} (hf : isF t = true) (h : WholeOk t) : ArmOk t := by
  intro d bs r p hd hp hs
  have hpar : par t (wd t) = 40 :: (wd t ++ [41]) := by simp [par, hf]
  have hoa : oa t = ow t + 1 := by simp [oa, hf]
  rw [hpar] at hp ⊢
  obtain ⟨d, rfl⟩ : ∃ e, d = e + 1 := ⟨d - 1, by omega⟩
  have hp' : bs.drop p = 40 :: (wd t ++ (41 :: r)) := by simpa using hp
  obtain ⟨h1, h2⟩ := arm_paren (d := d) hp' (wd_first t _).1
  rw [pr_eq]
  show armF bs (inn bs (d + 1)) p = _
  rw [h1]
  have hd1 : bs.drop (p + 1) = wd t ++ (41 :: r) := drop_add (a := [40]) hp'
  have hd2 : bs.drop (p + 1 + (wd t).length) = 41 :: r := drop_add hd1
  have hsk : sk bs (p + 1 + (wd t).length) = p + 1 + (wd t).length := sk_here hd2 (fun c s e => by cases e; decide)
  have hm := tk_mark (c := 41) hd2 (by decide) (by decide)
  have hw := h d bs (41 :: r) (p + 1) (by omega) hd1 (stop_of (by decide)) (by rw [hsk, hm.1]; decide)
  unfold parenF
  rw [h2, hw, hsk]
  simp only [pairF]
  rw [hm.1, if_neg (by decide), close_ok hd2 (by decide) (by decide)]
  simp [Nat.add_assoc, Nat.add_comm, Nat.add_left_comm]

theorem both : ∀ t : Ty, WholeOk t ∧ ArmOk t
  | .ti => by
    have h : ArmOk .ti := fun d bs r p _ hp hs => by rw [pr_eq]; exact arm_leaf rfl hp hs
    exact ⟨whole_of_arm rfl h, h⟩
  | .tb => by
    have h : ArmOk .tb := fun d bs r p _ hp hs => by rw [pr_eq]; exact arm_leaf rfl hp hs
    exact ⟨whole_of_arm rfl h, h⟩
  | .tt => by
    have h : ArmOk .tt := fun d bs r p _ hp hs => by rw [pr_eq]; exact arm_leaf rfl hp hs
    exact ⟨whole_of_arm rfl h, h⟩
  | .tq => by
    have h : ArmOk .tq := fun d bs r p _ hp hs => by rw [pr_eq]; exact arm_leaf rfl hp hs
    exact ⟨whole_of_arm rfl h, h⟩
  | .tl a => by
    have h : ArmOk (.tl a) := fun d bs r p hd hp hs => by
      have hoa : oa (.tl a) = ow a + 1 := rfl
      obtain ⟨d, rfl⟩ : ∃ e, d = e + 1 := ⟨d - 1, by omega⟩
      have hp' : bs.drop p = 91 :: (wd a ++ (93 :: r)) := by simpa [par, isF, wd] using hp
      obtain ⟨h1, h2⟩ := tk_mark (c := 91) hp' (by decide) (by decide)
      have hd1 : bs.drop (p + 1) = wd a ++ (93 :: r) := drop_add (a := [91]) hp'
      have hd2 : bs.drop (p + 1 + (wd a).length) = 93 :: r := drop_add hd1
      have hsk : sk bs (p + 1 + (wd a).length) = p + 1 + (wd a).length := sk_here hd2 (fun c s e => by cases e; decide)
      have hm := tk_mark (c := 93) hd2 (by decide) (by decide)
      have hw := (both a).1 d bs (93 :: r) (p + 1) (by omega) hd1 (stop_of (by decide)) (by rw [hsk, hm.1]; decide)
      have hn : nx bs p = p + 1 := by rw [nx, h2]; exact sk_here hd1 (wd_first a _).1
      rw [pr_eq]
      show armF bs (inn bs (d + 1)) p = _
      unfold armF
      rw [h1]
      show listF bs (pr bs d).1 p = _
      unfold listF
      rw [hn, hw, hsk]
      simp only []
      rw [close_ok hd2 (by decide) (by decide)]
      simp [par, isF, wd, Nat.add_assoc, Nat.add_comm, Nat.add_left_comm]
    exact ⟨whole_of_arm rfl h, h⟩
  | .tx a => by
    have h : ArmOk (.tx a) := fun d bs r p hd hp hs => by
      have hoa : oa (.tx a) = oa a + 1 := rfl
      obtain ⟨d, rfl⟩ : ∃ e, d = e + 1 := ⟨d - 1, by omega⟩
      have hp' : bs.drop p = [98, 111, 120] ++ (32 :: (par a (wd a) ++ r)) := by simpa [par, isF, wd] using hp
      obtain ⟨h1, h2⟩ := tk_word (c := 98) (l := [111, 120]) hp' (by decide) (by decide) (stop_of (by decide)) (by decide) (by decide)
      have hd1 : bs.drop (p + 3) = 32 :: (par a (wd a) ++ r) := drop_add (a := [98, 111, 120]) hp'
      have hd2 : bs.drop (p + 4) = par a (wd a) ++ r := drop_add (a := [32]) hd1
      have hn : nx bs p = p + 4 := by
        rw [nx, h2]
        show sk bs (p + 3) = _
        have := sk_here hd2 (wd_first a r).2
        unfold sk at this ⊢
        rw [hd2] at this
        rw [hd1]
        simp only [span]
        rw [if_pos (by decide)]
        omega
      have hw := (both a).2 d bs r (p + 4) (by omega) hd2 hs
      rw [pr_eq]
      show armF bs (inn bs (d + 1)) p = _
      unfold armF
      rw [h1]
      show boxF bs (pr bs d).2 p = _
      unfold boxF
      rw [hn, hw]
      have e : p + 4 + (par a (wd a)).length = p + (par (.tx a) (wd (.tx a))).length := by rw [show par (.tx a) (wd (.tx a)) = [98, 111, 120, 32] ++ par a (wd a) from rfl]; simp; omega
      rw [← e]
    exact ⟨whole_of_arm rfl h, h⟩
  | .tp a b => by
    have h : ArmOk (.tp a b) := fun d bs r p hd hp hs => by
      have hoa : oa (.tp a b) = max (ow a) (ow b) + 1 := rfl
      obtain ⟨d, rfl⟩ : ∃ e, d = e + 1 := ⟨d - 1, by omega⟩
      have hp' : bs.drop p = 40 :: (wd a ++ (44 :: (32 :: (wd b ++ (41 :: r))))) := by simpa [par, isF, wd] using hp
      obtain ⟨h1, h2⟩ := arm_paren (d := d) hp' (wd_first a _).1
      have hd1 : bs.drop (p + 1) = wd a ++ (44 :: (32 :: (wd b ++ (41 :: r)))) := drop_add (a := [40]) hp'
      have hd2 : bs.drop (p + 1 + (wd a).length) = 44 :: (32 :: (wd b ++ (41 :: r))) := drop_add hd1
      have hd3 : bs.drop (p + 1 + (wd a).length + 1) = 32 :: (wd b ++ (41 :: r)) := drop_add (a := [44]) hd2
      have hd4 : bs.drop (p + 1 + (wd a).length + 2) = wd b ++ (41 :: r) := drop_add (a := [32]) hd3
      have hd5 : bs.drop (p + 1 + (wd a).length + 2 + (wd b).length) = 41 :: r := drop_add hd4
      have hsk : sk bs (p + 1 + (wd a).length) = p + 1 + (wd a).length := sk_here hd2 (fun c s e => by cases e; decide)
      have hsk5 : sk bs (p + 1 + (wd a).length + 2 + (wd b).length) = p + 1 + (wd a).length + 2 + (wd b).length := sk_here hd5 (fun c s e => by cases e; decide)
      have hm := tk_mark (c := 44) hd2 (by decide) (by decide)
      have hm5 := tk_mark (c := 41) hd5 (by decide) (by decide)
      have hw := (both a).1 d bs _ (p + 1) (by omega) hd1 (stop_of (by decide)) (by rw [hsk, hm.1]; decide)
      have hw2 := (both b).1 d bs _ _ (by omega) hd4 (stop_of (by decide)) (by rw [hsk5, hm5.1]; decide)
      have hn : nx bs (p + 1 + (wd a).length) = p + 1 + (wd a).length + 2 := by
        rw [nx, hm.2]
        have := sk_here hd4 (wd_first b _).1
        unfold sk at this ⊢
        rw [hd4] at this
        rw [hd3]
        simp only [span]
        rw [if_pos (by decide)]
        omega
      rw [pr_eq]
      show armF bs (inn bs (d + 1)) p = _
      rw [h1]
      unfold parenF
      rw [h2, hw, hsk]
      simp only [pairF]
      rw [hm.1, if_pos rfl, hn, hw2, hsk5]
      simp only []
      rw [close_ok hd5 (by decide) (by decide)]
      have e : p + 1 + (wd a).length + 2 + (wd b).length + 1 = p + (par (.tp a b) (wd (.tp a b))).length := by simp [par, isF, wd]; omega
      rw [← e]
    exact ⟨whole_of_arm rfl h, h⟩
  | .tf a b => by
    have h : WholeOk (.tf a b) := fun d bs r p hd hp hs ht => by
      have how : ow (.tf a b) = max (oa a) (ow b + 1) := rfl
      obtain ⟨d, rfl⟩ : ∃ e, d = e + 1 := ⟨d - 1, by omega⟩
      have hp' : bs.drop p = par a (wd a) ++ (32 :: (45 :: 62 :: (32 :: (wd b ++ r)))) := by simpa [wd] using hp
      have hd1 : bs.drop (p + (par a (wd a)).length) = 32 :: (45 :: 62 :: (32 :: (wd b ++ r))) := drop_add hp'
      have hd2 : bs.drop (p + (par a (wd a)).length + 1) = 45 :: 62 :: (32 :: (wd b ++ r)) := drop_add (a := [32]) hd1
      have hd3 : bs.drop (p + (par a (wd a)).length + 3) = 32 :: (wd b ++ r) := drop_add (a := [45, 62]) hd2
      have hd4 : bs.drop (p + (par a (wd a)).length + 4) = wd b ++ r := drop_add (a := [32]) hd3
      have hsk : sk bs (p + (par a (wd a)).length) = p + (par a (wd a)).length + 1 := by
        unfold sk
        rw [hd1]
        simp only [span]
        rw [if_pos (by decide), if_neg (by decide)]
      have hw := (both a).2 (d + 1) bs _ p (by omega) hp' (stop_of (by decide))
      have hm := tk_arrow hd2
      have hn : nx bs (p + (par a (wd a)).length + 1) = p + (par a (wd a)).length + 4 := by
        rw [nx, hm.2]
        have := sk_here hd4 (wd_first b _).1
        unfold sk at this ⊢
        rw [hd4] at this
        rw [show p + (par a (wd a)).length + 1 + 2 = p + (par a (wd a)).length + 3 by omega, hd3]
        simp only [span]
        rw [if_pos (by decide)]
        omega
      have hlen : p + (wd (.tf a b)).length = p + (par a (wd a)).length + 4 + (wd b).length := by simp [wd]; omega
      rw [hlen] at ht ⊢
      have hw2 := (both b).1 d bs r _ (by omega) hd4 hs ht
      rw [pr_eq] at hw ⊢
      replace hw : armF bs (inn bs (d + 1)) p = _ := hw
      show wholeF bs (inn bs (d + 1)) p = _
      unfold wholeF
      rw [hw, hsk]
      simp only []
      rw [if_pos hm.1]
      show funF bs (pr bs d).1 a _ = _
      unfold funF
      rw [hn, hw2]
    exact ⟨h, arm_of_whole rfl h⟩

/-- The words of a type are read as it. -/
theorem read_wd (t : Ty) (h : (enc t).length ≤ 64) : readF (wd t) = .ok t := by
  have hd : (wd t).drop 0 = wd t ++ [] := by simp
  have h0 : sk (wd t) 0 = 0 := sk_here hd (wd_first t _).1
  have hend : (wd t).drop (0 + (wd t).length) = [] := by simp
  have hs : sk (wd t) (0 + (wd t).length) = (wd t).length := by rw [sk_here hend (fun c s e => by cases e)]; omega
  have := (both t).1 64 (wd t) [] 0 (by have := (ow_lt t).1; omega) hd (fun c s e => by cases e) (by rw [hs]; unfold tk; simp)
  unfold readF
  rw [h0, this, hs]
  simp
end Tp
end Go.Proofs.Ytcokgpmgknnihaa
