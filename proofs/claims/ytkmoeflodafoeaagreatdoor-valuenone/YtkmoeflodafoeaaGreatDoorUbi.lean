/- Coercions as lists of nodes, plain: which nodes may stand, the tree that begins a list. Nothing of the program is named here. -/
import Derived.Test.YtkmoeflodafoeaaGreatDoorUbh
namespace Go.Proofs.YtkmoeflodafoeaaGreatDoor
set_option maxRecDepth 100000
set_option linter.unusedVariables false
set_option linter.unusedSimpArgs false
namespace Cc
/-- A node. -/
structure N where
  op : Int
  proj : Int
  inj : Bool
  head : Int
  label : Int
  frm : Int
  tto : Int
deriving DecidableEq
def hB : H → Int
  | .hi => 105 | .hb => 98 | .ht => 116 | .ls => 108 | .tw .fn => 62 | .tw .pr => 44 | .tw .bx => 120
def opK : K → Int
  | .fn => 3 | .pr => 4 | .bx => 6
def opH : H → Int
  | .ls => 5 | .tw k => opK k | _ => 2
def hOf (x : Int) : Option H :=
  if x = 105 then some .hi else if x = 98 then some .hb else if x = 116 then some .ht else if x = 62 then some (.tw .fn)
  else if x = 44 then some (.tw .pr) else if x = 108 then some .ls else if x = 120 then some (.tw .bx) else none
theorem hOf_hB (h : H) : hOf (hB h) = some h := by
  cases h <;> (try rfl)
  rename_i k; cases k <;> rfl
theorem hB_of {x : Int} {h : H} (e : hOf x = some h) : x = hB h := by
  unfold hOf at e
  repeat' split at e
  all_goals first
    | (simp only [Option.some.injEq] at e; subst e; simp only [hB]; assumption)
    | (simp at e)
theorem hB_inj {a b : H} (e : hB a = hB b) : a = b := by
  have := hOf_hB a
  rw [e, hOf_hB] at this
  exact (Option.some.inj this).symm
theorem hB_rng (h : H) : 44 ≤ hB h ∧ hB h ≤ 120 := by
  cases h <;> (try (simp [hB]; done))
  rename_i k; cases k <;> simp [hB]
def isLab (n : Int) : Bool := decide (n ≠ 0) && (decide (-2147483647 ≤ n) && decide (n ≤ 2147483647))
theorem isLab_iff {n : Int} : isLab n = true ↔ n ≠ 0 ∧ -2147483647 ≤ n ∧ n ≤ 2147483647 := by simp [isLab]
/-- No label, or one. -/
def lb (p : Int) : Prop := p = 0 ∨ isLab p = true
/-- A node that may stand: which shape. -/
inductive Sh where
  | any
  | bs (p : Int) (j : Bool) (h : H)
  | fl (p : Int) (h : H) (l : Int) (t : H)
  | ls (p : Int) (j : Bool)
  | tw (k : K) (p : Int) (j : Bool)
deriving DecidableEq
def shN : Sh → N
  | .any => ⟨1, 0, false, 0, 0, 0, 0⟩
  | .bs p j h => ⟨2, p, j, hB h, 0, 0, 0⟩
  | .fl p h l t => ⟨7, p, false, hB h, l, hB h, hB t⟩
  | .ls p j => ⟨5, p, j, 108, 0, 0, 0⟩
  | .tw k p j => ⟨opK k, p, j, hB (.tw k), 0, 0, 0⟩
def shOk : Sh → Prop
  | .any => True
  | .bs p j h => lb p ∧ (h = .hi ∨ h = .hb ∨ h = .ht)
  | .fl p h l t => lb p ∧ isLab l = true ∧ t ≠ h
  | .ls p j => lb p
  | .tw k p j => lb p
def shH (p : Int) (j : Bool) : H → Sh
  | .ls => .ls p j
  | .tw k => .tw k p j
  | h => .bs p j h
def cls (x : N) : Option Sh :=
  if x.proj ≠ 0 ∧ isLab x.proj = false then none
  else if x.op = 1 then (if x = ⟨1, 0, false, 0, 0, 0, 0⟩ then some .any else none)
  else if x.op = 7 then
    match hOf x.head, hOf x.tto with
    | some h, some t => if x.inj = false ∧ isLab x.label = true ∧ x.frm = x.head ∧ x.tto ≠ x.head then some (.fl x.proj h x.label t) else none
    | _, _ => none
  else
    match hOf x.head with
    | none => none
    | some h => if x.op = opH h ∧ x.label = 0 ∧ x.frm = 0 ∧ x.tto = 0 then some (shH x.proj x.inj h) else none
theorem cls_of {x : N} {s : Sh} (e : cls x = some s) : x = shN s ∧ shOk s := by
  unfold cls at e
  split at e
  · simp at e
  rename_i hp
  have hlb : lb x.proj := by
    unfold lb
    by_cases h0 : x.proj = 0
    · exact .inl h0
    · right; cases hx : isLab x.proj
      · exact absurd ⟨h0, hx⟩ hp
      · rfl
  split at e
  · split at e
    · simp only [Option.some.injEq] at e; subst e; exact ⟨by assumption, trivial⟩
    · simp at e
  split at e
  · rename_i h7
    split at e
    · rename_i h t e1 e2
      split at e
      · rename_i hc
        simp only [Option.some.injEq] at e; subst e
        obtain ⟨c1, c2, c3, c4⟩ := hc
        have h1 := hB_of e1; have h2 := hB_of e2
        refine ⟨?_, hlb, c2, ?_⟩
        · cases x; simp only at *; simp only [shN]; subst c1 h7 c3; rw [h1, h2]
        · rintro rfl; exact c4 (h2.trans h1.symm)
      · simp at e
    · simp at e
  · split at e
    · simp at e
    · rename_i h e1
      split at e
      · rename_i hc
        simp only [Option.some.injEq] at e; subst e
        obtain ⟨c1, c2, c3, c4⟩ := hc
        have h1 := hB_of e1
        cases x; simp only at *
        subst c2 c3 c4 c1 h1
        cases h <;> simp [shH, shN, shOk, opH, hlb, hB]
      · simp at e
theorem cls_shN {s : Sh} (h : shOk s) : cls (shN s) = some s := by
  have hlb : ∀ p : Int, lb p → ¬ (p ≠ 0 ∧ isLab p = false) := by
    rintro p (h | h) ⟨a, b⟩
    · exact a h
    · rw [h] at b; cases b
  cases s with
  | any => rfl
  | bs p j h' =>
    obtain ⟨h1, h2⟩ := h
    unfold cls
    simp only [shN]
    rw [if_neg (hlb p h1), if_neg (by decide), if_neg (by decide), hOf_hB]
    rcases h2 with rfl | rfl | rfl <;> simp [opH, shH]
  | fl p h' l t =>
    obtain ⟨h1, h2, h3⟩ := h
    unfold cls
    simp only [shN]
    rw [if_neg (hlb p h1), if_neg (by decide), if_pos trivial, hOf_hB, hOf_hB]
    simp only
    rw [if_pos ⟨trivial, h2, trivial, fun e => h3 (hB_inj e)⟩]
  | ls p j =>
    unfold cls
    simp only [shN]
    rw [if_neg (hlb p h), if_neg (by decide), if_neg (by decide)]
    rfl
  | tw k p j =>
    unfold cls
    simp only [shN]
    rw [if_neg (hlb p h), if_neg (by cases k <;> decide), if_neg (by cases k <;> decide), hOf_hB]
    simp [opH, shH]
/-- The root's shape. -/
def sh : C → Sh
  | .any => .any
  | .bs p j h => .bs p j h
  | .fl p h l t => .fl p h l t
  | .ls p j _ => .ls p j
  | .tw k p j _ _ => .tw k p j
def nod (c : C) : N := shN (sh c)
def flat : C → List N
  | .any => [nod .any]
  | .bs p j h => [nod (.bs p j h)]
  | .fl p h l t => [nod (.fl p h l t)]
  | .ls p j a => nod (.ls p j a) :: flat a
  | .tw k p j a b => nod (.tw k p j a b) :: (flat a ++ flat b)
theorem flat_len (c : C) : (flat c).length = size c := by
  induction c with
  | any => rfl
  | bs => rfl
  | fl => rfl
  | ls p j a ih => simp [flat, size, ih]
  | tw k p j a b ia ib => simp [flat, size, ia, ib]
theorem flat_cons (c : C) : ∃ r, flat c = nod c :: r := by cases c <;> exact ⟨_, rfl⟩
/-- Does it begin and end in ?, where that is asked? -/
def reach (a : C) (f t : Bool) : Bool := (beg a || !f) && (fin a || !t)
def grB : C → Bool
  | .ls p j a => reach a (p != 0) j
  | .tw k p j a b => (if t0 k then reach a j (p != 0) else reach a (p != 0) j) && (if t1 k then reach b j (p != 0) else reach b (p != 0) j)
  | _ => true
/-- Its labels are labels. -/
def lbs : C → Prop
  | .any => True
  | .bs p j h => lb p
  | .fl p h l t => lb p ∧ isLab l = true
  | .ls p j a => lb p ∧ lbs a
  | .tw k p j a b => lb p ∧ lbs a ∧ lbs b
/-- It may be, its height aside. -/
def ok (c : C) : Prop := gr c ∧ lbs c
theorem reach_iff {a : C} {p : Int} {j : Bool} : reach a (p != 0) j = true ↔ (p ≠ 0 → beg a = true) ∧ (j = true → fin a = true) := by
  unfold reach; by_cases h : p = 0 <;> cases j <;> cases beg a <;> cases fin a <;> simp [h]
theorem reach_iff' {a : C} {p : Int} {j : Bool} : reach a j (p != 0) = true ↔ (p ≠ 0 → fin a = true) ∧ (j = true → beg a = true) := by
  unfold reach; by_cases h : p = 0 <;> cases j <;> cases beg a <;> cases fin a <;> simp [h]
theorem ok_any : ok .any := ⟨trivial, trivial⟩
theorem ok_bs {p : Int} {j : Bool} {h : H} : ok (.bs p j h) ↔ lb p ∧ (h = .hi ∨ h = .hb ∨ h = .ht) := by
  simp only [ok, gr, lbs]; exact And.comm
theorem isLab_ne {l : Int} (h : isLab l = true) : l ≠ 0 := (isLab_iff.1 h).1
theorem ok_fl {p : Int} {h : H} {l : Int} {t : H} : ok (.fl p h l t) ↔ lb p ∧ isLab l = true ∧ t ≠ h := by
  simp only [ok, gr, lbs]
  exact ⟨fun ⟨⟨a, b⟩, c, d⟩ => ⟨c, d, b⟩, fun ⟨a, b, c⟩ => ⟨⟨isLab_ne b, c⟩, a, b⟩⟩
theorem ok_ls {p : Int} {j : Bool} {a : C} : ok (.ls p j a) ↔ lb p ∧ ok a ∧ grB (.ls p j a) = true := by
  simp only [ok, gr, lbs, grB, reach_iff]
  exact ⟨fun ⟨⟨a, b⟩, c, d⟩ => ⟨c, ⟨a, d⟩, b⟩, fun ⟨a, ⟨b, c⟩, d⟩ => ⟨⟨b, d⟩, a, c⟩⟩
theorem ok_tw {k : K} {p : Int} {j : Bool} {a b : C} : ok (.tw k p j a b) ↔ lb p ∧ ok a ∧ ok b ∧ grB (.tw k p j a b) = true := by
  cases k <;> simp only [ok, gr, lbs, grB, t0, t1, if_true, if_false, Bool.false_eq_true, Bool.and_eq_true, reach_iff, reach_iff']
  all_goals
    constructor
    · rintro ⟨⟨a, b, c, d⟩, e, f, g⟩
      exact ⟨e, ⟨a, f⟩, ⟨b, g⟩, ⟨fun h => (c h).1, fun h => (d h).1⟩, ⟨fun h => (c h).2, fun h => (d h).2⟩⟩
    · rintro ⟨e, ⟨a, f⟩, ⟨b, g⟩, ⟨c1, d1⟩, ⟨c2, d2⟩⟩
      exact ⟨⟨a, b, fun h => ⟨c1 h, c2 h⟩, fun h => ⟨d1 h, d2 h⟩⟩, e, f, g⟩
/-- The tree that begins a list, at most so high, and what stands behind it. -/
def tk : Nat → List N → Option (C × List N)
  | 0, _ => none
  | _ + 1, [] => none
  | n + 1, x :: r =>
    match cls x with
    | none => none
    | some .any => some (.any, r)
    | some (.bs p j h) => some (.bs p j h, r)
    | some (.fl p h l t) => some (.fl p h l t, r)
    | some (.ls p j) =>
      match tk n r with
      | none => none
      | some (a, r1) => if grB (.ls p j a) = true then some (.ls p j a, r1) else none
    | some (.tw k p j) =>
      match tk n r with
      | none => none
      | some (a, r1) =>
        match tk n r1 with
        | none => none
        | some (b, r2) => if grB (.tw k p j a b) = true then some (.tw k p j a b, r2) else none
theorem tk_of : ∀ (n : Nat) (l : List N) (c : C) (r : List N), tk n l = some (c, r) → l = flat c ++ r ∧ ok c ∧ high c ≤ n
  | 0, l, c, r, h => by simp [tk] at h
  | n + 1, [], c, r, h => by simp [tk] at h
  | n + 1, x :: l, c, r, h => by
    rw [tk] at h
    split at h
    · simp at h
    · rename_i e; obtain ⟨rfl, o⟩ := cls_of e
      simp only [Option.some.injEq, Prod.mk.injEq] at h; obtain ⟨rfl, rfl⟩ := h
      exact ⟨rfl, ok_any, by simp [high]⟩
    · rename_i e; obtain ⟨rfl, o⟩ := cls_of e
      simp only [Option.some.injEq, Prod.mk.injEq] at h; obtain ⟨rfl, rfl⟩ := h
      exact ⟨rfl, ok_bs.2 o, by simp [high]⟩
    · rename_i e; obtain ⟨rfl, o⟩ := cls_of e
      simp only [Option.some.injEq, Prod.mk.injEq] at h; obtain ⟨rfl, rfl⟩ := h
      exact ⟨rfl, ok_fl.2 o, by simp [high]⟩
    · rename_i e; obtain ⟨rfl, o⟩ := cls_of e
      split at h
      · simp at h
      · rename_i a r1 e1
        obtain ⟨rfl, oa, ha⟩ := tk_of n _ _ _ e1
        split at h
        · rename_i g
          simp only [Option.some.injEq, Prod.mk.injEq] at h; obtain ⟨rfl, rfl⟩ := h
          exact ⟨rfl, ok_ls.2 ⟨o, oa, g⟩, by simp [high]; omega⟩
        · simp at h
    · rename_i e; obtain ⟨rfl, o⟩ := cls_of e
      split at h
      · simp at h
      · rename_i a r1 e1
        obtain ⟨rfl, oa, ha⟩ := tk_of n _ _ _ e1
        split at h
        · simp at h
        · rename_i b r2 e2
          obtain ⟨rfl, ob, hb⟩ := tk_of n _ _ _ e2
          split at h
          · rename_i g
            simp only [Option.some.injEq, Prod.mk.injEq] at h; obtain ⟨rfl, rfl⟩ := h
            exact ⟨by simp [flat, nod, sh], ok_tw.2 ⟨o, oa, ob, g⟩, by simp [high]; omega⟩
          · simp at h
theorem tk_flat : ∀ (c : C) (n : Nat) (r : List N), ok c → high c ≤ n → tk n (flat c ++ r) = some (c, r)
  | c, 0, r, _, h => by have := high_pos c; omega
  | .any, n + 1, r, o, h => rfl
  | .bs p j g, n + 1, r, o, h => by
    have e : cls (nod (.bs p j g)) = some (.bs p j g) := cls_shN (ok_bs.1 o)
    show tk (n + 1) (nod (.bs p j g) :: r) = _
    rw [tk, e]
  | .fl p g l t, n + 1, r, o, h => by
    have e : cls (nod (.fl p g l t)) = some (.fl p g l t) := cls_shN (ok_fl.1 o)
    show tk (n + 1) (nod (.fl p g l t) :: r) = _
    rw [tk, e]
  | .ls p j a, n + 1, r, o, h => by
    obtain ⟨o1, o2, o3⟩ := ok_ls.1 o
    have e : cls (nod (.ls p j a)) = some (.ls p j) := cls_shN o1
    show tk (n + 1) (nod (.ls p j a) :: (flat a ++ r)) = _
    simp only [high] at h
    rw [tk, e]
    simp only
    rw [tk_flat a n r o2 (by omega)]
    simp only
    rw [if_pos o3]
  | .tw k p j a b, n + 1, r, o, h => by
    obtain ⟨o1, o2, o3, o4⟩ := ok_tw.1 o
    have e : cls (nod (.tw k p j a b)) = some (.tw k p j) := cls_shN o1
    show tk (n + 1) (nod (.tw k p j a b) :: ((flat a ++ flat b) ++ r)) = _
    simp only [high] at h
    rw [List.append_assoc, tk, e]
    simp only
    rw [tk_flat a n _ o2 (by omega)]
    simp only
    rw [tk_flat b n _ o3 (by omega)]
    simp only
    rw [if_pos o4]
/-- A list as one coercion that may be. -/
def whole (l : List N) : Option C :=
  match tk 64 l with
  | some (c, []) => some c
  | _ => none
theorem whole_iff {l : List N} {c : C} : whole l = some c ↔ l = flat c ∧ ok c ∧ high c ≤ 64 := by
  constructor
  · intro h
    unfold whole at h
    split at h
    · rename_i c' e
      simp only [Option.some.injEq] at h; subst h
      have := tk_of _ _ _ _ e
      simpa using this
    · simp at h
  · rintro ⟨rfl, o, h⟩
    have := tk_flat c 64 [] o h
    rw [List.append_nil] at this
    unfold whole
    rw [this]
theorem lbs_fl {p : Int} {h : H} {q : Int} {t : H} (a : lb p) (b : lb q) (c : q ≠ 0) : lbs (.fl p h q t) := by
  refine ⟨a, ?_⟩
  rcases b with b | b
  · exact absurd b c
  · exact b
theorem lbs_thn : ∀ (s t : C), lbs s → lbs t → meets s t = true → lbs (thn s t)
  | .fl .., t, hs, ht, hm => by rw [fl_thn]; exact hs
  | .any, t, hs, ht, hm => by rw [any_thn]; exact ht
  | .bs p j h, .any, hs, ht, hm => by rw [thn_any]; exact hs
  | .bs p j h, .bs q i g, hs, ht, hm => by
    rw [thn]; split
    · exact hs
    · rename_i e; rw [meets, if_neg e] at hm; exact lbs_fl hs ht (mis hm)
  | .bs p j h, .fl q g l t, hs, ht, hm => by
    rw [thn]; split
    · exact ⟨hs, ht.2⟩
    · rename_i e; rw [meets, if_neg e] at hm; exact lbs_fl hs ht.1 (mis hm)
  | .bs p j h, .ls q i c, hs, ht, hm => by rw [thn]; rw [meets] at hm; exact lbs_fl hs ht.1 (mis hm)
  | .bs p j h, .tw k q i c d, hs, ht, hm => by rw [thn]; rw [meets] at hm; exact lbs_fl hs ht.1 (mis hm)
  | .ls p j a, .any, hs, ht, hm => by rw [thn_any]; exact hs
  | .ls p j a, .bs q i g, hs, ht, hm => by rw [thn]; rw [meets] at hm; exact lbs_fl hs.1 ht (mis hm)
  | .ls p j a, .fl q g l t, hs, ht, hm => by
    rw [thn]; split
    · exact ⟨hs.1, ht.2⟩
    · rename_i e; rw [meets, if_neg e] at hm; exact lbs_fl hs.1 ht.1 (mis hm)
  | .ls p j a, .ls q i c, hs, ht, hm => by
    rw [meets, Bool.and_eq_true] at hm
    rw [thn]; exact ⟨hs.1, lbs_thn a c hs.2 ht.2 hm.2⟩
  | .ls p j a, .tw k q i c d, hs, ht, hm => by rw [thn]; rw [meets] at hm; exact lbs_fl hs.1 ht.1 (mis hm)
  | .tw k p j a b, .any, hs, ht, hm => by rw [thn_any]; exact hs
  | .tw k p j a b, .bs q i g, hs, ht, hm => by rw [thn]; rw [meets] at hm; exact lbs_fl hs.1 ht (mis hm)
  | .tw k p j a b, .fl q g l t, hs, ht, hm => by
    rw [thn]; split
    · exact ⟨hs.1, ht.2⟩
    · rename_i e; rw [meets, if_neg e] at hm; exact lbs_fl hs.1 ht.1 (mis hm)
  | .tw k p j a b, .ls q i c, hs, ht, hm => by rw [thn]; rw [meets] at hm; exact lbs_fl hs.1 ht.1 (mis hm)
  | .tw k p j a b, .tw m q i c d, hs, ht, hm => by
    rw [thn]
    split
    · rename_i e; subst e
      rw [meets, if_pos rfl, Bool.and_eq_true, Bool.and_eq_true] at hm
      obtain ⟨-, m1, m2⟩ := hm
      cases k <;> simp only [t0, t1, if_true, if_false, Bool.false_eq_true] at m1 m2 ⊢
      · exact ⟨hs.1, lbs_thn c a ht.2.1 hs.2.1 m1, lbs_thn b d hs.2.2 ht.2.2 m2⟩
      · exact ⟨hs.1, lbs_thn a c hs.2.1 ht.2.1 m1, lbs_thn b d hs.2.2 ht.2.2 m2⟩
      · exact ⟨hs.1, lbs_thn a c hs.2.1 ht.2.1 m1, lbs_thn d b ht.2.2 hs.2.2 m2⟩
    · rename_i e; rw [meets, if_neg e] at hm; exact lbs_fl hs.1 ht.1 (mis hm)
termination_by s t => sizeOf s + sizeOf t
theorem ok_thn {s t : C} (hs : ok s) (ht : ok t) (hm : meets s t = true) : ok (thn s t) := ⟨gr_thn s t hs.1 ht.1 hm, lbs_thn s t hs.2 ht.2 hm⟩
end Cc
end Go.Proofs.YtkmoeflodafoeaaGreatDoor
