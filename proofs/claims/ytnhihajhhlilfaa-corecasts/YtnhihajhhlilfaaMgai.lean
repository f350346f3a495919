/- The rules of layer 10 (core terms) as plain functions. Nothing of the program is named here. -/
import Derived.Test.YtnhihajhhlilfaaMgah
namespace Go.Proofs.Ytnhihajhhlilfaa
set_option maxRecDepth 100000
namespace Co
open T3.Tp (Ty enc cns)
open Tr (T Nd flat flats high highs)

abbrev Rs := Except (Int × Nat)
abbrev sz (t : Ty) : Nat := (enc t).length
/-- A text as a type. -/
def tyS (s : ByteArray) : Ty := Ck.tyOf s.data.toList
def goodB (s : ByteArray) : Bool := (T3.Tp.chk s.data.toList).1 == 0
theorem good_enc {s : ByteArray} (h : goodB s = true) : s.data.toList = enc (tyS s) ∧ sz (tyS s) ≤ 64 := by
  unfold goodB at h
  obtain ⟨t, h1, h2⟩ := T3.Tp.chk_dec (by simpa using h)
  unfold tyS
  rw [h1, Ck.tyOf_enc]
  exact ⟨rfl, h2⟩
/-- How many kids a kind has; -1: any number; -2: it is none. -/
def ary (k : Int) : Int :=
  if k = 1 ∨ k = 2 ∨ k = 3 ∨ k = 4 then 0
  else if k = 5 ∨ k = 6 ∨ k = 16 ∨ k = 17 ∨ k = 19 ∨ k = 20 ∨ k = 22 ∨ k = 23 ∨ k = 24 ∨ k = 26 ∨ k = 27 ∨ k = 30 then 1
  else if k = 7 ∨ k = 8 ∨ k = 10 ∨ k = 11 ∨ k = 12 ∨ k = 13 ∨ k = 14 ∨ k = 15 ∨ k = 18 ∨ k = 25 ∨ k = 28 then 2
  else if k = 9 then 3 else if k = 21 then -1 else -2
def takes (x : Nd) : Bool := if ary x.kind = -2 then false else if ary x.kind = -1 then decide (0 ≤ x.kids) else decide (x.kids = ary x.kind)
theorem ary_pos {k : Int} (h : ary k ≠ -2) (h2 : ary k ≠ -1) : 0 ≤ ary k := by
  unfold ary at h h2 ⊢
  repeat' split
  all_goals first | omega | (split at h <;> omega)
theorem takes_kids {x : Nd} (h : takes x = true) : 0 ≤ x.kids := by
  unfold takes at h
  split at h
  · simp at h
  · split at h
    · simpa using h
    · rename_i h1 h2
      have := ary_pos h1 h2
      simp at h
      omega

/-- So many parts, one behind the other. -/
def shK (f : Nat → Rs (T × Nat)) : Nat → Nat → Rs (List T × Nat)
  | 0, i => .ok ([], i)
  | k + 1, i => match f i with
    | .error e => .error e
    | .ok q => match shK f k q.2 with
      | .error e => .error e
      | .ok r => .ok (q.1 :: r.1, r.2)
/-- The part at a node, and the place behind it; d more levels may be. -/
def shT (l : List Nd) : Nat → Nat → Rs (T × Nat)
  | 0, i => match l[i]? with
    | none => .error (18, i)
    | some x => if takes x then .error (16, i) else .error (18, i)
  | d + 1, i => match l[i]? with
    | none => .error (18, i)
    | some x => if takes x then (match shK (shT l d) x.kids.toNat (i + 1) with
        | .error e => .error e
        | .ok r => .ok (.nd x r.1, r.2)) else .error (18, i)
def shape (l : List Nd) : Rs T := match shT l 1024 0 with
  | .error e => .error e
  | .ok q => if q.2 = l.length then .ok q.1 else .error (18, q.2)

mutual
def wfC : T → Prop
  | .nd x ks => takes x = true ∧ x.kids = ks.length ∧ wfsC ks
def wfsC : List T → Prop
  | [] => True
  | t :: r => wfC t ∧ wfsC r
end
theorem wfsC_append : ∀ (a b : List T), wfsC (a ++ b) ↔ wfsC a ∧ wfsC b
  | [], b => by simp [wfsC]
  | t :: a, b => by simp [wfsC, wfsC_append a b, and_assoc]

theorem shK_ok {l : List Nd} {d : Nat} {f : Nat → Rs (T × Nat)} (hf : ∀ i t j, f i = .ok (t, j) → l.drop i = flat t ++ l.drop j ∧ wfC t ∧ j = i + (flat t).length ∧ high t ≤ d) :
    ∀ (k i : Nat) (ts : List T) (j : Nat), shK f k i = .ok (ts, j) → l.drop i = flats ts ++ l.drop j ∧ wfsC ts ∧ j = i + (flats ts).length ∧ ts.length = k ∧ highs ts ≤ d
  | 0, i, ts, j, h => by
    simp only [shK] at h
    cases h
    simp [flats, wfsC, highs]
  | k + 1, i, ts, j, h => by
    rw [shK] at h
    cases hq : f i with
    | error e => rw [hq] at h; cases h
    | ok q =>
      rw [hq] at h
      cases hr : shK f k q.2 with
      | error e => simp only [hr] at h; cases h
      | ok r =>
        simp only [hr] at h
        cases h
        obtain ⟨a1, a2, a3, a4⟩ := hf i q.1 q.2 hq
        obtain ⟨b1, b2, b3, b4, b5⟩ := shK_ok hf k q.2 r.1 r.2 hr
        refine ⟨?_, ⟨a2, b2⟩, ?_, by simp [b4], ?_⟩
        · rw [a1, flats, List.append_assoc, ← b1]
        · rw [b3, a3, flats, List.length_append]; omega
        · rw [highs]; omega
theorem shT_ok {l : List Nd} : ∀ (d i : Nat) (t : T) (j : Nat), shT l d i = .ok (t, j) → l.drop i = flat t ++ l.drop j ∧ wfC t ∧ j = i + (flat t).length ∧ high t ≤ d
  | 0, i, t, j, h => by
    rw [shT] at h
    split at h
    · cases h
    · split at h <;> cases h
  | d + 1, i, t, j, h => by
    rw [shT] at h
    split at h
    · cases h
    · rename_i x hx
      split at h
      · rename_i htk
        cases hr : shK (shT l d) x.kids.toNat (i + 1) with
        | error e => simp only [hr] at h; cases h
        | ok r =>
          simp only [hr] at h
          cases h
          obtain ⟨b1, b2, b3, b4, b5⟩ := shK_ok (l := l) (d := d) (fun i t j => shT_ok d i t j) _ _ _ _ hr
          have hi : i < l.length := (List.getElem?_eq_some_iff.1 hx).1
          have hd : l.drop i = x :: l.drop (i + 1) := by rw [List.drop_eq_getElem_cons hi, (List.getElem?_eq_some_iff.1 hx).2]
          have := takes_kids htk
          refine ⟨?_, ⟨htk, by omega, b2⟩, ?_, by rw [high]; omega⟩
          · rw [hd, b1, flat]; rfl
          · rw [b3, flat, List.length_cons]; omega
      · cases h
mutual
theorem shT_flat {l : List Nd} : ∀ (t : T) (d i : Nat) (rest : List Nd), wfC t → high t ≤ d → l.drop i = flat t ++ rest → shT l d i = .ok (t, i + (flat t).length)
  | .nd x ks, 0, i, rest, hw, hh, hd => by simp [high] at hh
  | .nd x ks, d + 1, i, rest, hw, hh, hd => by
    rw [wfC] at hw
    rw [high] at hh
    have hx : l[i]? = some x := by
      have h := congrArg (fun m => m[0]?) hd
      simp only [List.getElem?_drop, flat, List.cons_append, Nat.add_zero, List.getElem?_cons_zero] at h
      exact h
    have hd1 : l.drop (i + 1) = flats ks ++ rest := by
      have h := congrArg (List.drop 1) hd
      rw [List.drop_drop] at h
      simpa [flat] using h
    rw [shT, hx]
    simp only [hw.1, if_true]
    have := shK_flat ks d (i + 1) rest hw.2.2 (by omega) hd1
    rw [hw.2.1, Int.toNat_natCast, this]
    simp only [flat, List.length_cons]
    rw [show i + 1 + (flats ks).length = i + ((flats ks).length + 1) by omega]
theorem shK_flat {l : List Nd} : ∀ (ts : List T) (d i : Nat) (rest : List Nd), wfsC ts → highs ts ≤ d → l.drop i = flats ts ++ rest → shK (shT l d) ts.length i = .ok (ts, i + (flats ts).length)
  | [], d, i, rest, hw, hh, hd => by simp [shK, flats]
  | t :: r, d, i, rest, hw, hh, hd => by
    rw [wfsC] at hw
    rw [highs] at hh
    rw [flats, List.append_assoc] at hd
    have h1 := shT_flat t d i _ hw.1 (by omega) hd
    have hd2 : l.drop (i + (flat t).length) = flats r ++ rest := by rw [← List.drop_drop, hd, List.drop_left]
    have h2 := shK_flat r d (i + (flat t).length) rest hw.2 (by omega) hd2
    rw [List.length_cons, shK, h1]
    simp only [h2]
    rw [flats, List.length_append]
    simp only [Nat.add_assoc]
end
theorem shape_flat {t : T} (hw : wfC t) (hh : high t ≤ 1024) : shape (flat t) = .ok t := by
  have := shT_flat (l := flat t) t 1024 0 [] hw hh (by simp)
  unfold shape
  rw [this]
  simp
theorem shape_ok {l : List Nd} {t : T} (h : shape l = .ok t) : l = flat t ∧ wfC t ∧ high t ≤ 1024 := by
  unfold shape at h
  cases hr : shT l 1024 0 with
  | error e => rw [hr] at h; cases h
  | ok q =>
    rw [hr] at h
    simp only at h
    split at h
    · rename_i he
      cases h
      obtain ⟨h1, h2, h3, h4⟩ := shT_ok 1024 0 q.1 q.2 hr
      refine ⟨?_, h2, h4⟩
      rw [he, List.drop_length, List.append_nil] at h1
      simpa using h1
    · cases h

/-- What is asked of a node ahead of its kids. -/
def ahd (nb : Nat) (x : Nd) (i : Nat) : Option (Int × Nat) :=
  if x.kind = 2 then (if 64 < x.s.size then some (10, i) else none)
  else if x.kind = 3 then (if x.n = 0 ∨ x.n = 1 then none else some (13, i))
  else if x.kind = 4 then (if 0 ≤ x.n ∧ x.n < nb then none else some (22, i))
  else if x.kind = 5 ∨ x.kind = 6 then (if goodB x.t && goodB x.u then (if sz (.tf (tyS x.t) (tyS x.u)) ≤ 64 then none else some (21, i)) else some (20, i))
  else if x.kind = 21 then (if goodB x.t then none else some (20, i))
  else if x.kind = 30 then (if goodB x.t && goodB x.u then (if cns (tyS x.t) (tyS x.u) then (if 1 ≤ x.n ∧ x.n ≤ 2147483647 then none else some (13, i)) else some (23, i)) else some (20, i))
  else none
/-- The binders around a node's kids, the nearest first. -/
def inn (x : Nd) (env : List Ty) : List Ty :=
  if x.kind = 5 then tyS x.t :: env else if x.kind = 6 then tyS x.t :: .tf (tyS x.t) (tyS x.u) :: env else env
def allT (t : Ty) (ts : List Ty) : Bool := ts.all fun a => decide (a = t)
def made (i : Nat) (t : Ty) : Rs Ty := if sz t ≤ 64 then .ok t else .error (21, i)
def opT (k : Int) : Ty × Ty := if k = 13 then (.tt, .tt) else if k = 14 ∨ k = 15 then (.ti, .tb) else if k = 17 then (.tt, .ti) else (.ti, .ti)
/-- A node's type, of its kids' types. -/
def rul (env : List Ty) (x : Nd) (i : Nat) (ts : List Ty) : Rs Ty :=
  if x.kind = 1 then .ok .ti else if x.kind = 2 then .ok .tt else if x.kind = 3 then .ok .tb
  else if x.kind = 4 then .ok (env[x.n.toNat]?.getD .tq)
  else if x.kind = 5 ∨ x.kind = 6 then (match ts with | [a] => if a = tyS x.u then .ok (.tf (tyS x.t) (tyS x.u)) else .error (23, i) | _ => .error (0, 0))
  else if x.kind = 7 then (match ts with | [.tf A B, a] => if a = A then .ok B else .error (23, i) | _ => .error (23, i))
  else if x.kind = 9 then (match ts with | [c, a, b] => if c = .tb then (if a = b then .ok a else .error (23, i)) else .error (23, i) | _ => .error (0, 0))
  else if x.kind = 18 then (match ts with | [a, b] => made i (.tp a b) | _ => .error (0, 0))
  else if x.kind = 19 then (match ts with | [.tp A _] => .ok A | _ => .error (23, i))
  else if x.kind = 20 then (match ts with | [.tp _ B] => .ok B | _ => .error (23, i))
  else if x.kind = 21 then (if allT (tyS x.t) ts then made i (.tl (tyS x.t)) else .error (23, i))
  else if x.kind = 22 then (match ts with | [.tl A] => .ok A | _ => .error (23, i))
  else if x.kind = 23 then (match ts with | [.tl A] => .ok (.tl A) | _ => .error (23, i))
  else if x.kind = 24 then (match ts with | [.tl _] => .ok .tb | _ => .error (23, i))
  else if x.kind = 25 then (match ts with | [a, .tl A] => if a = A then .ok (.tl A) else .error (23, i) | _ => .error (23, i))
  else if x.kind = 26 then (match ts with | [a] => made i (.tx a) | _ => .error (0, 0))
  else if x.kind = 27 then (match ts with | [.tx A] => .ok A | _ => .error (23, i))
  else if x.kind = 28 then (match ts with | [.tx A, a] => if a = A then .ok a else .error (23, i) | _ => .error (23, i))
  else if x.kind = 30 then (match ts with | [a] => if a = tyS x.t then .ok (tyS x.u) else .error (23, i) | _ => .error (0, 0))
  else (if allT (opT x.kind).1 ts then .ok (opT x.kind).2 else .error (23, i))
mutual
/-- The type of a part, or the first refusal. -/
def tyT (env : List Ty) : T → Nat → Rs Ty
  | .nd x ks, i => match ahd env.length x i with
    | some e => .error e
    | none => if x.kind = 8 then tyB env ks (i + 1)
      else match tyL (inn x env) ks (i + 1) with
        | .error e => .error e
        | .ok ts => rul env x i ts
def tyB (env : List Ty) : List T → Nat → Rs Ty
  | [], _ => .error (0, 0)
  | a :: r, i => match tyT env a i with
    | .error e => .error e
    | .ok s => tyC (s :: env) r (i + (flat a).length)
def tyC (env : List Ty) : List T → Nat → Rs Ty
  | [], _ => .error (0, 0)
  | b :: _, i => tyT env b i
def tyL (env : List Ty) : List T → Nat → Rs (List Ty)
  | [], _ => .ok []
  | t :: r, i => match tyT env t i with
    | .error e => .error e
    | .ok a => match tyL env r (i + (flat t).length) with
      | .error e => .error e
      | .ok b => .ok (a :: b)
end
def check (l : List Nd) : Rs Ty := if 16384 < l.length then .error (17, 0) else match shape l with
  | .error e => .error e
  | .ok t => tyT [] t 0

/-- No binder's type is too large. -/
def EnvOk (env : List Ty) : Prop := ∀ t ∈ env, sz t ≤ 64
theorem made_len {i : Nat} {t u : Ty} (h : made i t = .ok u) : sz u ≤ 64 := by
  unfold made at h
  split at h
  · rename_i hz; cases h; exact hz
  · cases h
theorem inn_ok {env : List Ty} {x : Nd} {i nb : Nat} (h : EnvOk env) (ha : ahd nb x i = none) : EnvOk (inn x env) := by
  unfold inn
  have key : x.kind = 5 ∨ x.kind = 6 → sz (tyS x.t) ≤ 64 ∧ sz (.tf (tyS x.t) (tyS x.u)) ≤ 64 := by
    intro hk
    unfold ahd at ha
    rw [if_neg (by omega), if_neg (by omega), if_neg (by omega), if_pos hk] at ha
    split at ha
    · split at ha
      · rename_i h1 h2; simp [sz, enc] at h2 ⊢; omega
      · cases ha
    · cases ha
  split
  · rename_i h5
    intro t ht
    rcases List.mem_cons.1 ht with rfl | ht
    · exact (key (.inl h5)).1
    · exact h t ht
  · split
    · rename_i h6
      intro t ht
      rcases List.mem_cons.1 ht with rfl | ht
      · exact (key (.inr h6)).1
      · rcases List.mem_cons.1 ht with rfl | ht
        · exact (key (.inr h6)).2
        · exact h t ht
    · exact h
theorem ahd_good {nb : Nat} {x : Nd} {i : Nat} (h : ahd nb x i = none) : (x.kind = 5 ∨ x.kind = 6 → goodB x.t = true ∧ goodB x.u = true ∧ sz (.tf (tyS x.t) (tyS x.u)) ≤ 64) ∧ (x.kind = 21 → goodB x.t = true) ∧ (x.kind = 30 → goodB x.t = true ∧ goodB x.u = true) ∧ (x.kind = 4 → 0 ≤ x.n ∧ x.n < nb) := by
  unfold ahd at h
  refine ⟨fun hk => ?_, fun hk => ?_, fun hk => ?_, fun hk => ?_⟩
  · rw [if_neg (by omega), if_neg (by omega), if_neg (by omega), if_pos hk] at h
    split at h
    · rename_i hg
      simp at hg
      split at h
      · exact ⟨hg.1, hg.2, by assumption⟩
      · cases h
    · cases h
  · rw [if_neg (by omega), if_neg (by omega), if_neg (by omega), if_neg (by omega), if_pos hk] at h
    split at h
    · assumption
    · cases h
  · rw [if_neg (by omega), if_neg (by omega), if_neg (by omega), if_neg (by omega), if_neg (by omega), if_pos hk] at h
    split at h
    · rename_i hg; simpa using hg
    · cases h
  · rw [if_neg (by omega), if_neg (by omega), if_pos hk] at h
    split at h
    · assumption
    · cases h
theorem rul_len {env : List Ty} {x : Nd} {i : Nat} {ts : List Ty} {t : Ty} (hE : EnvOk env) (ha : ahd env.length x i = none) (hs : ∀ a ∈ ts, sz a ≤ 64) (h : rul env x i ts = .ok t) : sz t ≤ 64 := by
  obtain ⟨a1, a2, a3, a4⟩ := ahd_good ha
  unfold rul at h
  by_cases hk1 : x.kind = 1
  · rw [if_pos hk1] at h
    cases h; decide
  rw [if_neg hk1] at h
  by_cases hk2 : x.kind = 2
  · rw [if_pos hk2] at h
    cases h; decide
  rw [if_neg hk2] at h
  by_cases hk3 : x.kind = 3
  · rw [if_pos hk3] at h
    cases h; decide
  rw [if_neg hk3] at h
  by_cases hk4 : x.kind = 4
  · rw [if_pos hk4] at h
    cases h
    obtain ⟨h0, h1⟩ := a4 hk4
    have : x.n.toNat < env.length := by omega
    rw [List.getElem?_eq_getElem this]
    exact hE _ (List.getElem_mem _)
  rw [if_neg hk4] at h
  by_cases hk5 : x.kind = 5 ∨ x.kind = 6
  · rw [if_pos hk5] at h
    have h5 := hk5
    split at h
    · split at h
      · cases h; exact (a1 h5).2.2
      · cases h
    · cases h
  rw [if_neg hk5] at h
  by_cases hk6 : x.kind = 7
  · rw [if_pos hk6] at h
    split at h
    · rename_i A B a
      split at h
      · cases h
        have := hs _ (List.mem_cons_self)
        simp [sz, enc] at this ⊢; omega
      · cases h
    · cases h
  rw [if_neg hk6] at h
  by_cases hk7 : x.kind = 9
  · rw [if_pos hk7] at h
    split at h
    · split at h
      · split at h
        · cases h; exact hs _ (by simp)
        · cases h
      · cases h
    · cases h
  rw [if_neg hk7] at h
  by_cases hk8 : x.kind = 18
  · rw [if_pos hk8] at h
    split at h
    · exact made_len h
    · cases h
  rw [if_neg hk8] at h
  by_cases hk9 : x.kind = 19
  · rw [if_pos hk9] at h
    split at h
    · cases h
      have := hs _ (List.mem_cons_self)
      simp [sz, enc] at this ⊢; omega
    · cases h
  rw [if_neg hk9] at h
  by_cases hk10 : x.kind = 20
  · rw [if_pos hk10] at h
    split at h
    · cases h
      have := hs _ (List.mem_cons_self)
      simp [sz, enc] at this ⊢; omega
    · cases h
  rw [if_neg hk10] at h
  by_cases hk11 : x.kind = 21
  · rw [if_pos hk11] at h
    split at h
    · exact made_len h
    · cases h
  rw [if_neg hk11] at h
  by_cases hk12 : x.kind = 22
  · rw [if_pos hk12] at h
    split at h
    · cases h
      have := hs _ (List.mem_cons_self)
      simp [sz, enc] at this ⊢; omega
    · cases h
  rw [if_neg hk12] at h
  by_cases hk13 : x.kind = 23
  · rw [if_pos hk13] at h
    split at h
    · cases h; exact hs _ (List.mem_cons_self)
    · cases h
  rw [if_neg hk13] at h
  by_cases hk14 : x.kind = 24
  · rw [if_pos hk14] at h
    split at h
    · cases h; decide
    · cases h
  rw [if_neg hk14] at h
  by_cases hk15 : x.kind = 25
  · rw [if_pos hk15] at h
    split at h
    · split at h
      · cases h; exact hs _ (by simp)
      · cases h
    · cases h
  rw [if_neg hk15] at h
  by_cases hk16 : x.kind = 26
  · rw [if_pos hk16] at h
    split at h
    · exact made_len h
    · cases h
  rw [if_neg hk16] at h
  by_cases hk17 : x.kind = 27
  · rw [if_pos hk17] at h
    split at h
    · cases h
      have := hs _ (List.mem_cons_self)
      simp [sz, enc] at this ⊢; omega
    · cases h
  rw [if_neg hk17] at h
  by_cases hk18 : x.kind = 28
  · rw [if_pos hk18] at h
    split at h
    · split at h
      · cases h; exact hs _ (by simp)
      · cases h
    · cases h
  rw [if_neg hk18] at h
  by_cases hk19 : x.kind = 30
  · rw [if_pos hk19] at h
    have h30 := hk19
    split at h
    · split at h
      · cases h; exact (good_enc (a3 h30).2).2
      · cases h
    · cases h
  · rw [if_neg hk19] at h
    split at h
    · cases h
      unfold opT
      repeat' split
      all_goals decide
    · cases h
mutual
theorem tyT_len : ∀ (t : T) (env : List Ty) (i : Nat) (τ : Ty), EnvOk env → tyT env t i = .ok τ → sz τ ≤ 64
  | .nd x ks, env, i, τ, hE, h => by
    rw [tyT] at h
    split at h
    · cases h
    · rename_i ha
      split at h
      · exact tyB_len ks env (i + 1) τ hE h
      · split at h
        · cases h
        · rename_i ts hts
          exact rul_len hE ha (tyL_len ks _ _ _ (inn_ok hE ha) hts) h
theorem tyB_len : ∀ (ts : List T) (env : List Ty) (i : Nat) (τ : Ty), EnvOk env → tyB env ts i = .ok τ → sz τ ≤ 64
  | [], env, i, τ, hE, h => by rw [tyB] at h; cases h
  | a :: r, env, i, τ, hE, h => by
    rw [tyB] at h
    split at h
    · cases h
    · rename_i s hs
      exact tyC_len r _ _ τ (fun t ht => by rcases List.mem_cons.1 ht with rfl | ht; exact tyT_len a env i _ hE hs; exact hE t ht) h
theorem tyC_len : ∀ (ts : List T) (env : List Ty) (i : Nat) (τ : Ty), EnvOk env → tyC env ts i = .ok τ → sz τ ≤ 64
  | [], env, i, τ, hE, h => by rw [tyC] at h; cases h
  | b :: r, env, i, τ, hE, h => by rw [tyC] at h; exact tyT_len b env i τ hE h
theorem tyL_len : ∀ (ts : List T) (env : List Ty) (i : Nat) (us : List Ty), EnvOk env → tyL env ts i = .ok us → ∀ a ∈ us, sz a ≤ 64
  | [], env, i, us, hE, h => by rw [tyL] at h; cases h; simp
  | t :: r, env, i, us, hE, h => by
    rw [tyL] at h
    split at h
    · cases h
    · rename_i a ha
      split at h
      · cases h
      · rename_i b hb
        cases h
        intro c hc
        rcases List.mem_cons.1 hc with rfl | hc
        · exact tyT_len t env i _ hE ha
        · exact tyL_len r env _ b hE hb c hc
end
end Co
end Go.Proofs.Ytnhihajhhlilfaa
