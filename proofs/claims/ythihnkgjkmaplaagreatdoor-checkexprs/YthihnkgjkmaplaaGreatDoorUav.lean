/- Package check: no type is too large. The document's rules, as plain functions; consistent may be read as the same. The document's reckoning is the rules' own, where consistent is read as it stands. The document's reckoning of a tree is the rules' own. The document's reckoning: kid by kid; how many types; none too large. The document's rules: how they end. The document's rules: Pair, Box, First, Second. -/
import Derived.Test.YthihnkgjkmaplaaGreatDoorUau
import Derived.Test.YthihnkgjkmaplaaGreatDoorUan
import Derived.Test.YthihnkgjkmaplaaGreatDoorUaf
import Derived.BigQuiet
import Derived.StillTailTactics
namespace Go.Proofs.YthihnkgjkmaplaaGreatDoor
open Go.RowKit Ck
open T3.Tp (Ty enc cns met)
open Tr (flat flats)
set_option maxRecDepth 100000
set_option linter.unusedSimpArgs false

/-- No type of an environment is too large. -/
def EnvOk (env : Env) : Prop := ∀ n t, Ck.look env n = some t → (enc t).length ≤ 64
theorem EnvOk.cons {env : Env} (h : EnvOk env) {n : List UInt8} {t : Ty} (ht : (enc t).length ≤ 64) : EnvOk ((n, t) :: env) := by
  intro m u hu
  simp only [Ck.look] at hu
  split at hu
  · cases hu; exact ht
  · exact h m u hu
theorem made_len {i : Nat} {t u : Ty} (h : made i t = .ok u) : (enc u).length ≤ 64 := by
  unfold made at h
  split at h
  · rename_i hz; cases h; exact hz
  · cases h
theorem mt_len {t A B : Ty} {h : UInt8} (e : Ck.mt t h = some (A, B)) (ht : (enc t).length ≤ 64) : (enc A).length ≤ 64 ∧ (enc B).length ≤ 64 ∧ (h = 108 → (enc (.tl A)).length ≤ 64) := by
  cases t with
  | ti | tb | tt => simp [Ck.mt] at e
  | tq => simp [Ck.mt] at e; obtain ⟨rfl, rfl⟩ := e; exact ⟨by decide, by decide, fun _ => by decide⟩
  | tl a =>
    simp only [Ck.mt] at e
    split at e
    · cases e; simp [T3.Tp.enc] at ht ⊢; omega
    · cases e
  | tx a =>
    simp only [Ck.mt] at e
    split at e
    · cases e; rename_i hh; simp [T3.Tp.enc] at ht ⊢; exact ⟨by omega, fun h' => by rw [hh] at h'; cases h'⟩
    · cases e
  | tf a b | tp a b =>
    simp only [Ck.mt] at e
    split at e
    · cases e; rename_i hh; simp [T3.Tp.enc] at ht ⊢; exact ⟨by omega, by omega, fun h' => by rw [hh] at h'; cases h'⟩
    · cases e
theorem use_len {kid g : Nat} {h : UInt8} {ks : List (Nat × Ty)} {t : Ty} (hk : ∀ k ∈ ks, (enc k.2).length ≤ 64) (hg : g = 2 → h = 108) (e : use (kid, h, g) ks = .ok t) : (enc t).length ≤ 64 := by
  unfold use at e
  split at e
  · cases e
  · rename_i p s hs
    split at e
    · cases e
    · rename_i A B hm
      split at e
      · cases e
      · cases e
        obtain ⟨h1, h2, h3⟩ := mt_len hm (hk _ (List.mem_of_getElem? hs))
        unfold giv
        split
        · exact h1
        · split
          · exact h2
          · split
            · rename_i hg2; exact h3 (hg hg2)
            · simp [T3.Tp.enc]
theorem rule_len {env : Env} {x : Tr.Nd} {κ i : Nat} {ks : List (Nat × Ty)} {t : Ty} (hN : Nod x κ) (hE : EnvOk env) (hk : ∀ k ∈ ks, (enc k.2).length ≤ 64) (ha : Ck.ahead x = false) (e : Ck.rule env x i ks = .ok t) : (enc t).length ≤ 64 := by
  have hκ := hN.kind
  unfold Ck.rule at e
  split at e
  · split at e
    · cases e
    · rename_i u hu; cases e; exact hE _ _ hu
  split at e
  · rename_i h56
    split at e
    · split at e
      · cases e
        unfold Ck.ahead at ha
        have e1 : (x.kind == 5 || x.kind == 6) = true := by rcases h56 with h | h <;> rw [h] <;> rfl
        rw [e1] at ha
        simp only [Bool.true_and, decide_eq_false_iff_not] at ha
        show (enc _).length ≤ 64
        have : ¬ 64 < (enc (.tf (wr x.t) (wr x.u))).length := ha
        omega
      · cases e
    · cases e
  split at e
  · split at e
    · split at e
      · cases e; exact hk _ (by simp)
      · cases e
    · cases e
  split at e
  · rename_i h29
    split at e
    · split at e
      · cases e; exact (wr_typ (hN.a (by omega))).2
      · cases e
    · cases e
  split at e
  · split at e
    · split at e
      · exact meetK_len e
      · cases e
    · cases e
  split at e
  · split at e
    · exact made_len e
    · cases e
  split at e
  · split at e
    · exact made_len e
    · cases e
  split at e
  · split at e
    · cases e
    · exact made_len e
  split at e
  · rename_i u hu
    obtain ⟨kid, h, g⟩ := u
    refine use_len hk ?_ e
    intro hg
    unfold useT at hu
    repeat' split at hu
    all_goals first | (cases hu; done) | (cases hu; first | rfl | (simp at hg))
  · unfold opr at e
    split at e
    · cases e
    · cases e
      unfold opT
      repeat' split
      all_goals decide
theorem inner_ok {env : Env} {x : Tr.Nd} {κ : Nat} (hN : Nod x κ) (hE : EnvOk env) (ha : Ck.ahead x = false) (j : Nat) : EnvOk (Ck.inner x j env) := by
  have hκ := hN.kind
  unfold Ck.inner
  by_cases h5 : x.kind = 5
  · rw [if_pos h5]; exact hE.cons (wr_note (hN.t (by omega))).2
  rw [if_neg h5]
  by_cases h6 : x.kind = 6
  · rw [if_pos h6]
    refine EnvOk.cons (hE.cons ?_) (wr_note (hN.t (by omega))).2
    unfold Ck.ahead at ha
    have e1 : (x.kind == 5 || x.kind == 6) = true := by rw [h6]; rfl
    rw [e1] at ha
    simp only [Bool.true_and, decide_eq_false_iff_not] at ha
    have : ¬ 64 < (enc (.tf (wr x.t) (wr x.u))).length := ha
    omega
  rw [if_neg h6]
  split
  · rename_i h8; exact hE.cons (wr_note (hN.t (by omega))).2
  · exact hE
end Go.Proofs.YthihnkgjkmaplaaGreatDoor
namespace Go.Proofs.YthihnkgjkmaplaaGreatDoor
open Ck
open T3.Tp (Ty enc cns met)
open Tr (T Nd nm)
set_option maxRecDepth 100000
set_option linter.unusedSimpArgs false

def othersS (sm : Bool) (A : Ty) (kid : Nat) : Nat → List (Nat × Ty) → Rs Unit
  | _, [] => .ok ()
  | j, (p, t) :: r => if j = kid then othersS sm A kid (j + 1) r else if cn sm t A then othersS sm A kid (j + 1) r else .error (23, p)
def useS (sm : Bool) (u : Nat × UInt8 × Nat) (ks : List (Nat × Ty)) : Rs Ty :=
  match ks[u.1]? with
  | none => .error (0, 0)
  | some (p, t) => match mt t u.2.1 with
    | none => .error (24, p)
    | some (A, B) => match othersS sm A u.1 0 ks with
      | .error e => .error e
      | .ok _ => .ok (giv u.2.2 A B)
def oprS (sm : Bool) (o : Ty × Ty) (ks : List (Nat × Ty)) : Rs Ty := match asksS sm o.1 ks with
  | .error e => .error e
  | .ok _ => .ok o.2
/-- What the document's rule answers: a type's size is asked behind it. -/
def ruleD (sm : Bool) (env : Env) (x : Nd) (i : Nat) (ks : List (Nat × Ty)) : Rs Ty :=
  if x.kind = 4 then (match Ck.look env (nm x) with | none => .error (22, i) | some t => .ok t)
  else if x.kind = 5 ∨ x.kind = 6 then (match ks with | k :: _ => if cn sm k.2 (wr x.u) then .ok (.tf (wr x.t) (wr x.u)) else .error (23, k.1) | [] => .error (0, 0))
  else if x.kind = 8 then (match ks with | k :: b :: _ => if cn sm k.2 (wr x.t) then .ok b.2 else .error (23, k.1) | _ => .error (0, 0))
  else if x.kind = 29 then (match ks with | k :: _ => if cn sm k.2 (wr x.t) then .ok (wr x.t) else .error (23, i) | [] => .error (0, 0))
  else if x.kind = 9 then (match ks with | c :: a :: b :: _ => if cn sm c.2 .tb then meetsS sm i a.2 [b] else .error (23, c.1) | _ => .error (0, 0))
  else if x.kind = 18 then (match ks with | a :: b :: _ => .ok (.tp a.2 b.2) | _ => .error (0, 0))
  else if x.kind = 26 then (match ks with | a :: _ => .ok (.tx a.2) | _ => .error (0, 0))
  else if x.kind = 21 then (match ks with | [] => .ok (.tl .tq) | k :: r => match meetsS sm i k.2 r with | .error e => .error e | .ok t => .ok (.tl t))
  else match useT x.kind with
    | some u => useS sm u ks
    | none => oprS sm (opT x.kind) ks
mutual
/-- The types of a part's nodes, or the first refusal, as the document reckons them. -/
def kdT (sm : Bool) (env : Env) : T → Nat → Rs (List Ty)
  | .nd x ks, i => if Ck.ahead x then .error (21, i) else
    match kdL sm env x 0 ks (i + 1) with
    | .error e => .error e
    | .ok rs => match ruleD sm env x i (rs.map fun r => (r.1, r.2.headD .tq)) with
      | .error e => .error e
      | .ok t => match made i t with
        | .error e => .error e
        | .ok t => .ok (t :: (rs.map Prod.snd).flatten)
def kdL (sm : Bool) (env : Env) (x : Nd) (j : Nat) : List T → Nat → Rs (List (Nat × List Ty))
  | [], _ => .ok []
  | t :: r, i => match kdT sm (Ck.inner x j env) t i with
    | .error e => .error e
    | .ok a => match kdL sm env x (j + 1) r (i + (Tr.flat t).length) with
      | .error e => .error e
      | .ok b => .ok ((i, a) :: b)
end
/-- How the document's rule ends. -/
def KrEnd (w : World) (cb tb n : Nat) (nV : Value) (a0 : Int) (sm : Bool) (R : Rs Ty) (en : Ending) (w' : World) : Prop := Two cb cb w w' ∧ KC w' cb tb n nV (cdE R) (cdA a0 R) sm ∧ ∃ s, en = .returned (.string s) ∧ ∀ t, R = .ok t → s = S (enc t)
end Go.Proofs.YthihnkgjkmaplaaGreatDoor
namespace Go.Proofs.YthihnkgjkmaplaaGreatDoor
open Ck
open T3.Tp (Ty enc cns met)
open Tr (T Nd nm flat flats)
set_option maxRecDepth 100000
set_option linter.unusedSimpArgs false

theorem cn_f (a b : Ty) : cn false a b = cns a b := by simp [cn]
theorem asksS_f (u : Ty) : ∀ ks, asksS false u ks = asks u ks
  | [] => rfl
  | (p, t) :: r => by rw [asksS, asks, cn_f, asksS_f u r]
theorem meetsS_f (i : Nat) : ∀ (ks : List (Nat × Ty)) (a : Ty), meetsS false i a ks = meets i a ks
  | [], a => rfl
  | k :: r, a => by
    rw [meetsS, meets]
    unfold meetKS meetK
    rw [cn_f]
    split <;> rename_i h <;> rw [h]
    exact meetsS_f i r _
theorem othersS_f (A : Ty) (kid : Nat) : ∀ (ks : List (Nat × Ty)) (j : Nat), othersS false A kid j ks = others A kid j ks
  | [], j => rfl
  | (p, t) :: r, j => by rw [othersS, others, cn_f, othersS_f A kid r]
theorem useS_f (u : Nat × UInt8 × Nat) (ks : List (Nat × Ty)) : useS false u ks = use u ks := by
  unfold useS use
  cases ks[u.1]? with
  | none => rfl
  | some p =>
    obtain ⟨p, t⟩ := p
    show (match mt t u.2.1 with | none => _ | some (A, B) => _) = _
    cases h : mt t u.2.1 with
    | none => simp only [h]
    | some q =>
      obtain ⟨A, B⟩ := q
      simp only [h, othersS_f]
      cases others A u.1 0 ks <;> rfl
theorem oprS_f (o : Ty × Ty) (ks : List (Nat × Ty)) : oprS false o ks = opr o ks := by
  unfold oprS opr
  rw [asksS_f]
  cases asks o.1 ks <;> rfl
theorem made_ok {i : Nat} {t : Ty} (h : (enc t).length ≤ 64) : made i t = .ok t := by unfold made; rw [if_pos h]
theorem met_q (a : Ty) : met .tq a = a := by cases a <;> rfl
theorem cns_q (a : Ty) : cns .tq a = true := by cases a <;> rfl
/-- A rule and the size behind it. -/
def thenM (i : Nat) (R : Rs Ty) : Rs Ty := match R with
  | .error e => .error e
  | .ok t => made i t
theorem thenM_len {i : Nat} {R : Rs Ty} (h : ∀ t, R = .ok t → (enc t).length ≤ 64) : thenM i R = R := by
  cases R with
  | error e => rfl
  | ok t => exact made_ok (h t rfl)
theorem ruleD_f {env : Env} {x : Nd} {κ i : Nat} {ks : List (Nat × Ty)} (hN : Nod x κ) (hE : EnvOk env) (hk : ∀ k ∈ ks, (enc k.2).length ≤ 64) (ha : Ck.ahead x = false) : thenM i (ruleD false env x i ks) = Ck.rule env x i ks := by
  by_cases h18 : x.kind = 18
  · unfold ruleD Ck.rule
    simp only [h18]
    rcases ks with _ | ⟨a, _ | ⟨b, r⟩⟩ <;> simp [thenM]
  by_cases h26 : x.kind = 26
  · unfold ruleD Ck.rule
    simp only [h26]
    rcases ks with _ | ⟨a, r⟩ <;> simp [thenM]
  by_cases h21 : x.kind = 21
  · unfold ruleD Ck.rule
    simp only [h21]
    rcases ks with _ | ⟨k, r⟩
    · simp [thenM, meets]
    · have hk0 := hk k (by simp)
      have e1 : meets i .tq (k :: r) = meets i k.2 r := by
        rw [meets]
        unfold meetK
        rw [cns_q, met_q, if_pos rfl, if_pos hk0]
      simp only [e1, meetsS_f]
      simp [thenM]
      cases meets i k.2 r <;> rfl
  have e : ruleD false env x i ks = Ck.rule env x i ks := by
    unfold ruleD Ck.rule
    simp only [cn_f, h18, h26, h21, if_false, useS_f, oprS_f]
    by_cases h9 : x.kind = 9
    · simp only [h9]
      rcases ks with _ | ⟨c, _ | ⟨a, _ | ⟨b, r⟩⟩⟩ <;> simp
      rw [meetsS_f, meets]
      split
      · cases meetK i a.2 b <;> rfl
      · rfl
    · simp only [h9, if_false]
      rcases ks with _ | ⟨k, _ | ⟨b, r⟩⟩ <;> cases Ck.look env (nm x) <;> cases useT x.kind <;> rfl
  rw [e]
  exact thenM_len fun t h => rule_len hN hE hk ha h
end Go.Proofs.YthihnkgjkmaplaaGreatDoor
namespace Go.Proofs.YthihnkgjkmaplaaGreatDoor
open Ck
open T3.Tp (Ty enc cns met)
open Tr (T Nd nm flat flats)
set_option maxRecDepth 100000
set_option linter.unusedSimpArgs false

theorem headD_len {ts : List Ty} (h : ∀ a ∈ ts, (enc a).length ≤ 64) : (enc (ts.headD .tq)).length ≤ 64 := by
  cases ts with
  | nil => decide
  | cons a r => exact h a (by simp)
mutual
theorem kdT_f : ∀ (t : T) (env : Env) (i : Nat), (∀ x ∈ flat t, Tr.mayB x = true) → EnvOk env → kdT false env t i = ckT env t i ∧ ∀ ts, ckT env t i = .ok ts → ∀ a ∈ ts, (enc a).length ≤ 64
  | .nd x ks, env, i, hm, hE => by
    obtain ⟨κ, hN⟩ := nod_of (hm x (by simp [flat]))
    rw [kdT, ckT]
    cases ha : Ck.ahead x with
    | true => simp
    | false =>
      obtain ⟨h1, h2⟩ := kdL_f ks env x 0 (i + 1) (fun y hy => hm y (by simp [flat, hy])) (fun j => inner_ok hN hE ha j)
      rw [h1]
      cases hL : ckL env x 0 ks (i + 1) with
      | error e => simp
      | ok rs =>
        have h3 := h2 rs hL
        have hk : ∀ k ∈ (rs.map fun r => (r.1, r.2.headD .tq)), (enc k.2).length ≤ 64 := by
          intro k hk
          obtain ⟨r, hr, rfl⟩ := List.mem_map.1 hk
          exact headD_len (h3 r hr)
        have hr := ruleD_f (i := i) hN hE hk ha
        have hrl := fun t (e : Ck.rule env x i (rs.map fun r => (r.1, r.2.headD .tq)) = .ok t) => rule_len hN hE hk ha e
        simp only [if_false, Bool.false_eq_true]
        generalize (rs.map fun r => (r.1, r.2.headD .tq)) = kk at *
        rw [← hr] at hrl ⊢
        cases hD : ruleD false env x i kk with
        | error e => exact ⟨rfl, fun ts h => by cases h⟩
        | ok t =>
          rw [hD] at hrl
          simp only [thenM] at hrl ⊢
          cases hM : made i t with
          | error e => exact ⟨rfl, fun ts h => by cases h⟩
          | ok u =>
            refine ⟨rfl, fun ts h => ?_⟩
            cases h
            intro a ha
            rcases List.mem_cons.1 ha with rfl | ha
            · exact hrl _ hM
            · obtain ⟨l, hl, hal⟩ := List.mem_flatten.1 ha
              obtain ⟨r, hr2, rfl⟩ := List.mem_map.1 hl
              exact h3 r hr2 a hal
theorem kdL_f : ∀ (ks : List T) (env : Env) (x : Nd) (j i : Nat), (∀ y ∈ flats ks, Tr.mayB y = true) → (∀ j, EnvOk (Ck.inner x j env)) → kdL false env x j ks i = ckL env x j ks i ∧ ∀ rs, ckL env x j ks i = .ok rs → ∀ r ∈ rs, ∀ a ∈ r.2, (enc a).length ≤ 64
  | [], env, x, j, i, hm, hE => by
    rw [kdL, ckL]
    refine ⟨rfl, fun rs h => ?_⟩
    cases h
    simp
  | t :: r, env, x, j, i, hm, hE => by
    obtain ⟨h1, h2⟩ := kdT_f t (Ck.inner x j env) i (fun y hy => hm y (by simp [flats, hy])) (hE j)
    obtain ⟨h3, h4⟩ := kdL_f r env x (j + 1) (i + (flat t).length) (fun y hy => hm y (by simp [flats, hy])) hE
    rw [kdL, ckL, h1, h3]
    cases hT : ckT (Ck.inner x j env) t i with
    | error e => exact ⟨rfl, fun rs h => by cases h⟩
    | ok a =>
      cases hL : ckL env x (j + 1) r (i + (flat t).length) with
      | error e => exact ⟨rfl, fun rs h => by cases h⟩
      | ok b =>
        refine ⟨rfl, fun rs h => ?_⟩
        cases h
        intro q hq
        rcases List.mem_cons.1 hq with rfl | hq
        · exact h2 _ hT
        · exact h4 _ hL q hq
end
end Go.Proofs.YthihnkgjkmaplaaGreatDoor
namespace Go.Proofs.YthihnkgjkmaplaaGreatDoor
open Ck
open T3.Tp (Ty enc cns met)
open Tr (T Nd nm flat flats)
set_option maxRecDepth 100000
set_option linter.unusedSimpArgs false

def addD (rs : List (Nat × List Ty)) : Rs (List (Nat × List Ty)) → Rs (List (Nat × List Ty))
  | .error e => .error e
  | .ok b => .ok (rs ++ b)
theorem addD_nil (r : Rs (List (Nat × List Ty))) : addD [] r = r := by cases r <;> rfl
theorem addD_ok {sm : Bool} {env : Env} {x : Nd} {j i : Nat} {t : T} {r : List T} {rs : List (Nat × List Ty)} {a : List Ty} (h : kdT sm (Ck.inner x j env) t i = .ok a) : addD rs (kdL sm env x j (t :: r) i) = addD (rs ++ [(i, a)]) (kdL sm env x (j + 1) r (i + (flat t).length)) := by
  rw [kdL, h]
  cases kdL sm env x (j + 1) r (i + (flat t).length) with
  | error e => rfl
  | ok b => simp [addD]
theorem addD_err {sm : Bool} {env : Env} {x : Nd} {j i : Nat} {t : T} {r : List T} {rs : List (Nat × List Ty)} {e : Int × Nat} (h : kdT sm (Ck.inner x j env) t i = .error e) : addD rs (kdL sm env x j (t :: r) i) = .error e := by
  rw [kdL, h]; rfl
theorem addD_end {sm : Bool} {env : Env} {x : Nd} {j i : Nat} {rs : List (Nat × List Ty)} : addD rs (kdL sm env x j [] i) = .ok rs := by simp [kdL, addD]
mutual
theorem kdT_len {sm : Bool} : ∀ (t : T) (env : Env) (i : Nat) (ts : List Ty), kdT sm env t i = .ok ts → ts.length = (flat t).length ∧ ∀ a ∈ ts, (enc a).length ≤ 64
  | .nd x ks, env, i, ts, h => by
    rw [kdT] at h
    split at h
    · cases h
    · cases hL : kdL sm env x 0 ks (i + 1) with
      | error e => rw [hL] at h; cases h
      | ok rs =>
        rw [hL] at h
        simp only at h
        obtain ⟨h1, h2⟩ := kdL_len ks env x 0 (i + 1) rs hL
        split at h
        · cases h
        · rename_i u hu
          cases hM : made i u with
          | error e => rw [hM] at h; cases h
          | ok v =>
            rw [hM] at h
            cases h
            refine ⟨by rw [flat, List.length_cons, List.length_cons, h1], fun a ha => ?_⟩
            rcases List.mem_cons.1 ha with rfl | ha
            · exact made_len hM
            · exact h2 a ha
theorem kdL_len {sm : Bool} : ∀ (ks : List T) (env : Env) (x : Nd) (j i : Nat) (rs : List (Nat × List Ty)), kdL sm env x j ks i = .ok rs → (rs.map Prod.snd).flatten.length = (flats ks).length ∧ ∀ a ∈ (rs.map Prod.snd).flatten, (enc a).length ≤ 64
  | [], env, x, j, i, rs, h => by
    rw [kdL] at h
    cases h
    simp [flats]
  | t :: r, env, x, j, i, rs, h => by
    rw [kdL] at h
    cases hT : kdT sm (Ck.inner x j env) t i with
    | error e => rw [hT] at h; cases h
    | ok a =>
      rw [hT] at h
      cases hL : kdL sm env x (j + 1) r (i + (flat t).length) with
      | error e => rw [hL] at h; cases h
      | ok b =>
        rw [hL] at h
        cases h
        obtain ⟨a1, a2⟩ := kdT_len t _ _ a hT
        obtain ⟨b1, b2⟩ := kdL_len r _ _ _ _ b hL
        refine ⟨by simp only [List.map_cons, List.flatten_cons, List.length_append, flats, a1, b1], fun u hu => ?_⟩
        simp only [List.map_cons, List.flatten_cons, List.mem_append] at hu
        rcases hu with hu | hu
        · exact a2 u hu
        · exact b2 u hu
end
end Go.Proofs.YthihnkgjkmaplaaGreatDoor
namespace Go.Proofs.YthihnkgjkmaplaaGreatDoor
open Go.RowKit Ck
open T3.Tp (Ty enc cns met)
open Tr (T Nd nm)
set_option maxRecDepth 100000
set_option linter.unusedSimpArgs false
set_option linter.unusedVariables false

abbrev ndA8 (x : Tr.Nd) : Array Value := #[.int .i8 x.kind, .int .i64 x.kids, .int .i64 x.n, .string x.s, .string x.t, .string x.u, .int .i64 x.ln, .int .i64 x.co]
theorem KrEnd.ok {w w' : World} {cb tb n : Nat} {nV : Value} {a0 : Int} {sm : Bool} {R : Rs Ty} {t : Ty} {s : ByteArray} (hT : Two cb cb w w') (hC : KC w' cb tb n nV 0 a0 sm) (hR : R = .ok t) (hs : s = S (enc t)) : KrEnd w cb tb n nV a0 sm R (.returned (.string s)) w' := by
  subst hR
  exact ⟨hT, hC, s, rfl, fun u h => by cases h; exact hs⟩
theorem KrEnd.bad {w w' : World} {cb tb n : Nat} {nV : Value} {a0 : Int} {sm : Bool} {R : Rs Ty} {q : Int × Nat} (hT : Two cb cb w w') (hC : KC w' cb tb n nV q.1 (q.2 : Int) sm) (hR : R = .error q) (s : ByteArray) : KrEnd w cb tb n nV a0 sm R (.returned (.string s)) w' := by
  subst hR
  exact ⟨hT, hC, s, rfl, fun u h => by cases h⟩
theorem KrEnd.from {w w1 w' : World} {cb tb n : Nat} {nV : Value} {a0 : Int} {sm : Bool} {R : Rs Ty} {e : Ending} (hT : Two cb cb w w1) (h : KrEnd w1 cb tb n nV a0 sm R e w') : KrEnd w cb tb n nV a0 sm R e w' := ⟨hT.trans h.1, h.2⟩
theorem Two.drewN8 {a b : Nat} {w w' : World} (h : Two a b w w') (n : Nat) : Two a b w (w'.drewN n) := ⟨h.os, h.tape, h.output, h.size, h.block⟩
theorem KC.drewN8 {w : World} {cb tb n : Nat} {nV : Value} {e a : Int} {sm : Bool} (h : KC w cb tb n nV e a sm) (m : Nat) : KC (w.drewN m) cb tb n nV e a sm := h.same rfl
theorem mix8 : Tryz.prog.follows .mixedOrders = true := by kernel_rfl
theorem S_add8 (a b : List UInt8) : S a ++ S b = S (a ++ b) := by apply ByteArray.ext; simp [S]
end Go.Proofs.YthihnkgjkmaplaaGreatDoor
namespace Go.Proofs.YthihnkgjkmaplaaGreatDoor
open Go.RowKit Ck
open T3.Tp (Ty enc cns met)
open Tr (T Nd nm)
set_option maxRecDepth 100000
set_option linter.unusedSimpArgs false
set_option linter.unusedVariables false

set_option maxHeartbeats 4000000 in
theorem kda18 {w : World} {cb tb n : Nat} {nV : Value} {a0 : Int} {sm : Bool} {v : Value} (x : Tr.Nd) (i : Nat) (env : Env) (k0 k1 : Nat × Ty) (hC : KC w cb tb n nV 0 a0 sm) (hD : KD w cb tb n v [k0, k1]) (hκ : x.kind = 18) :
    Calls Tryz.prog 118 #[.pointer (some ⟨cb, 0, none⟩), .int .i64 (i : Int), .agg (ndA8 x), v] w (KrEnd w cb tb n nV a0 sm (ruleD sm env x i [k0, k1])) := by
  obtain ⟨va, vc, rfl⟩ := hD.len_form
  obtain ⟨W1, hW1⟩ : ∃ W1, W1 = w.alloc (.cells (ndA8 x) 64) := ⟨_, rfl⟩
  have hB1 : Below w.heap.size w W1 := by rw [hW1]; exact (Below.refl _ _).alloc (Nat.le_refl _) _
  have hT1 : Two cb cb w W1 := below_two hB1 cb cb
  have hC1 := hC.below hB1
  have hD1 := hD.two hT1
  have hx1 : W1.heap[w.heap.size]? = some (.cells (ndA8 x) 64) := by rw [hW1]; exact heap_alloc_new _ _
  have hcb := hC.lt
  have q0 : W1.cell? ⟨w.heap.size, 0, none⟩ = some (.int .i8 x.kind) := (block_cells hx1).1 0
  have q4 : W1.cell? ⟨w.heap.size, 4, none⟩ = some (.string x.t) := (block_cells hx1).1 4
  rw [hκ] at q0
  have cty : W1.cell? ⟨cb, 1, none⟩ = some (.slice (some ⟨tb, 0, none⟩) n n) := hC1.ty
  obtain ⟨kb, ko, rfl, hkc, p0, n0, t0, z0⟩ := hD1.at (j := 0) (k := k0) rfl
  rw [Nat.add_zero] at p0
  obtain ⟨kb1, ko1, e1, -, p1, n1, t1, z1⟩ := hD1.at (j := 1) (k := k1) rfl
  cases e1
  have i0 : ((k0.1 : Nat) : Int) < (n : Int) := by omega
  have i0' : (0 : Int) ≤ ((k0.1 : Nat) : Int) := by omega
  have i1 : ((k1.1 : Nat) : Int) < (n : Int) := by omega
  have i1' : (0 : Int) ≤ ((k1.1 : Nat) : Int) := by omega
  have hr : ruleD sm env x i [k0, k1] = .ok (.tp k0.2 k1.2) := by unfold ruleD; simp [hκ]
  have hS0 : (S (enc k0.2)).size ≤ 64 := by rw [S_size]; exact z0
  have hS1 : (S (enc k1.2)).size ≤ 64 := by rw [S_size]; exact z1
  have ha1 : (⟨#[44]⟩ : ByteArray) ++ S (enc k0.2) = S (44 :: enc k0.2) := S_add8 [44] (enc k0.2)
  have ha2 : S (44 :: enc k0.2) ++ S (enc k1.2) = S (enc (.tp k0.2 k1.2)) := S_add8 (44 :: enc k0.2) (enc k1.2)
  have hS2 : (S (44 :: enc k0.2)).size ≤ 65 := by rw [S_size]; simp; omega
  have HE : Aside (∀ m, KrEnd w cb tb n nV a0 sm (ruleD sm env x i [k0, k1]) (.returned (.string (S (enc (.tp k0.2 k1.2))))) (W1.drewN m)) := fun m => KrEnd.ok (hT1.drewN8 m) (hC1.drewN8 m) hr rfl
  clear hr hC hD hC1 hD1 hT1 hB1 hx1 hκ hcb
  generalize S (enc (.tp k0.2 k1.2)) = s3 at *
  generalize S (44 :: enc k0.2) = s2 at *
  generalize S (enc k0.2) = s0 at *
  generalize S (enc k1.2) = s1 at *
  go_enter Tryz.func118, Tryz.ntmps118
  go_upto_region 1 with fail
  try rw [← hW1]
  clear hW1
  go_upto_region 3 with fail
  go_quiet (fail)
  go_wp2_with fail
  go_ret
  exact HE.out _
set_option maxHeartbeats 4000000 in
theorem kda26 {w : World} {cb tb n : Nat} {nV : Value} {a0 : Int} {sm : Bool} {v : Value} (x : Tr.Nd) (i : Nat) (env : Env) (k0 : Nat × Ty) (hC : KC w cb tb n nV 0 a0 sm) (hD : KD w cb tb n v [k0]) (hκ : x.kind = 26) :
    Calls Tryz.prog 118 #[.pointer (some ⟨cb, 0, none⟩), .int .i64 (i : Int), .agg (ndA8 x), v] w (KrEnd w cb tb n nV a0 sm (ruleD sm env x i [k0])) := by
  obtain ⟨va, vc, rfl⟩ := hD.len_form
  obtain ⟨W1, hW1⟩ : ∃ W1, W1 = w.alloc (.cells (ndA8 x) 64) := ⟨_, rfl⟩
  have hB1 : Below w.heap.size w W1 := by rw [hW1]; exact (Below.refl _ _).alloc (Nat.le_refl _) _
  have hT1 : Two cb cb w W1 := below_two hB1 cb cb
  have hC1 := hC.below hB1
  have hD1 := hD.two hT1
  have hx1 : W1.heap[w.heap.size]? = some (.cells (ndA8 x) 64) := by rw [hW1]; exact heap_alloc_new _ _
  have hcb := hC.lt
  have q0 : W1.cell? ⟨w.heap.size, 0, none⟩ = some (.int .i8 x.kind) := (block_cells hx1).1 0
  have q4 : W1.cell? ⟨w.heap.size, 4, none⟩ = some (.string x.t) := (block_cells hx1).1 4
  rw [hκ] at q0
  have cty : W1.cell? ⟨cb, 1, none⟩ = some (.slice (some ⟨tb, 0, none⟩) n n) := hC1.ty
  obtain ⟨kb, ko, rfl, hkc, p0, n0, t0, z0⟩ := hD1.at (j := 0) (k := k0) rfl
  rw [Nat.add_zero] at p0
  have i0 : ((k0.1 : Nat) : Int) < (n : Int) := by omega
  have i0' : (0 : Int) ≤ ((k0.1 : Nat) : Int) := by omega
  have hr : ruleD sm env x i [k0] = .ok (.tx k0.2) := by unfold ruleD; simp [hκ]
  have hS0 : (S (enc k0.2)).size ≤ 64 := by rw [S_size]; exact z0
  have ha1 : (⟨#[120]⟩ : ByteArray) ++ S (enc k0.2) = S (enc (.tx k0.2)) := S_add8 [120] (enc k0.2)
  have HE : Aside (∀ m, KrEnd w cb tb n nV a0 sm (ruleD sm env x i [k0]) (.returned (.string (S (enc (.tx k0.2))))) (W1.drewN m)) := fun m => KrEnd.ok (hT1.drewN8 m) (hC1.drewN8 m) hr rfl
  clear hr hC hD hC1 hD1 hT1 hB1 hx1 hκ hcb
  generalize S (enc (.tx k0.2)) = s2 at *
  generalize S (enc k0.2) = s0 at *
  go_enter Tryz.func118, Tryz.ntmps118
  go_upto_region 1 with fail
  try rw [← hW1]
  clear hW1
  go_upto_region 24 with fail
  go_quiet (fail)
  go_wp2_with fail
  go_ret
  exact HE.out _
set_option maxHeartbeats 4000000 in
theorem kda19 {w : World} {cb tb n : Nat} {nV : Value} {a0 : Int} {sm : Bool} {v : Value} (x : Tr.Nd) (i : Nat) (env : Env) (k0 : Nat × Ty) (hC : KC w cb tb n nV 0 a0 sm) (hD : KD w cb tb n v [k0]) (hκ : x.kind = 19) :
    Calls Tryz.prog 118 #[.pointer (some ⟨cb, 0, none⟩), .int .i64 (i : Int), .agg (ndA8 x), v] w (KrEnd w cb tb n nV a0 sm (ruleD sm env x i [k0])) := by
  obtain ⟨va, vc, rfl⟩ := hD.len_form
  obtain ⟨W1, hW1⟩ : ∃ W1, W1 = w.alloc (.cells (ndA8 x) 64) := ⟨_, rfl⟩
  have hB1 : Below w.heap.size w W1 := by rw [hW1]; exact (Below.refl _ _).alloc (Nat.le_refl _) _
  have hT1 : Two cb cb w W1 := below_two hB1 cb cb
  have hC1 := hC.below hB1
  have hD1 := hD.two hT1
  have hx1 : W1.heap[w.heap.size]? = some (.cells (ndA8 x) 64) := by rw [hW1]; exact heap_alloc_new _ _
  have hcb := hC.lt
  have q0 : W1.cell? ⟨w.heap.size, 0, none⟩ = some (.int .i8 x.kind) := (block_cells hx1).1 0
  have q4 : W1.cell? ⟨w.heap.size, 4, none⟩ = some (.string x.t) := (block_cells hx1).1 4
  rw [hκ] at q0
  have cty : W1.cell? ⟨cb, 1, none⟩ = some (.slice (some ⟨tb, 0, none⟩) n n) := hC1.ty
  obtain ⟨kb, ko, rfl, hkc, p0, n0, t0, z0⟩ := hD1.at (j := 0) (k := k0) rfl
  rw [Nat.add_zero] at p0
  have i0 : ((k0.1 : Nat) : Int) < (n : Int) := by omega
  have i0' : (0 : Int) ≤ ((k0.1 : Nat) : Int) := by omega
  cases hm : Ck.mt k0.2 44 with
  | none =>
    have hr : ruleD sm env x i [k0] = .error (24, k0.1) := by unfold ruleD; simp [hκ, useT, useS, hm]
    have hh := khead_no W1 cb tb n a0 sm k0.1 44 0 (by simp) k0.2 hC1 n0 t0 z0 hm
    rw [show ((((44 : UInt8).toNat : Nat) : Int)) = 44 from rfl] at hh
    have HE : Aside (∀ w2 s, KC w2 cb tb n nV 24 (k0.1 : Int) sm → Two cb cb W1 w2 → KrEnd w cb tb n nV a0 sm (ruleD sm env x i [k0]) (.returned (.string s)) w2) := fun w2 s h1 h2 => KrEnd.bad (q := (24, k0.1)) (hT1.trans h2) h1 hr s
    clear hr hC hD hC1 hD1 hT1 hB1 hx1 hκ hcb hm
    go_enter Tryz.func118, Tryz.ntmps118
    go_upto_region 1 with fail
    try rw [← hW1]
    clear hW1
    go_wp2_with fail
    refine hh.mono ?_
    rintro e w2 ⟨rfl, h1, h2⟩
    have hE := fun s => HE.out w2 s h1 h2
    clear hh h1 h2 HE
    generalize S (enc .tq) = sq at *

    go_wp2_with fail
    go_ret
    exact hE _
  | some q =>
    obtain ⟨A, B⟩ := q
    obtain ⟨zA, zB, -⟩ := mt_len hm z0
    have hr : ruleD sm env x i [k0] = .ok (A) := by unfold ruleD; simp [hκ, useT, useS, hm, othersS, giv]
    have hh := khead_yes W1 cb tb n a0 sm k0.1 44 0 (by simp) (by decide) k0.2 A B hC1 n0 t0 z0 hm (by simp)
    rw [show (((0 : Nat) : Int)) = 0 from rfl] at hh
    rw [show ((((44 : UInt8).toNat : Nat) : Int)) = 44 from rfl] at hh
    have HE : Aside (∀ w2, Below W1.heap.size W1 w2 → KrEnd w cb tb n nV a0 sm (ruleD sm env x i [k0]) (.returned (.string (S (enc (A))))) w2) := fun w2 h2 => KrEnd.ok (hT1.trans (below_two h2 cb cb)) (hC1.below h2) hr rfl
    clear hr hC hD hC1 hD1 hT1 hB1 hx1 hκ hcb hm
    go_enter Tryz.func118, Tryz.ntmps118
    go_upto_region 1 with fail
    try rw [← hW1]
    clear hW1
    go_wp2_with fail
    refine hh.mono ?_
    rintro e w2 ⟨rfl, h2⟩
    have hE := HE.out w2 h2
    clear hh h2 HE
    simp only [if_true] at *
    generalize S (enc A) = sA at *
    go_wp2_with fail
    go_ret
    exact hE
set_option maxHeartbeats 4000000 in
theorem kda20 {w : World} {cb tb n : Nat} {nV : Value} {a0 : Int} {sm : Bool} {v : Value} (x : Tr.Nd) (i : Nat) (env : Env) (k0 : Nat × Ty) (hC : KC w cb tb n nV 0 a0 sm) (hD : KD w cb tb n v [k0]) (hκ : x.kind = 20) :
    Calls Tryz.prog 118 #[.pointer (some ⟨cb, 0, none⟩), .int .i64 (i : Int), .agg (ndA8 x), v] w (KrEnd w cb tb n nV a0 sm (ruleD sm env x i [k0])) := by
  obtain ⟨va, vc, rfl⟩ := hD.len_form
  obtain ⟨W1, hW1⟩ : ∃ W1, W1 = w.alloc (.cells (ndA8 x) 64) := ⟨_, rfl⟩
  have hB1 : Below w.heap.size w W1 := by rw [hW1]; exact (Below.refl _ _).alloc (Nat.le_refl _) _
  have hT1 : Two cb cb w W1 := below_two hB1 cb cb
  have hC1 := hC.below hB1
  have hD1 := hD.two hT1
  have hx1 : W1.heap[w.heap.size]? = some (.cells (ndA8 x) 64) := by rw [hW1]; exact heap_alloc_new _ _
  have hcb := hC.lt
  have q0 : W1.cell? ⟨w.heap.size, 0, none⟩ = some (.int .i8 x.kind) := (block_cells hx1).1 0
  have q4 : W1.cell? ⟨w.heap.size, 4, none⟩ = some (.string x.t) := (block_cells hx1).1 4
  rw [hκ] at q0
  have cty : W1.cell? ⟨cb, 1, none⟩ = some (.slice (some ⟨tb, 0, none⟩) n n) := hC1.ty
  obtain ⟨kb, ko, rfl, hkc, p0, n0, t0, z0⟩ := hD1.at (j := 0) (k := k0) rfl
  rw [Nat.add_zero] at p0
  have i0 : ((k0.1 : Nat) : Int) < (n : Int) := by omega
  have i0' : (0 : Int) ≤ ((k0.1 : Nat) : Int) := by omega
  cases hm : Ck.mt k0.2 44 with
  | none =>
    have hr : ruleD sm env x i [k0] = .error (24, k0.1) := by unfold ruleD; simp [hκ, useT, useS, hm]
    have hh := khead_no W1 cb tb n a0 sm k0.1 44 1 (by simp) k0.2 hC1 n0 t0 z0 hm
    rw [show ((((44 : UInt8).toNat : Nat) : Int)) = 44 from rfl] at hh
    have HE : Aside (∀ w2 s, KC w2 cb tb n nV 24 (k0.1 : Int) sm → Two cb cb W1 w2 → KrEnd w cb tb n nV a0 sm (ruleD sm env x i [k0]) (.returned (.string s)) w2) := fun w2 s h1 h2 => KrEnd.bad (q := (24, k0.1)) (hT1.trans h2) h1 hr s
    clear hr hC hD hC1 hD1 hT1 hB1 hx1 hκ hcb hm
    go_enter Tryz.func118, Tryz.ntmps118
    go_upto_region 1 with fail
    try rw [← hW1]
    clear hW1
    go_wp2_with fail
    refine hh.mono ?_
    rintro e w2 ⟨rfl, h1, h2⟩
    have hE := fun s => HE.out w2 s h1 h2
    clear hh h1 h2 HE
    generalize S (enc .tq) = sq at *

    go_wp2_with fail
    go_ret
    exact hE _
  | some q =>
    obtain ⟨A, B⟩ := q
    obtain ⟨zA, zB, -⟩ := mt_len hm z0
    have hr : ruleD sm env x i [k0] = .ok (B) := by unfold ruleD; simp [hκ, useT, useS, hm, othersS, giv]
    have hh := khead_yes W1 cb tb n a0 sm k0.1 44 1 (by simp) (by decide) k0.2 A B hC1 n0 t0 z0 hm (by simp)
    rw [show (((1 : Nat) : Int)) = 1 from rfl] at hh
    rw [show ((((44 : UInt8).toNat : Nat) : Int)) = 44 from rfl] at hh
    have HE : Aside (∀ w2, Below W1.heap.size W1 w2 → KrEnd w cb tb n nV a0 sm (ruleD sm env x i [k0]) (.returned (.string (S (enc (B))))) w2) := fun w2 h2 => KrEnd.ok (hT1.trans (below_two h2 cb cb)) (hC1.below h2) hr rfl
    clear hr hC hD hC1 hD1 hT1 hB1 hx1 hκ hcb hm
    go_enter Tryz.func118, Tryz.ntmps118
    go_upto_region 1 with fail
    try rw [← hW1]
    clear hW1
    go_wp2_with fail
    refine hh.mono ?_
    rintro e w2 ⟨rfl, h2⟩
    have hE := HE.out w2 h2
    clear hh h2 HE
    simp only [show ¬ (1 = 0) by decide, if_false] at *
    generalize S (enc B) = sA at *
    go_wp2_with fail
    go_ret
    exact hE
end Go.Proofs.YthihnkgjkmaplaaGreatDoor
