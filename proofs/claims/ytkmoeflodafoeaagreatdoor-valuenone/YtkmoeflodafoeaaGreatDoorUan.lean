/- Regions that draw their order, whose callees make memory but hand back one value: one walk, in the text's order. Regions that draw their order, with calls that make memory: a condition on the world that grows behind each of them (S' says more than S). Reads may be taken first, in any order that the edges allow; calls, allocs, stores come up alone. As CalmV, with a last operation (number n), which waits for all the others: behind it nothing is asked of the world. Package coerce: what its type switches ask, as facts for the walks. -/
import Derived.Test.YtkmoeflodafoeaaGreatDoorRows
import Derived.BigQuiet
import Derived.WalkKit
import Derived.OrdersHeld
import Derived.Deep.RegionHeld3
import Derived.StillTail
namespace Go.Proofs.YtkmoeflodafoeaaGreatDoor
/-- The worlds that meet S, as a type: so a fact of all of them is a rule without a condition. -/
structure Cls (S : World → Prop) where
  w : World
  h : S w
theorem wp_region_calm {P : Program} (S : World → Prop) {id : Nat} {Q : Exit → Act → World → Prop} {a : Act} {w : World} {l : List Oper} (hm : P.follows .mixedOrders = true) (hB : Region.lexB .any l.toArray = true) (h0 : S w.drew)
    (h : wpQuiet P l.toArray (fun w' => ∃ x : Cls S, w' = x.w) (fun a' => ∀ w', (∃ x : Cls S, w' = x.w) → Q .normal a' w') l a) : (Code.region id l.toArray true).wp P Q a w :=
  wp_region_quiet (C := fun w' => ∃ x : Cls S, w' = x.w) hm hB ⟨⟨w.drew, h0⟩, rfl⟩ (by simpa using h)
theorem calls_calm {P : Program} {f : FuncId} {args : Array Value} {S : World → Prop} {W : World} {v : Value} (h : Calls P f args W fun e w' => e = .returned v ∧ S w') : Calls P f args W fun e w' => e = .returned v ∧ ∃ x : Cls S, w' = x.w :=
  h.mono fun _ w' ⟨he, hs⟩ => ⟨he, ⟨w', hs⟩, rfl⟩
end Go.Proofs.YtkmoeflodafoeaaGreatDoor
namespace Go.Proofs.YtkmoeflodafoeaaGreatDoor.V
/-- Operations that hand back a value at once (no call). -/
def readsB (o : Oper) : Bool :=
  match o.op with
  | .move _ | .assign _ | .load _ _ | .fieldAddr _ _ _ | .field _ _ _ | .indexAddr _ _ _ | .index _ _ _ | .binOp _ _ _ _ _ | .unOp _ _ _ | .convert _ _ _ | .extract _ _ | .nilCheck _ | .typeAssert _ _ _ _ | .makeInterface _ _ | .build _ _ | .slice _ _ _ _ _ | .pick _ _ _ | .lookup _ _ _ _ | .makeFunc _ _ _ => true
  | _ => false
theorem value_only {P : Program} {s : Sem Value} {w w' : World} {n : Next} (h : (do let x ← s; pure (Next.value x) : Sem Next).run P w = .ok n w') : ∃ v, n = .value v := by
  rw [Sem.run_bind] at h
  generalize s.run P w = r at h
  cases r with
  | ok a w1 => simp only [Sem.run_pure] at h; cases h; exact ⟨_, rfl⟩
  | halt x w1 => cases h
theorem nil_value {P : Program} {t : TypeId} {u : Value} {name : String} {first captured : Array Value} {why : Unsupported} {w w' : World} {n : Next}
    (h : (do if (← nilAhead ((← program).types.size + Made.depth) t u name) != some false then unsupported why
             pure (Next.value (.func (.method name) first captured)) : Sem Next).run P w = .ok n w') : ∃ v, n = .value v := by
  simp only [Sem.run_bind] at h
  generalize (program : Sem Program).run P w = r0 at h
  cases r0 with
  | halt x w1 => cases h
  | ok p w1 =>
    simp only [Result.andThen] at h
    generalize (nilAhead (p.types.size + Made.depth) t u name).run P w1 = r1 at h
    cases r1 with
    | halt x w2 => cases h
    | ok q w2 =>
      simp only at h
      split at h
      · cases h
      · simp only [Sem.run_pure] at h; cases h; exact ⟨_, rfl⟩
theorem reads_value {P : Program} {o : Oper} (ho : readsB o = true) (ρ : Operand → Value) {w w' : World} {n : Next} (h : (execOp ρ o).run P w = .ok n w') : ∃ v, n = .value v := by
  obtain ⟨d, op, g, t, p, q⟩ := o
  unfold execOp at h
  cases op
  case nilCheck x =>
    simp only at h
    split at h
    all_goals first
      | (simp only [Sem.run_pure] at h; cases h; exact ⟨_, rfl⟩)
      | (cases h; done)
      | skip
    all_goals (split at h)
    all_goals first
      | (simp only [Sem.run_pure] at h; cases h; exact ⟨_, rfl⟩)
      | (cases h; done)
      | exact nil_value h
  case pick c a b =>
    rw [Sem.run_bind] at h
    generalize (asBool (ρ c)).run P w = r at h
    cases r with
    | ok a w1 => cases h; exact ⟨_, rfl⟩
    | halt x w1 => cases h
  all_goals first
    | exact value_only h
    | (exfalso; simp [readsB] at ho; done)
    | (simp only [Sem.run_pure] at h; cases h; exact ⟨_, rfl⟩)
theorem quiet_value {P : Program} {o : Oper} {a : Act} {C : World → Prop} {w : World} {v : Value} (ho : readsB o = true) (h : o.quietAt P a C w v) : (execOp a.eval o).run P w = .ok (.value v) w := by
  unfold Oper.quietAt at h
  have h1 := fun n w' => reads_value (P := P) ho a.eval (w := w) (w' := w') (n := n)
  generalize (execOp a.eval o).run P w = r at *
  cases r with
  | ok n w' =>
    obtain ⟨u, rfl⟩ := h1 _ _ rfl
    obtain ⟨rfl, rfl⟩ := h
    rfl
  | halt x w' => simp only [Oper.quietUpon] at h
theorem quiet_yieldsIf {P : Program} {ops : Array Oper} {o : Oper} {a : Act} {S : World → Prop} {v : Value} (ho : readsB o = true) (h : YieldsIn P ops (fun w' => ∃ x : Cls S, w' = x.w) o v a) : YieldsIf P ops S o v a :=
  h.imp (fun ⟨hw, hq⟩ => ⟨hw, fun w hS => quiet_value ho (hq w ⟨⟨w, hS⟩, rfl⟩)⟩) id
section
variable {P : Program} {ops : Array Oper} {md : Region.Mode} {Q : Exit → Act → World → Prop} {S : World → Prop}
/-- What holds behind an operation, in the place of the region's own end. -/
def midQ (Q : Exit → Act → World → Prop) (K : Act → World → Prop) : Exit → Act → World → Prop
  | .normal, a, w => K a w
  | e, a, w => Q e a w
theorem wp_midQ {o : Oper} {a : Act} {w : World} {K : Act → World → Prop} (h : o.wp P a w (fun a' w' => midQ Q K .normal a' w') (midQ Q K)) : o.wp P a w K Q := by
  unfold Oper.wp at *
  generalize (execOp a.eval o).run P w = r at *
  cases r with
  | ok n w' =>
    cases n <;> simp only [Oper.upon, midQ] at h ⊢ <;>
      first
        | exact h
        | exact Calls.mono h (fun e w'' he => by cases e <;> exact he)
        | exact Rows.mono h (fun _ _ he => he)
  | halt x w' => cases x <;> simp only [Oper.upon, midQ] at h ⊢ <;> exact h
theorem wpOp_of_mid {i : Nat} {o : Oper} {a : Act} {w : World} {K : Act → World → Prop} (hi : ops[i]? = some o) (h : wpList P ops (midQ Q K) [o] a w) : wpOp P ops Q i K a w := by
  unfold wpOp
  simp only [hi]
  unfold wpList at h
  split at h
  · rename_i hw
    simp only [hw, if_true]
    refine h.imp (fun h => wp_midQ h) (fun h => ⟨h.1, ?_⟩)
    obtain ⟨a, w, h⟩ := h.2
    exact ⟨a, w, h⟩
  · rename_i hw
    simp only [hw]
    exact h
/-- Whatever order is picked from here on; S holds behind each operation, and may be said more of (S') from then on. -/
def wpAnyV (P : Program) (md : Region.Mode) (ops : Array Oper) (Q : Exit → Act → World → Prop) : (World → Prop) → Nat → Array Bool → Act → World → Prop
  | _, 0, d, a, w => Region.ready md ops d = [] ∧ Q .normal a w
  | S, f + 1, d, a, w => (Region.ready md ops d = [] → Q .normal a w) ∧
    ∀ i ∈ Region.ready md ops d, wpOp P ops Q i (fun a' w' => ∃ S' : World → Prop, (∀ W, S' W → S W) ∧ S' w' ∧ wpAnyV P md ops Q S' f (d.setIfInBounds i true) a' w') a w
theorem wpAnyV.any : ∀ (f : Nat) (S : World → Prop) (d : Array Bool) (a : Act) (w : World), wpAnyV P md ops Q S f d a w → wpAny P md ops Q f d a w
  | 0, _, _, _, _, h => h
  | f + 1, _, _, _, _, h => ⟨h.1, fun i hi => wpOp_mono (fun a' w' ⟨S', _, _, h'⟩ => wpAnyV.any f S' _ a' w' h') (h.2 i hi)⟩
theorem YieldsIf.less {o : Oper} {v : Value} {a : Act} {S' : World → Prop} (h : YieldsIf P ops S o v a) (hs : ∀ W, S' W → S W) : YieldsIf P ops S' o v a :=
  h.imp (fun ⟨hw, hv⟩ => ⟨hw, fun w hS => hv w (hs w hS)⟩) id
theorem wpAnyV.first {i : Nat} {o : Oper} {v : Value} (hi : ops[i]? = some o) (hsel : ∀ (j : Nat) (o : Oper) cs b, ops[j]? = some o → o.op ≠ .select cs b)
    (hQ : ∀ c a w, Q (.panic c) (a.put o.dst v) w → Q (.panic c) a w) :
    ∀ (f : Nat) (S : World → Prop) (d : Array Bool) (a : Act) (w : World),
      (∀ j oj, ops[j]? = some oj → j ≠ i → d.getD j true = false → (∀ e ∈ oj.after, Region.binds md e = true → e.on ≠ i) → o.apart ops oj = true) →
      i ∈ Region.ready md ops d → YieldsIf P ops S o v a → S w → wpAnyV P md ops Q S f (d.setIfInBounds i true) (a.put o.dst v) w → wpAnyV P md ops Q S (f + 1) d a w := by
  intro f
  induction f with
  | zero =>
    intro S d a w _ hr hy hS H
    refine ⟨fun h => (by rw [h] at hr; cases hr), fun j hj => ?_⟩
    by_cases e : j = i
    · subst e; exact hy.wpOp hi hS ⟨S, fun _ h => h, hS, H⟩
    · have := ready_mono hj e
      rw [H.1] at this
      cases this
  | succ f ih =>
    intro S d a w hfree hr hy hS H
    refine ⟨fun h => (by rw [h] at hr; cases hr), fun j hj => ?_⟩
    by_cases e : j = i
    · subst e; exact hy.wpOp hi hS ⟨S, fun _ h => h, hS, H⟩
    · obtain ⟨hjun, oj, hoj, hall⟩ := mem_ready.1 hj
      have hno : ∀ e ∈ oj.after, Region.binds md e = true → e.on ≠ i := fun e he hb heq => by
        have h1 := hall e he hb
        have h0 := (mem_ready.1 hr).1
        rw [heq] at h1
        rcases Nat.lt_or_ge i d.size with h' | h'
        · simp [h'] at h0 h1; rw [h0] at h1; cases h1
        · simp [Array.getElem?_eq_none h'] at h1
      have h2 := wpOp_putIf hoj (hfree j oj hoj e hjun hno) (fun cs b => hsel i o cs b hi) (fun cs b => hsel j oj cs b hoj) hQ hy (H.2 j (ready_mono hj e))
      refine wpOp_mono (fun a' w' h3 => ?_) h2
      obtain ⟨hy', S', hs, hS', h4⟩ := h3
      refine ⟨S', hs, hS', ih S' (d.setIfInBounds j true) a' w' (fun k ok hk hki hku hkn => hfree k ok hk hki ?_ hkn) (ready_mono hr (Ne.symm e)) (YieldsIf.less hy' hs) hS' ?_⟩
      · by_cases q : j = k
        · subst q; exact hjun
        · rwa [getD_set_ne true q] at hku
      · rw [Array.setIfInBounds_comm _ _ e]
        exact h4
/-- What stands listed behind these. -/
def listed : List Nat → Array Bool → Array Bool
  | [], d => d
  | k :: r, d => listed r (d.setIfInBounds k true)
/-- May these be taken first, one behind the other? -/
def takesB (md : Region.Mode) (ops : Array Oper) : List Nat → Array Bool → Bool
  | [], _ => true
  | k :: r, d => (Region.ready md ops d).contains k && Region.free md ops d k && (match ops[k]? with | some o => readsB o | none => false) && takesB md ops r (d.setIfInBounds k true)
/-- These operations. -/
def pickL (ops : Array Oper) (ks : List Nat) : List Oper := ks.filterMap fun k => ops[k]?
theorem wpAnyV.quiet (hsel : Region.noSelect ops = true) (hQ : ∀ (o : Oper) v c a w, Q (.panic c) (a.put o.dst v) w → Q (.panic c) a w) {S : World → Prop} {w : World} (hS : S w) (ks : List Nat) :
    ∀ (f : Nat) (d : Array Bool) (a : Act), takesB md ops ks d = true →
      wpQuiet P ops (fun w' => ∃ x : Cls S, w' = x.w) (fun a' => wpAnyV P md ops Q S f (listed ks d) a' w) (pickL ops ks) a → wpAnyV P md ops Q S (f + ks.length) d a w := by
  induction ks with
  | nil => intro f d a _ h; exact h
  | cons k r ih =>
    intro f d a hB h
    simp only [takesB, Bool.and_eq_true] at hB
    obtain ⟨⟨⟨hr, hf⟩, hrd⟩, hB'⟩ := hB
    cases h0 : ops[k]? with
    | none => rw [h0] at hrd; cases hrd
    | some o =>
      rw [h0] at hrd
      have hp : pickL ops (k :: r) = o :: pickL ops r := by simp [pickL, h0]
      rw [hp] at h
      have hr' : k ∈ Region.ready md ops d := by simpa using hr
      have hq : qOp P ops (fun w' => ∃ x : Cls S, w' = x.w) k (wpQuiet P ops (fun w' => ∃ x : Cls S, w' = x.w) (fun a' => wpAnyV P md ops Q S f (listed (k :: r) d) a' w) (pickL ops r)) a := by unfold qOp; simp only [h0]; exact h
      obtain ⟨v, hy, hK⟩ := yieldsIn_of_qOp h0 hq
      exact wpAnyV.first h0 (Region.noSelect_spec hsel) (fun c a w => hQ o v c a w) _ S d a w (Region.free_spec h0 hf) hr' (quiet_yieldsIf hrd hy) hS (ih f _ _ hB' hK)
/-- One operation that comes up alone; behind it more may be said of the world. -/
theorem wpAnyV.event (k : Nat) {f : Nat} {d : Array Bool} {a : Act} {w : World} {o : Oper} (hr : Region.ready md ops d = [k]) (h0 : ops[k]? = some o)
    (h : wpList P ops (midQ Q fun a' w' => ∃ S' : World → Prop, (∀ W, S' W → S W) ∧ S' w' ∧ wpAnyV P md ops Q S' f (d.setIfInBounds k true) a' w') [o] a w) : wpAnyV P md ops Q S (f + 1) d a w := by
  refine ⟨fun h1 => (by rw [h1] at hr; cases hr), fun i hi => ?_⟩
  rw [hr] at hi
  obtain rfl : i = k := by simpa using hi
  exact wpOp_of_mid h0 h
theorem wpAnyV.done {f : Nat} {d : Array Bool} {a : Act} {w : World} (hr : Region.ready md ops d = []) (h : Q .normal a w) : wpAnyV P md ops Q S f d a w := by
  cases f with
  | zero => exact ⟨hr, h⟩
  | succ f => exact ⟨fun _ => h, fun i hi => (by rw [hr] at hi; cases hi)⟩
end
/-- The beginning. -/
theorem wp_region_V {P : Program} (S : World → Prop) {id : Nat} {Q : Exit → Act → World → Prop} {a : Act} {w : World} {l : List Oper} (hm : P.follows .mixedOrders = true)
    (h : wpAnyV P .any l.toArray (NoPanic Q) S l.length (Array.replicate l.length false) a w.drew) : (Code.region id l.toArray true).wp P Q a w := by
  refine wp_region_noPanic (wp_region_any hm ?_)
  have := wpAnyV.any _ _ _ _ _ h
  simpa using this
end Go.Proofs.YtkmoeflodafoeaaGreatDoor.V
namespace Go.Proofs.YtkmoeflodafoeaaGreatDoor.V
section
variable {P : Program} {ops : Array Oper} {md : Region.Mode} {Q : Exit → Act → World → Prop} {S : World → Prop}
/-- Does n wait for all the others (for some of them by way of others)? -/
def lastB (md : Region.Mode) (ops : Array Oper) (n : Nat) : Bool := decide (n + 1 = ops.size) && Region.sinkB md ops n && Region.chainB md ops n
theorem last_waits {n i : Nat} {d : Array Bool} (h : lastB md ops n = true) (inv : HeadInv md ops n d) (hi : i < n) (hd : d.getD i true = false) : n ∉ Region.ready md ops d := by
  simp only [lastB, Bool.and_eq_true, decide_eq_true_eq] at h
  exact tail_waits h.1.2 h.2 (by omega) inv _ i rfl hi hd n (Nat.le_refl _)
theorem head0 {l : List Oper} (n : Nat) : HeadInv .any l.toArray n (Array.replicate l.length false) :=
  ⟨by simp, fun j oj _ hl => (by rw [getD_replicate_false] at hl; cases hl), fun t _ h => getD_in (by simpa using h) (getD_replicate_false _ _)⟩
/-- Whatever order is picked from here on; S holds behind each operation but the last one, and may be said more of from then on. -/
def wpAnyW (P : Program) (md : Region.Mode) (ops : Array Oper) (Q : Exit → Act → World → Prop) (n : Nat) : (World → Prop) → Nat → Array Bool → Act → World → Prop
  | _, 0, d, a, w => Region.ready md ops d = [] ∧ Q .normal a w
  | S, f + 1, d, a, w => (Region.ready md ops d = [] → Q .normal a w) ∧
    ∀ i ∈ Region.ready md ops d, (i = n → wpOp P ops Q i (fun a' w' => Region.ready md ops (d.setIfInBounds i true) = [] ∧ Q .normal a' w') a w) ∧ (i ≠ n → wpOp P ops Q i (fun a' w' => ∃ S' : World → Prop, (∀ W, S' W → S W) ∧ S' w' ∧ wpAnyW P md ops Q n S' f (d.setIfInBounds i true) a' w') a w)
theorem wpAny_end {f : Nat} {d : Array Bool} {a : Act} {w : World} (hr : Region.ready md ops d = []) (h : Q .normal a w) : wpAny P md ops Q f d a w := by
  cases f with
  | zero => exact ⟨hr, h⟩
  | succ f => exact ⟨fun _ => h, fun i hi => (by rw [hr] at hi; cases hi)⟩
theorem wpAnyW.any {n : Nat} : ∀ (f : Nat) (S : World → Prop) (d : Array Bool) (a : Act) (w : World), wpAnyW P md ops Q n S f d a w → wpAny P md ops Q f d a w
  | 0, _, _, _, _, h => h
  | f + 1, _, _, _, _, h => ⟨h.1, fun i hi => by
    by_cases e : i = n
    · exact wpOp_mono (fun a' w' ⟨h1, h2⟩ => wpAny_end h1 h2) ((h.2 i hi).1 e)
    · exact wpOp_mono (fun a' w' ⟨S', _, _, h'⟩ => wpAnyW.any f S' _ a' w' h') ((h.2 i hi).2 e)⟩
theorem wpAnyW.first {n i : Nat} {o : Oper} {v : Value} (hi : ops[i]? = some o) (hin : i < n) (hlast : lastB md ops n = true) (hsel : ∀ (j : Nat) (o : Oper) cs b, ops[j]? = some o → o.op ≠ .select cs b)
    (hQ : ∀ c a w, Q (.panic c) (a.put o.dst v) w → Q (.panic c) a w) :
    ∀ (f : Nat) (S : World → Prop) (d : Array Bool) (a : Act) (w : World), HeadInv md ops n d →
      (∀ j oj, ops[j]? = some oj → j ≠ i → d.getD j true = false → (∀ e ∈ oj.after, Region.binds md e = true → e.on ≠ i) → o.apart ops oj = true) →
      i ∈ Region.ready md ops d → YieldsIf P ops S o v a → S w → wpAnyW P md ops Q n S f (d.setIfInBounds i true) (a.put o.dst v) w → wpAnyW P md ops Q n S (f + 1) d a w := by
  intro f
  have hne : i ≠ n := by omega
  induction f with
  | zero =>
    intro S d a w inv _ hr hy hS H
    refine ⟨fun h => (by rw [h] at hr; cases hr), fun j hj => ?_⟩
    by_cases e : j = i
    · subst e
      exact ⟨fun e => absurd e hne, fun _ => hy.wpOp hi hS ⟨S, fun _ h => h, hS, H⟩⟩
    · have := ready_mono hj e
      rw [H.1] at this
      cases this
  | succ f ih =>
    intro S d a w inv hfree hr hy hS H
    refine ⟨fun h => (by rw [h] at hr; cases hr), fun j hj => ?_⟩
    by_cases e : j = i
    · subst e
      exact ⟨fun e => absurd e hne, fun _ => hy.wpOp hi hS ⟨S, fun _ h => h, hS, H⟩⟩
    · refine ⟨fun en => ?_, fun jn => ?_⟩
      · subst en
        exact absurd hj (last_waits hlast inv hin (mem_ready.1 hr).1)
      · obtain ⟨hjun, oj, hoj, hall⟩ := mem_ready.1 hj
        have hjn' : j < n := by
          have h1 := (Array.getElem?_eq_some_iff.1 hoj).1
          have h2 : n + 1 = ops.size := by simp only [lastB, Bool.and_eq_true, decide_eq_true_eq] at hlast; exact hlast.1.1
          omega
        have hno : ∀ e ∈ oj.after, Region.binds md e = true → e.on ≠ i := fun e he hb heq => by
          have h1 := hall e he hb
          have h0 := (mem_ready.1 hr).1
          rw [heq] at h1
          rcases Nat.lt_or_ge i d.size with h' | h'
          · simp [h'] at h0 h1; rw [h0] at h1; cases h1
          · simp [Array.getElem?_eq_none h'] at h1
        have h2 := wpOp_putIf hoj (hfree j oj hoj e hjun hno) (fun cs b => hsel i o cs b hi) (fun cs b => hsel j oj cs b hoj) hQ hy ((H.2 j (ready_mono hj e)).2 jn)
        refine wpOp_mono (fun a' w' h3 => ?_) h2
        obtain ⟨hy', S', hs, hS', h4⟩ := h3
        refine ⟨S', hs, hS', ih S' (d.setIfInBounds j true) a' w' (inv.set hj hjn') (fun k ok hk hki hku hkn => hfree k ok hk hki ?_ hkn) (ready_mono hr (Ne.symm e)) (YieldsIf.less hy' hs) hS' ?_⟩
        · by_cases q : j = k
          · subst q; exact hjun
          · rwa [getD_set_ne true q] at hku
        · rw [Array.setIfInBounds_comm _ _ e]
          exact h4
theorem wpAnyW.quiet {n : Nat} (hlast : lastB md ops n = true) (hsel : Region.noSelect ops = true) (hQ : ∀ (o : Oper) v c a w, Q (.panic c) (a.put o.dst v) w → Q (.panic c) a w) {S : World → Prop} {w : World} (hS : S w) (ks : List Nat) (hks : ks.all (fun k => decide (k < n)) = true) :
    ∀ (f : Nat) (d : Array Bool) (a : Act), HeadInv md ops n d → takesB md ops ks d = true →
      wpQuiet P ops (fun w' => ∃ x : Cls S, w' = x.w) (fun a' => wpAnyW P md ops Q n S f (listed ks d) a' w) (pickL ops ks) a → wpAnyW P md ops Q n S (f + ks.length) d a w := by
  induction ks with
  | nil => intro f d a _ _ h; exact h
  | cons k r ih =>
    intro f d a inv hB h
    simp only [List.all_cons, Bool.and_eq_true, decide_eq_true_eq] at hks
    simp only [takesB, Bool.and_eq_true] at hB
    obtain ⟨⟨⟨hr, hf⟩, hrd⟩, hB'⟩ := hB
    cases h0 : ops[k]? with
    | none => rw [h0] at hrd; cases hrd
    | some o =>
      rw [h0] at hrd
      have hp : pickL ops (k :: r) = o :: pickL ops r := by simp [pickL, h0]
      rw [hp] at h
      have hr' : k ∈ Region.ready md ops d := by simpa using hr
      have hq : qOp P ops (fun w' => ∃ x : Cls S, w' = x.w) k (wpQuiet P ops (fun w' => ∃ x : Cls S, w' = x.w) (fun a' => wpAnyW P md ops Q n S f (listed (k :: r) d) a' w) (pickL ops r)) a := by unfold qOp; simp only [h0]; exact h
      obtain ⟨v, hy, hK⟩ := yieldsIn_of_qOp h0 hq
      exact wpAnyW.first h0 hks.1 hlast (Region.noSelect_spec hsel) (fun c a w => hQ o v c a w) _ S d a w inv (Region.free_spec h0 hf) hr' (quiet_yieldsIf hrd hy) hS (ih hks.2 f _ _ (inv.set hr' hks.1) hB' hK)
/-- One operation that comes up alone; behind it more may be said of the world. -/
theorem wpAnyW.event {n : Nat} (k : Nat) (hk : k ≠ n) {f : Nat} {d : Array Bool} {a : Act} {w : World} {o : Oper} (hr : Region.ready md ops d = [k]) (h0 : ops[k]? = some o)
    (h : wpList P ops (midQ Q fun a' w' => ∃ S' : World → Prop, (∀ W, S' W → S W) ∧ S' w' ∧ wpAnyW P md ops Q n S' f (d.setIfInBounds k true) a' w') [o] a w) : wpAnyW P md ops Q n S (f + 1) d a w := by
  refine ⟨fun h1 => (by rw [h1] at hr; cases hr), fun i hi => ?_⟩
  rw [hr] at hi
  obtain rfl : i = k := by simpa using hi
  exact ⟨fun e => absurd e hk, fun _ => wpOp_of_mid h0 h⟩
/-- The last one. -/
theorem wpAnyW.last {n : Nat} {f : Nat} {d : Array Bool} {a : Act} {w : World} {o : Oper} (hr : Region.ready md ops d = [n]) (h0 : ops[n]? = some o) (hd : Region.ready md ops (d.setIfInBounds n true) = [])
    (h : wpList P ops (midQ Q fun a' w' => Q .normal a' w') [o] a w) : wpAnyW P md ops Q n S (f + 1) d a w := by
  refine ⟨fun h1 => (by rw [h1] at hr; cases hr), fun i hi => ?_⟩
  rw [hr] at hi
  obtain rfl : i = n := by simpa using hi
  exact ⟨fun _ => wpOp_mono (fun a' w' h => ⟨hd, h⟩) (wpOp_of_mid h0 h), fun e => absurd rfl e⟩
end
/-- The beginning. -/
theorem wp_region_W {P : Program} (S : World → Prop) (n : Nat) {id : Nat} {Q : Exit → Act → World → Prop} {a : Act} {w : World} {l : List Oper} (hm : P.follows .mixedOrders = true)
    (h : wpAnyW P .any l.toArray (NoPanic Q) n S l.length (Array.replicate l.length false) a w.drew) : (Code.region id l.toArray true).wp P Q a w := by
  refine wp_region_noPanic (wp_region_any hm ?_)
  have := wpAnyW.any _ _ _ _ _ h
  simpa using this
end Go.Proofs.YtkmoeflodafoeaaGreatDoor.V
namespace Go.Proofs.YtkmoeflodafoeaaGreatDoor
set_option maxRecDepth 100000
namespace Cc
theorem ta_unknown_unknown (v : Value) (w : World) : (Instr.typeAssert (.iface 280 v) 127 280 true).run Tryz.prog w = .ok (.tuple #[v, .bool true]) w := by kernel_rfl
theorem ta_unknown_failure (v : Value) (w : World) : (Instr.typeAssert (.iface 280 v) 127 281 true).run Tryz.prog w = .ok (.tuple #[.agg #[.slice none 0 0], .bool false]) w := by kernel_rfl
theorem ta_unknown_function (v : Value) (w : World) : (Instr.typeAssert (.iface 280 v) 127 283 true).run Tryz.prog w = .ok (.tuple #[.agg #[.slice none 0 0, .nilIface, .nilIface], .bool false]) w := by kernel_rfl
theorem ta_unknown_pair (v : Value) (w : World) : (Instr.typeAssert (.iface 280 v) 127 286 true).run Tryz.prog w = .ok (.tuple #[.agg #[.slice none 0 0, .nilIface, .nilIface], .bool false]) w := by kernel_rfl
theorem ta_unknown_list (v : Value) (w : World) : (Instr.typeAssert (.iface 280 v) 127 289 true).run Tryz.prog w = .ok (.tuple #[.agg #[.slice none 0 0, .nilIface], .bool false]) w := by kernel_rfl
theorem ta_unknown_box (v : Value) (w : World) : (Instr.typeAssert (.iface 280 v) 127 292 true).run Tryz.prog w = .ok (.tuple #[.agg #[.slice none 0 0, .nilIface, .nilIface], .bool false]) w := by kernel_rfl
theorem ta_base_unknown (v : Value) (w : World) : (Instr.typeAssert (.iface 321 v) 127 280 true).run Tryz.prog w = .ok (.tuple #[.agg #[.slice none 0 0], .bool false]) w := by kernel_rfl
theorem ta_base_failure (v : Value) (w : World) : (Instr.typeAssert (.iface 321 v) 127 281 true).run Tryz.prog w = .ok (.tuple #[.agg #[.slice none 0 0], .bool false]) w := by kernel_rfl
theorem ta_base_function (v : Value) (w : World) : (Instr.typeAssert (.iface 321 v) 127 283 true).run Tryz.prog w = .ok (.tuple #[.agg #[.slice none 0 0, .nilIface, .nilIface], .bool false]) w := by kernel_rfl
theorem ta_base_pair (v : Value) (w : World) : (Instr.typeAssert (.iface 321 v) 127 286 true).run Tryz.prog w = .ok (.tuple #[.agg #[.slice none 0 0, .nilIface, .nilIface], .bool false]) w := by kernel_rfl
theorem ta_base_list (v : Value) (w : World) : (Instr.typeAssert (.iface 321 v) 127 289 true).run Tryz.prog w = .ok (.tuple #[.agg #[.slice none 0 0, .nilIface], .bool false]) w := by kernel_rfl
theorem ta_base_box (v : Value) (w : World) : (Instr.typeAssert (.iface 321 v) 127 292 true).run Tryz.prog w = .ok (.tuple #[.agg #[.slice none 0 0, .nilIface, .nilIface], .bool false]) w := by kernel_rfl
theorem ta_failure_unknown (v : Value) (w : World) : (Instr.typeAssert (.iface 281 v) 127 280 true).run Tryz.prog w = .ok (.tuple #[.agg #[.slice none 0 0], .bool false]) w := by kernel_rfl
theorem ta_failure_failure (v : Value) (w : World) : (Instr.typeAssert (.iface 281 v) 127 281 true).run Tryz.prog w = .ok (.tuple #[v, .bool true]) w := by kernel_rfl
theorem ta_failure_function (v : Value) (w : World) : (Instr.typeAssert (.iface 281 v) 127 283 true).run Tryz.prog w = .ok (.tuple #[.agg #[.slice none 0 0, .nilIface, .nilIface], .bool false]) w := by kernel_rfl
theorem ta_failure_pair (v : Value) (w : World) : (Instr.typeAssert (.iface 281 v) 127 286 true).run Tryz.prog w = .ok (.tuple #[.agg #[.slice none 0 0, .nilIface, .nilIface], .bool false]) w := by kernel_rfl
theorem ta_failure_list (v : Value) (w : World) : (Instr.typeAssert (.iface 281 v) 127 289 true).run Tryz.prog w = .ok (.tuple #[.agg #[.slice none 0 0, .nilIface], .bool false]) w := by kernel_rfl
theorem ta_failure_box (v : Value) (w : World) : (Instr.typeAssert (.iface 281 v) 127 292 true).run Tryz.prog w = .ok (.tuple #[.agg #[.slice none 0 0, .nilIface, .nilIface], .bool false]) w := by kernel_rfl
theorem ta_function_unknown (v : Value) (w : World) : (Instr.typeAssert (.iface 283 v) 127 280 true).run Tryz.prog w = .ok (.tuple #[.agg #[.slice none 0 0], .bool false]) w := by kernel_rfl
theorem ta_function_failure (v : Value) (w : World) : (Instr.typeAssert (.iface 283 v) 127 281 true).run Tryz.prog w = .ok (.tuple #[.agg #[.slice none 0 0], .bool false]) w := by kernel_rfl
theorem ta_function_function (v : Value) (w : World) : (Instr.typeAssert (.iface 283 v) 127 283 true).run Tryz.prog w = .ok (.tuple #[v, .bool true]) w := by kernel_rfl
theorem ta_function_pair (v : Value) (w : World) : (Instr.typeAssert (.iface 283 v) 127 286 true).run Tryz.prog w = .ok (.tuple #[.agg #[.slice none 0 0, .nilIface, .nilIface], .bool false]) w := by kernel_rfl
theorem ta_function_list (v : Value) (w : World) : (Instr.typeAssert (.iface 283 v) 127 289 true).run Tryz.prog w = .ok (.tuple #[.agg #[.slice none 0 0, .nilIface], .bool false]) w := by kernel_rfl
theorem ta_function_box (v : Value) (w : World) : (Instr.typeAssert (.iface 283 v) 127 292 true).run Tryz.prog w = .ok (.tuple #[.agg #[.slice none 0 0, .nilIface, .nilIface], .bool false]) w := by kernel_rfl
theorem ta_pair_unknown (v : Value) (w : World) : (Instr.typeAssert (.iface 286 v) 127 280 true).run Tryz.prog w = .ok (.tuple #[.agg #[.slice none 0 0], .bool false]) w := by kernel_rfl
theorem ta_pair_failure (v : Value) (w : World) : (Instr.typeAssert (.iface 286 v) 127 281 true).run Tryz.prog w = .ok (.tuple #[.agg #[.slice none 0 0], .bool false]) w := by kernel_rfl
theorem ta_pair_function (v : Value) (w : World) : (Instr.typeAssert (.iface 286 v) 127 283 true).run Tryz.prog w = .ok (.tuple #[.agg #[.slice none 0 0, .nilIface, .nilIface], .bool false]) w := by kernel_rfl
theorem ta_pair_pair (v : Value) (w : World) : (Instr.typeAssert (.iface 286 v) 127 286 true).run Tryz.prog w = .ok (.tuple #[v, .bool true]) w := by kernel_rfl
theorem ta_pair_list (v : Value) (w : World) : (Instr.typeAssert (.iface 286 v) 127 289 true).run Tryz.prog w = .ok (.tuple #[.agg #[.slice none 0 0, .nilIface], .bool false]) w := by kernel_rfl
theorem ta_pair_box (v : Value) (w : World) : (Instr.typeAssert (.iface 286 v) 127 292 true).run Tryz.prog w = .ok (.tuple #[.agg #[.slice none 0 0, .nilIface, .nilIface], .bool false]) w := by kernel_rfl
theorem ta_list_unknown (v : Value) (w : World) : (Instr.typeAssert (.iface 289 v) 127 280 true).run Tryz.prog w = .ok (.tuple #[.agg #[.slice none 0 0], .bool false]) w := by kernel_rfl
theorem ta_list_failure (v : Value) (w : World) : (Instr.typeAssert (.iface 289 v) 127 281 true).run Tryz.prog w = .ok (.tuple #[.agg #[.slice none 0 0], .bool false]) w := by kernel_rfl
theorem ta_list_function (v : Value) (w : World) : (Instr.typeAssert (.iface 289 v) 127 283 true).run Tryz.prog w = .ok (.tuple #[.agg #[.slice none 0 0, .nilIface, .nilIface], .bool false]) w := by kernel_rfl
theorem ta_list_pair (v : Value) (w : World) : (Instr.typeAssert (.iface 289 v) 127 286 true).run Tryz.prog w = .ok (.tuple #[.agg #[.slice none 0 0, .nilIface, .nilIface], .bool false]) w := by kernel_rfl
theorem ta_list_list (v : Value) (w : World) : (Instr.typeAssert (.iface 289 v) 127 289 true).run Tryz.prog w = .ok (.tuple #[v, .bool true]) w := by kernel_rfl
theorem ta_list_box (v : Value) (w : World) : (Instr.typeAssert (.iface 289 v) 127 292 true).run Tryz.prog w = .ok (.tuple #[.agg #[.slice none 0 0, .nilIface, .nilIface], .bool false]) w := by kernel_rfl
theorem ta_box_unknown (v : Value) (w : World) : (Instr.typeAssert (.iface 292 v) 127 280 true).run Tryz.prog w = .ok (.tuple #[.agg #[.slice none 0 0], .bool false]) w := by kernel_rfl
theorem ta_box_failure (v : Value) (w : World) : (Instr.typeAssert (.iface 292 v) 127 281 true).run Tryz.prog w = .ok (.tuple #[.agg #[.slice none 0 0], .bool false]) w := by kernel_rfl
theorem ta_box_function (v : Value) (w : World) : (Instr.typeAssert (.iface 292 v) 127 283 true).run Tryz.prog w = .ok (.tuple #[.agg #[.slice none 0 0, .nilIface, .nilIface], .bool false]) w := by kernel_rfl
theorem ta_box_pair (v : Value) (w : World) : (Instr.typeAssert (.iface 292 v) 127 286 true).run Tryz.prog w = .ok (.tuple #[.agg #[.slice none 0 0, .nilIface, .nilIface], .bool false]) w := by kernel_rfl
theorem ta_box_list (v : Value) (w : World) : (Instr.typeAssert (.iface 292 v) 127 289 true).run Tryz.prog w = .ok (.tuple #[.agg #[.slice none 0 0, .nilIface], .bool false]) w := by kernel_rfl
theorem ta_box_box (v : Value) (w : World) : (Instr.typeAssert (.iface 292 v) 127 292 true).run Tryz.prog w = .ok (.tuple #[v, .bool true]) w := by kernel_rfl
theorem eq_nil (t : TypeId) (v : Value) (w : World) : (binOp .eql 127 (.iface t v) .nilIface).run Tryz.prog w = .ok (.bool false) w := by kernel_rfl
theorem eq_nil0 (w : World) : (binOp .eql 127 .nilIface .nilIface).run Tryz.prog w = .ok (.bool true) w := by kernel_rfl
theorem ne_nil (t : TypeId) (v : Value) (w : World) : (binOp .neq 127 (.iface t v) .nilIface).run Tryz.prog w = .ok (.bool true) w := by kernel_rfl
theorem ne_nil0 (w : World) : (binOp .neq 127 .nilIface .nilIface).run Tryz.prog w = .ok (.bool false) w := by kernel_rfl
end Cc
end Go.Proofs.YtkmoeflodafoeaaGreatDoor
