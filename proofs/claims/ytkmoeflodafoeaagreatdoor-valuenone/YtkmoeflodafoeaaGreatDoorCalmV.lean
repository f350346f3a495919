/- Regions that draw their order, with calls that make memory: a condition on the world that grows behind each of them (S' says more than S). Reads may be taken first, in any order that the edges allow; calls, allocs, stores come up alone. -/
import Derived.Test.YtkmoeflodafoeaaGreatDoorCalm
import Derived.OrdersHeld
import Derived.Deep.RegionHeld3
namespace Go.Proofs.YtkmoeflodafoeaaGreatDoor.V
/-- Operations that hand back a value at once (no call). -/
def readsB (o : Oper) : Bool :=
  match o.op with
  | .move _ | .assign _ | .load _ _ | .fieldAddr _ _ _ | .field _ _ _ | .indexAddr _ _ _ | .index _ _ _ | .binOp _ _ _ _ _ | .unOp _ _ _ | .convert _ _ _ | .extract _ _ | .nilCheck _ | .typeAssert _ _ _ _ | .makeInterface _ _ | .build _ _ | .slice _ _ _ _ _ | .pick _ _ _ | .lookup _ _ _ _ | .makeFunc _ _ _ => true
  | _ => false
theorem value_only {P : Program} {s : Sem Value} {w w' : World} {n : Next} (h : (do let x ← s; pure (Next.value x) : Sem Next).run P w = .ok n w') : ∃ v, n = .value v := by
  rw [Sem.run_bind] at h
  generalize s.run P w = r at h
  cases r with
  | ok a w1 => simp only [Sem.run_pure] at h; cases h; exact ⟨_, rfl⟩
  | halt x w1 => cases h
theorem nil_value {P : Program} {t : TypeId} {u : Value} {name : String} {first captured : Array Value} {why : Unsupported} {w w' : World} {n : Next}
    (h : (do if (← nilAhead ((← program).types.size + Made.depth) t u name) != some false then unsupported why
             pure (Next.value (.func (.method name) first captured)) : Sem Next).run P w = .ok n w') : ∃ v, n = .value v := by
  simp only [Sem.run_bind] at h
  generalize (program : Sem Program).run P w = r0 at h
  cases r0 with
  | halt x w1 => cases h
  | ok p w1 =>
    simp only [Result.andThen] at h
    generalize (nilAhead (p.types.size + Made.depth) t u name).run P w1 = r1 at h
    cases r1 with
    | halt x w2 => cases h
    | ok q w2 =>
      simp only at h
      split at h
      · cases h
      · simp only [Sem.run_pure] at h; cases h; exact ⟨_, rfl⟩
theorem reads_value {P : Program} {o : Oper} (ho : readsB o = true) (ρ : Operand → Value) {w w' : World} {n : Next} (h : (execOp ρ o).run P w = .ok n w') : ∃ v, n = .value v := by
  obtain ⟨d, op, g, t, p, q⟩ := o
  unfold execOp at h
  cases op
  case nilCheck x =>
    simp only at h
    split at h
    all_goals first
      | (simp only [Sem.run_pure] at h; cases h; exact ⟨_, rfl⟩)
      | (cases h; done)
      | skip
    all_goals (split at h)
    all_goals first
      | (simp only [Sem.run_pure] at h; cases h; exact ⟨_, rfl⟩)
      | (cases h; done)
      | exact nil_value h
  case pick c a b =>
    rw [Sem.run_bind] at h
    generalize (asBool (ρ c)).run P w = r at h
    cases r with
    | ok a w1 => cases h; exact ⟨_, rfl⟩
    | halt x w1 => cases h
  all_goals first
    | exact value_only h
    | (exfalso; simp [readsB] at ho; done)
    | (simp only [Sem.run_pure] at h; cases h; exact ⟨_, rfl⟩)
theorem quiet_value {P : Program} {o : Oper} {a : Act} {C : World → Prop} {w : World} {v : Value} (ho : readsB o = true) (h : o.quietAt P a C w v) : (execOp a.eval o).run P w = .ok (.value v) w := by
  unfold Oper.quietAt at h
  have h1 := fun n w' => reads_value (P := P) ho a.eval (w := w) (w' := w') (n := n)
  generalize (execOp a.eval o).run P w = r at *
  cases r with
  | ok n w' =>
    obtain ⟨u, rfl⟩ := h1 _ _ rfl
    obtain ⟨rfl, rfl⟩ := h
    rfl
  | halt x w' => simp only [Oper.quietUpon] at h
theorem quiet_yieldsIf {P : Program} {ops : Array Oper} {o : Oper} {a : Act} {S : World → Prop} {v : Value} (ho : readsB o = true) (h : YieldsIn P ops (fun w' => ∃ x : Cls S, w' = x.w) o v a) : YieldsIf P ops S o v a :=
  h.imp (fun ⟨hw, hq⟩ => ⟨hw, fun w hS => quiet_value ho (hq w ⟨⟨w, hS⟩, rfl⟩)⟩) id
section
variable {P : Program} {ops : Array Oper} {md : Region.Mode} {Q : Exit → Act → World → Prop} {S : World → Prop}
/-- What holds behind an operation, in the place of the region's own end. -/
def midQ (Q : Exit → Act → World → Prop) (K : Act → World → Prop) : Exit → Act → World → Prop
  | .normal, a, w => K a w
  | e, a, w => Q e a w
theorem wp_midQ {o : Oper} {a : Act} {w : World} {K : Act → World → Prop} (h : o.wp P a w (fun a' w' => midQ Q K .normal a' w') (midQ Q K)) : o.wp P a w K Q := by
  unfold Oper.wp at *
  generalize (execOp a.eval o).run P w = r at *
  cases r with
  | ok n w' =>
    cases n <;> simp only [Oper.upon, midQ] at h ⊢ <;>
      first
        | exact h
        | exact Calls.mono h (fun e w'' he => by cases e <;> exact he)
        | exact Rows.mono h (fun _ _ he => he)
  | halt x w' => cases x <;> simp only [Oper.upon, midQ] at h ⊢ <;> exact h
theorem wpOp_of_mid {i : Nat} {o : Oper} {a : Act} {w : World} {K : Act → World → Prop} (hi : ops[i]? = some o) (h : wpList P ops (midQ Q K) [o] a w) : wpOp P ops Q i K a w := by
  unfold wpOp
  simp only [hi]
  unfold wpList at h
  split at h
  · rename_i hw
    simp only [hw, if_true]
    refine h.imp (fun h => wp_midQ h) (fun h => ⟨h.1, ?_⟩)
    obtain ⟨a, w, h⟩ := h.2
    exact ⟨a, w, h⟩
  · rename_i hw
    simp only [hw]
    exact h
/-- Whatever order is picked from here on; S holds behind each operation, and may be said more of (S') from then on. -/
def wpAnyV (P : Program) (md : Region.Mode) (ops : Array Oper) (Q : Exit → Act → World → Prop) : (World → Prop) → Nat → Array Bool → Act → World → Prop
  | _, 0, d, a, w => Region.ready md ops d = [] ∧ Q .normal a w
  | S, f + 1, d, a, w => (Region.ready md ops d = [] → Q .normal a w) ∧
    ∀ i ∈ Region.ready md ops d, wpOp P ops Q i (fun a' w' => ∃ S' : World → Prop, (∀ W, S' W → S W) ∧ S' w' ∧ wpAnyV P md ops Q S' f (d.setIfInBounds i true) a' w') a w
theorem wpAnyV.any : ∀ (f : Nat) (S : World → Prop) (d : Array Bool) (a : Act) (w : World), wpAnyV P md ops Q S f d a w → wpAny P md ops Q f d a w
  | 0, _, _, _, _, h => h
  | f + 1, _, _, _, _, h => ⟨h.1, fun i hi => wpOp_mono (fun a' w' ⟨S', _, _, h'⟩ => wpAnyV.any f S' _ a' w' h') (h.2 i hi)⟩
theorem YieldsIf.less {o : Oper} {v : Value} {a : Act} {S' : World → Prop} (h : YieldsIf P ops S o v a) (hs : ∀ W, S' W → S W) : YieldsIf P ops S' o v a :=
  h.imp (fun ⟨hw, hv⟩ => ⟨hw, fun w hS => hv w (hs w hS)⟩) id
theorem wpAnyV.first {i : Nat} {o : Oper} {v : Value} (hi : ops[i]? = some o) (hsel : ∀ (j : Nat) (o : Oper) cs b, ops[j]? = some o → o.op ≠ .select cs b)
    (hQ : ∀ c a w, Q (.panic c) (a.put o.dst v) w → Q (.panic c) a w) :
    ∀ (f : Nat) (S : World → Prop) (d : Array Bool) (a : Act) (w : World),
      (∀ j oj, ops[j]? = some oj → j ≠ i → d.getD j true = false → (∀ e ∈ oj.after, Region.binds md e = true → e.on ≠ i) → o.apart ops oj = true) →
      i ∈ Region.ready md ops d → YieldsIf P ops S o v a → S w → wpAnyV P md ops Q S f (d.setIfInBounds i true) (a.put o.dst v) w → wpAnyV P md ops Q S (f + 1) d a w := by
  intro f
  induction f with
  | zero =>
    intro S d a w _ hr hy hS H
    refine ⟨fun h => (by rw [h] at hr; cases hr), fun j hj => ?_⟩
    by_cases e : j = i
    · subst e; exact hy.wpOp hi hS ⟨S, fun _ h => h, hS, H⟩
    · have := ready_mono hj e
      rw [H.1] at this
      cases this
  | succ f ih =>
    intro S d a w hfree hr hy hS H
    refine ⟨fun h => (by rw [h] at hr; cases hr), fun j hj => ?_⟩
    by_cases e : j = i
    · subst e; exact hy.wpOp hi hS ⟨S, fun _ h => h, hS, H⟩
    · obtain ⟨hjun, oj, hoj, hall⟩ := mem_ready.1 hj
      have hno : ∀ e ∈ oj.after, Region.binds md e = true → e.on ≠ i := fun e he hb heq => by
        have h1 := hall e he hb
        have h0 := (mem_ready.1 hr).1
        rw [heq] at h1
        rcases Nat.lt_or_ge i d.size with h' | h'
        · simp [h'] at h0 h1; rw [h0] at h1; cases h1
        · simp [Array.getElem?_eq_none h'] at h1
      have h2 := wpOp_putIf hoj (hfree j oj hoj e hjun hno) (fun cs b => hsel i o cs b hi) (fun cs b => hsel j oj cs b hoj) hQ hy (H.2 j (ready_mono hj e))
      refine wpOp_mono (fun a' w' h3 => ?_) h2
      obtain ⟨hy', S', hs, hS', h4⟩ := h3
      refine ⟨S', hs, hS', ih S' (d.setIfInBounds j true) a' w' (fun k ok hk hki hku hkn => hfree k ok hk hki ?_ hkn) (ready_mono hr (Ne.symm e)) (YieldsIf.less hy' hs) hS' ?_⟩
      · by_cases q : j = k
        · subst q; exact hjun
        · rwa [getD_set_ne true q] at hku
      · rw [Array.setIfInBounds_comm _ _ e]
        exact h4
/-- What stands listed behind these. -/
def listed : List Nat → Array Bool → Array Bool
  | [], d => d
  | k :: r, d => listed r (d.setIfInBounds k true)
/-- May these be taken first, one behind the other? -/
def takesB (md : Region.Mode) (ops : Array Oper) : List Nat → Array Bool → Bool
  | [], _ => true
  | k :: r, d => (Region.ready md ops d).contains k && Region.free md ops d k && (match ops[k]? with | some o => readsB o | none => false) && takesB md ops r (d.setIfInBounds k true)
/-- These operations. -/
def pickL (ops : Array Oper) (ks : List Nat) : List Oper := ks.filterMap fun k => ops[k]?
theorem wpAnyV.quiet (hsel : Region.noSelect ops = true) (hQ : ∀ (o : Oper) v c a w, Q (.panic c) (a.put o.dst v) w → Q (.panic c) a w) {S : World → Prop} {w : World} (hS : S w) (ks : List Nat) :
    ∀ (f : Nat) (d : Array Bool) (a : Act), takesB md ops ks d = true →
      wpQuiet P ops (fun w' => ∃ x : Cls S, w' = x.w) (fun a' => wpAnyV P md ops Q S f (listed ks d) a' w) (pickL ops ks) a → wpAnyV P md ops Q S (f + ks.length) d a w := by
  induction ks with
  | nil => intro f d a _ h; exact h
  | cons k r ih =>
    intro f d a hB h
    simp only [takesB, Bool.and_eq_true] at hB
    obtain ⟨⟨⟨hr, hf⟩, hrd⟩, hB'⟩ := hB
    cases h0 : ops[k]? with
    | none => rw [h0] at hrd; cases hrd
    | some o =>
      rw [h0] at hrd
      have hp : pickL ops (k :: r) = o :: pickL ops r := by simp [pickL, h0]
      rw [hp] at h
      have hr' : k ∈ Region.ready md ops d := by simpa using hr
      have hq : qOp P ops (fun w' => ∃ x : Cls S, w' = x.w) k (wpQuiet P ops (fun w' => ∃ x : Cls S, w' = x.w) (fun a' => wpAnyV P md ops Q S f (listed (k :: r) d) a' w) (pickL ops r)) a := by unfold qOp; simp only [h0]; exact h
      obtain ⟨v, hy, hK⟩ := yieldsIn_of_qOp h0 hq
      exact wpAnyV.first h0 (Region.noSelect_spec hsel) (fun c a w => hQ o v c a w) _ S d a w (Region.free_spec h0 hf) hr' (quiet_yieldsIf hrd hy) hS (ih f _ _ hB' hK)
/-- One operation that comes up alone; behind it more may be said of the world. -/
theorem wpAnyV.event (k : Nat) {f : Nat} {d : Array Bool} {a : Act} {w : World} {o : Oper} (hr : Region.ready md ops d = [k]) (h0 : ops[k]? = some o)
    (h : wpList P ops (midQ Q fun a' w' => ∃ S' : World → Prop, (∀ W, S' W → S W) ∧ S' w' ∧ wpAnyV P md ops Q S' f (d.setIfInBounds k true) a' w') [o] a w) : wpAnyV P md ops Q S (f + 1) d a w := by
  refine ⟨fun h1 => (by rw [h1] at hr; cases hr), fun i hi => ?_⟩
  rw [hr] at hi
  obtain rfl : i = k := by simpa using hi
  exact wpOp_of_mid h0 h
theorem wpAnyV.done {f : Nat} {d : Array Bool} {a : Act} {w : World} (hr : Region.ready md ops d = []) (h : Q .normal a w) : wpAnyV P md ops Q S f d a w := by
  cases f with
  | zero => exact ⟨hr, h⟩
  | succ f => exact ⟨fun _ => h, fun i hi => (by rw [hr] at hi; cases hi)⟩
end
/-- The beginning. -/
theorem wp_region_V {P : Program} (S : World → Prop) {id : Nat} {Q : Exit → Act → World → Prop} {a : Act} {w : World} {l : List Oper} (hm : P.follows .mixedOrders = true)
    (h : wpAnyV P .any l.toArray (NoPanic Q) S l.length (Array.replicate l.length false) a w.drew) : (Code.region id l.toArray true).wp P Q a w := by
  refine wp_region_noPanic (wp_region_any hm ?_)
  have := wpAnyV.any _ _ _ _ _ h
  simpa using this
end Go.Proofs.YtkmoeflodafoeaaGreatDoor.V
