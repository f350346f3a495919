/- As CalmV, with a last operation (number n), which waits for all the others: behind it nothing is asked of the world. -/
import Derived.Test.YtkmoeflodafoeaaGreatDoorCalmV
import Derived.StillTail
namespace Go.Proofs.YtkmoeflodafoeaaGreatDoor.V
section
variable {P : Program} {ops : Array Oper} {md : Region.Mode} {Q : Exit → Act → World → Prop} {S : World → Prop}
/-- Does n wait for all the others (for some of them by way of others)? -/
def lastB (md : Region.Mode) (ops : Array Oper) (n : Nat) : Bool := decide (n + 1 = ops.size) && Region.sinkB md ops n && Region.chainB md ops n
theorem last_waits {n i : Nat} {d : Array Bool} (h : lastB md ops n = true) (inv : HeadInv md ops n d) (hi : i < n) (hd : d.getD i true = false) : n ∉ Region.ready md ops d := by
  simp only [lastB, Bool.and_eq_true, decide_eq_true_eq] at h
  exact tail_waits h.1.2 h.2 (by omega) inv _ i rfl hi hd n (Nat.le_refl _)
theorem head0 {l : List Oper} (n : Nat) : HeadInv .any l.toArray n (Array.replicate l.length false) :=
  ⟨by simp, fun j oj _ hl => (by rw [getD_replicate_false] at hl; cases hl), fun t _ h => getD_in (by simpa using h) (getD_replicate_false _ _)⟩
/-- Whatever order is picked from here on; S holds behind each operation but the last one, and may be said more of from then on. -/
def wpAnyW (P : Program) (md : Region.Mode) (ops : Array Oper) (Q : Exit → Act → World → Prop) (n : Nat) : (World → Prop) → Nat → Array Bool → Act → World → Prop
  | _, 0, d, a, w => Region.ready md ops d = [] ∧ Q .normal a w
  | S, f + 1, d, a, w => (Region.ready md ops d = [] → Q .normal a w) ∧
    ∀ i ∈ Region.ready md ops d, (i = n → wpOp P ops Q i (fun a' w' => Region.ready md ops (d.setIfInBounds i true) = [] ∧ Q .normal a' w') a w) ∧ (i ≠ n → wpOp P ops Q i (fun a' w' => ∃ S' : World → Prop, (∀ W, S' W → S W) ∧ S' w' ∧ wpAnyW P md ops Q n S' f (d.setIfInBounds i true) a' w') a w)
theorem wpAny_end {f : Nat} {d : Array Bool} {a : Act} {w : World} (hr : Region.ready md ops d = []) (h : Q .normal a w) : wpAny P md ops Q f d a w := by
  cases f with
  | zero => exact ⟨hr, h⟩
  | succ f => exact ⟨fun _ => h, fun i hi => (by rw [hr] at hi; cases hi)⟩
theorem wpAnyW.any {n : Nat} : ∀ (f : Nat) (S : World → Prop) (d : Array Bool) (a : Act) (w : World), wpAnyW P md ops Q n S f d a w → wpAny P md ops Q f d a w
  | 0, _, _, _, _, h => h
  | f + 1, _, _, _, _, h => ⟨h.1, fun i hi => by
    by_cases e : i = n
    · exact wpOp_mono (fun a' w' ⟨h1, h2⟩ => wpAny_end h1 h2) ((h.2 i hi).1 e)
    · exact wpOp_mono (fun a' w' ⟨S', _, _, h'⟩ => wpAnyW.any f S' _ a' w' h') ((h.2 i hi).2 e)⟩
theorem wpAnyW.first {n i : Nat} {o : Oper} {v : Value} (hi : ops[i]? = some o) (hin : i < n) (hlast : lastB md ops n = true) (hsel : ∀ (j : Nat) (o : Oper) cs b, ops[j]? = some o → o.op ≠ .select cs b)
    (hQ : ∀ c a w, Q (.panic c) (a.put o.dst v) w → Q (.panic c) a w) :
    ∀ (f : Nat) (S : World → Prop) (d : Array Bool) (a : Act) (w : World), HeadInv md ops n d →
      (∀ j oj, ops[j]? = some oj → j ≠ i → d.getD j true = false → (∀ e ∈ oj.after, Region.binds md e = true → e.on ≠ i) → o.apart ops oj = true) →
      i ∈ Region.ready md ops d → YieldsIf P ops S o v a → S w → wpAnyW P md ops Q n S f (d.setIfInBounds i true) (a.put o.dst v) w → wpAnyW P md ops Q n S (f + 1) d a w := by
  intro f
  have hne : i ≠ n := by omega
  induction f with
  | zero =>
    intro S d a w inv _ hr hy hS H
    refine ⟨fun h => (by rw [h] at hr; cases hr), fun j hj => ?_⟩
    by_cases e : j = i
    · subst e
      exact ⟨fun e => absurd e hne, fun _ => hy.wpOp hi hS ⟨S, fun _ h => h, hS, H⟩⟩
    · have := ready_mono hj e
      rw [H.1] at this
      cases this
  | succ f ih =>
    intro S d a w inv hfree hr hy hS H
    refine ⟨fun h => (by rw [h] at hr; cases hr), fun j hj => ?_⟩
    by_cases e : j = i
    · subst e
      exact ⟨fun e => absurd e hne, fun _ => hy.wpOp hi hS ⟨S, fun _ h => h, hS, H⟩⟩
    · refine ⟨fun en => ?_, fun jn => ?_⟩
      · subst en
        exact absurd hj (last_waits hlast inv hin (mem_ready.1 hr).1)
      · obtain ⟨hjun, oj, hoj, hall⟩ := mem_ready.1 hj
        have hjn' : j < n := by
          have h1 := (Array.getElem?_eq_some_iff.1 hoj).1
          have h2 : n + 1 = ops.size := by simp only [lastB, Bool.and_eq_true, decide_eq_true_eq] at hlast; exact hlast.1.1
          omega
        have hno : ∀ e ∈ oj.after, Region.binds md e = true → e.on ≠ i := fun e he hb heq => by
          have h1 := hall e he hb
          have h0 := (mem_ready.1 hr).1
          rw [heq] at h1
          rcases Nat.lt_or_ge i d.size with h' | h'
          · simp [h'] at h0 h1; rw [h0] at h1; cases h1
          · simp [Array.getElem?_eq_none h'] at h1
        have h2 := wpOp_putIf hoj (hfree j oj hoj e hjun hno) (fun cs b => hsel i o cs b hi) (fun cs b => hsel j oj cs b hoj) hQ hy ((H.2 j (ready_mono hj e)).2 jn)
        refine wpOp_mono (fun a' w' h3 => ?_) h2
        obtain ⟨hy', S', hs, hS', h4⟩ := h3
        refine ⟨S', hs, hS', ih S' (d.setIfInBounds j true) a' w' (inv.set hj hjn') (fun k ok hk hki hku hkn => hfree k ok hk hki ?_ hkn) (ready_mono hr (Ne.symm e)) (YieldsIf.less hy' hs) hS' ?_⟩
        · by_cases q : j = k
          · subst q; exact hjun
          · rwa [getD_set_ne true q] at hku
        · rw [Array.setIfInBounds_comm _ _ e]
          exact h4
theorem wpAnyW.quiet {n : Nat} (hlast : lastB md ops n = true) (hsel : Region.noSelect ops = true) (hQ : ∀ (o : Oper) v c a w, Q (.panic c) (a.put o.dst v) w → Q (.panic c) a w) {S : World → Prop} {w : World} (hS : S w) (ks : List Nat) (hks : ks.all (fun k => decide (k < n)) = true) :
    ∀ (f : Nat) (d : Array Bool) (a : Act), HeadInv md ops n d → takesB md ops ks d = true →
      wpQuiet P ops (fun w' => ∃ x : Cls S, w' = x.w) (fun a' => wpAnyW P md ops Q n S f (listed ks d) a' w) (pickL ops ks) a → wpAnyW P md ops Q n S (f + ks.length) d a w := by
  induction ks with
  | nil => intro f d a _ _ h; exact h
  | cons k r ih =>
    intro f d a inv hB h
    simp only [List.all_cons, Bool.and_eq_true, decide_eq_true_eq] at hks
    simp only [takesB, Bool.and_eq_true] at hB
    obtain ⟨⟨⟨hr, hf⟩, hrd⟩, hB'⟩ := hB
    cases h0 : ops[k]? with
    | none => rw [h0] at hrd; cases hrd
    | some o =>
      rw [h0] at hrd
      have hp : pickL ops (k :: r) = o :: pickL ops r := by simp [pickL, h0]
      rw [hp] at h
      have hr' : k ∈ Region.ready md ops d := by simpa using hr
      have hq : qOp P ops (fun w' => ∃ x : Cls S, w' = x.w) k (wpQuiet P ops (fun w' => ∃ x : Cls S, w' = x.w) (fun a' => wpAnyW P md ops Q n S f (listed (k :: r) d) a' w) (pickL ops r)) a := by unfold qOp; simp only [h0]; exact h
      obtain ⟨v, hy, hK⟩ := yieldsIn_of_qOp h0 hq
      exact wpAnyW.first h0 hks.1 hlast (Region.noSelect_spec hsel) (fun c a w => hQ o v c a w) _ S d a w inv (Region.free_spec h0 hf) hr' (quiet_yieldsIf hrd hy) hS (ih hks.2 f _ _ (inv.set hr' hks.1) hB' hK)
/-- One operation that comes up alone; behind it more may be said of the world. -/
theorem wpAnyW.event {n : Nat} (k : Nat) (hk : k ≠ n) {f : Nat} {d : Array Bool} {a : Act} {w : World} {o : Oper} (hr : Region.ready md ops d = [k]) (h0 : ops[k]? = some o)
    (h : wpList P ops (midQ Q fun a' w' => ∃ S' : World → Prop, (∀ W, S' W → S W) ∧ S' w' ∧ wpAnyW P md ops Q n S' f (d.setIfInBounds k true) a' w') [o] a w) : wpAnyW P md ops Q n S (f + 1) d a w := by
  refine ⟨fun h1 => (by rw [h1] at hr; cases hr), fun i hi => ?_⟩
  rw [hr] at hi
  obtain rfl : i = k := by simpa using hi
  exact ⟨fun e => absurd e hk, fun _ => wpOp_of_mid h0 h⟩
/-- The last one. -/
theorem wpAnyW.last {n : Nat} {f : Nat} {d : Array Bool} {a : Act} {w : World} {o : Oper} (hr : Region.ready md ops d = [n]) (h0 : ops[n]? = some o) (hd : Region.ready md ops (d.setIfInBounds n true) = [])
    (h : wpList P ops (midQ Q fun a' w' => Q .normal a' w') [o] a w) : wpAnyW P md ops Q n S (f + 1) d a w := by
  refine ⟨fun h1 => (by rw [h1] at hr; cases hr), fun i hi => ?_⟩
  rw [hr] at hi
  obtain rfl : i = n := by simpa using hi
  exact ⟨fun _ => wpOp_mono (fun a' w' h => ⟨hd, h⟩) (wpOp_of_mid h0 h), fun e => absurd rfl e⟩
end
/-- The beginning. -/
theorem wp_region_W {P : Program} (S : World → Prop) (n : Nat) {id : Nat} {Q : Exit → Act → World → Prop} {a : Act} {w : World} {l : List Oper} (hm : P.follows .mixedOrders = true)
    (h : wpAnyW P .any l.toArray (NoPanic Q) n S l.length (Array.replicate l.length false) a w.drew) : (Code.region id l.toArray true).wp P Q a w := by
  refine wp_region_noPanic (wp_region_any hm ?_)
  have := wpAnyW.any _ _ _ _ _ h
  simpa using this
end Go.Proofs.YtkmoeflodafoeaaGreatDoor.V
