/- Where tokens begin. -/
import Derived.Test.YtjddbiabkobfoaaDoorRefOneM
namespace Go.Proofs.YtjddbiabkobfoaaDoor
namespace Tx

theorem tk_beh (bs : List UInt8) : ∀ (f k : Nat), tk bs (beh bs f k) = tk bs k
  | 0, k => rfl
  | f + 1, k => by
    by_cases hk : k < bs.length
    · cases h : (B bs k == 35) with
      | true => rw [beh_remark hk h, tk_beh bs f, ← tk_remark hk h]
      | false =>
        cases h2 : blankB (B bs k) with
        | true => rw [beh_blank hk h h2, tk_beh bs f, ← tk_blank hk h2]
        | false => rw [beh_stop hk h h2]
    · rw [beh_end (by omega)]
theorem tk_behind (bs : List UInt8) (k : Nat) : tk bs (behind bs k) = tk bs k := tk_beh bs _ _
theorem beh_stops (bs : List UInt8) : ∀ (f k : Nat), bs.length - k ≤ f → k ≤ bs.length → k ≤ beh bs f k ∧ beh bs f k ≤ bs.length ∧ (beh bs f k < bs.length → (B bs (beh bs f k) == 35) = false ∧ blankB (B bs (beh bs f k)) = false)
  | 0, k => fun h h' => by
    have : beh bs 0 k = k := rfl
    rw [this]
    exact ⟨by omega, h', fun h2 => by omega⟩
  | f + 1, k => fun hf hk' => by
    by_cases hk : k < bs.length
    · cases h : (B bs k == 35) with
      | true =>
        have h1 := upTo_lt (p := notTen) hk (by simp at h; simp [notTen, h])
        have h2 := upTo_len notTen (Nat.le_of_lt hk)
        have h3 := beh_stops bs f (upTo notTen bs k) (by omega) h2
        rw [beh_remark hk h]
        exact ⟨by omega, h3.2⟩
      | false =>
        cases h2 : blankB (B bs k) with
        | true =>
          have h3 := beh_stops bs f (k + 1) (by omega) (by omega)
          rw [beh_blank hk h h2]
          exact ⟨by omega, h3.2⟩
        | false => rw [beh_stop hk h h2]; exact ⟨by omega, by omega, fun _ => ⟨h, h2⟩⟩
    · rw [beh_end (by omega)]
      exact ⟨by omega, hk', fun h => by omega⟩
theorem behind_stops {bs : List UInt8} {k : Nat} (hk : k ≤ bs.length) : k ≤ behind bs k ∧ behind bs k ≤ bs.length ∧ (behind bs k < bs.length → (B bs (behind bs k) == 35) = false ∧ blankB (B bs (behind bs k)) = false) := beh_stops bs _ _ (Nat.le_refl _) hk
end Tx
end Go.Proofs.YtjddbiabkobfoaaDoor
