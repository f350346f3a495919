/- The document's Ground. -/
import Derived.Test.YtaaokecdmbmgbaaDoorUba
import Derived.Test.YtaaokecdmbmgbaaDoorUbf
namespace Go.Proofs.YtaaokecdmbmgbaaDoor
open Go.RowKit Cc
set_option maxRecDepth 100000
set_option linter.unusedSimpArgs false
set_option linter.unusedVariables false
namespace Cc
def gT : H → Ty
  | .hi => .ti | .hb => .tb | .ht => .tt | .ls => .tl .tq | .tw .fn => .tf .tq .tq | .tw .pr => .tp .tq .tq | .tw .bx => .tx .tq
theorem gT_hd (h : H) : hdI (gT h) = hB h := by
  cases h <;> (try rfl)
  rename_i k; cases k <;> rfl
def nH : H → Nat
  | .ls => 1 | .tw .fn => 2 | .tw .pr => 2 | .tw .bx => 1 | _ => 0
theorem npD_hB (h : H) : npD (hB h) = (nH h : Int) := by
  cases h <;> (try rfl)
  rename_i k; cases k <;> rfl
theorem gT_enc (h : H) : T3.Tp.enc (gT h) = UInt8.ofNat (hB h).toNat :: List.replicate (nH h) 63 := by
  cases h <;> (try rfl)
  rename_i k; cases k <;> rfl
end Cc
set_option maxHeartbeats 1600000 in
theorem dGround_any (h : H) (w : World) :
    Calls Tryd.prog 40 #[.int .u8 (hB h)] w fun e w' => e = .returned (.string (sT (gT h))) ∧ Below w.heap.size w w' := by
  have cp := dparts_any (hB h)
  rw [npD_hB] at cp
  have HE : Aside (T3.Tp.enc (gT h) = UInt8.ofNat (hB h).toNat :: List.replicate (nH h) 63) := gT_enc h
  have hr := hB_rng h
  have hn : nH h ≤ 2 := by cases h <;> (try decide); rename_i k; cases k <;> decide
  have hcv : ∀ c8 : UInt8, (c8.toNat : Int) = hB h → (convert 89 9 (.slice (some ⟨w.heap.size, 0, none⟩) 1 1)).run Tryd.prog (w.alloc (.cells #[.int .u8 (hB h)] 5)) = .ok (.string ⟨#[c8]⟩) (w.alloc (.cells #[.int .u8 (hB h)] 5)) := by
    intro c8 hc8
    have := run_convert_bytes_back (P := Tryd.prog) (w.alloc (.cells #[.int .u8 (hB h)] 5)) 89 9 5 ⟨w.heap.size, 0, none⟩ 1 [c8] (by kernel_rfl) (by kernel_rfl) (by kernel_rfl) (fun d hd => by
      obtain rfl : d = 0 := by simpa using hd
      simp [Addr.add, hc8])
    simpa using this
  have hc8 : ((UInt8.ofNat (hB h).toNat).toNat : Int) = hB h := by
    simp; omega
  have hcv := hcv _ hc8
  clear hc8
  generalize UInt8.ofNat (hB h).toNat = c8 at *
  generalize hB h = c at *
  generalize nH h = n at *
  have hA : ∀ o, Below w.heap.size w (w.alloc o) := fun o => (Below.refl _ _).alloc (Nat.le_refl _) _
  go_enter Tryd.func40, Tryd.ntmps40
  go_wp2_with fail
  go_loopg [3, 4] n (fun gq v3 v4 wr => wr = w.alloc (.cells #[.int .u8 c] 5) ∧ ∃ k : Nat, k + gq = n ∧ v3 = .string (T3.S (c8 :: List.replicate k 63)) ∧ v4 = .int .i64 (k : Int))
  case atStart => exact ⟨rfl, 0, by omega, rfl, rfl⟩
  case round =>
    obtain ⟨rfl, k, hkg, rfl, rfl⟩ := hrel
    by_cases hk : k < n
    · have hk' : (k : Int) < (n : Int) := by omega
      have HS : Aside (T3.S (c8 :: List.replicate k 63) ++ (⟨#[63]⟩ : ByteArray) = T3.S (c8 :: List.replicate (k + 1) 63)) := by
        show _ = _
        apply ByteArray.ext
        simp [T3.S, List.replicate_succ', List.append_assoc]
      have hk2 : (k : Int) ≤ 2 := by omega
      have hz : (T3.S (c8 :: List.replicate k 63)).size = k + 1 := by rw [T3.S_size]; simp
      generalize T3.S (c8 :: List.replicate k 63) = sk at *
      have hz2 : sk.size + 1 ≤ 4 := by omega
      go_wp2_with (go_at_call 55; refine (cp _).mono ?_; rintro e w1 ⟨rfl, rfl⟩)
      go_roundg (n - (k + 1))
      case measure => omega
      case rel => exact ⟨rfl, k + 1, by omega, by rw [← HS.out], by go_num⟩
    · have hk' : ¬ (k : Int) < (n : Int) := by omega
      obtain rfl : k = n := by omega
      go_wp2_with (go_at_call 55; refine (cp _).mono ?_; rintro e w1 ⟨rfl, rfl⟩)
      go_ret
      exact ⟨congrArg (fun s => Ending.returned (.string s)) (by show _ = T3.S _; rw [HE.out]), hA _⟩
end Go.Proofs.YtaaokecdmbmgbaaDoor
