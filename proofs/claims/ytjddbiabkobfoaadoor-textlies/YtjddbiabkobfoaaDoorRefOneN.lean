/- What the document's One answers. -/
import Derived.Test.YtjddbiabkobfoaaDoorRefMarks
import Derived.Test.YtjddbiabkobfoaaDoorRefWorth
import Derived.Test.YtjddbiabkobfoaaDoorRefNames
namespace Go.Proofs.YtjddbiabkobfoaaDoor
open Go.RowKit
set_option maxRecDepth 100000

/-- A token of the document's, its place apart. -/
def rtok (kind n : Int) (s : List UInt8) (fr to' : Int) : Value := .agg #[.int .i8 kind, .int .i64 n, .string ⟨s.toArray⟩, .int .i64 0, .int .i64 0, .int .i64 fr, .int .i64 to']
/-- How One ends. -/
def OneEnd (r : Except Int (Tx.Tk × Nat)) (k : Nat) (e : Ending) : Prop := match r with
  | .error x => e = .returned (.tuple #[rtok 0 0 [] 0 0, .int .i64 x])
  | .ok (t, j) => e = .returned (.tuple #[rtok t.kind t.n t.s k j, .int .i64 0])
theorem OneEnd.no {r : Except Int (Tx.Tk × Nat)} {k : Nat} {e : Ending} {x : Int} (h : r = .error x) (he : e = .returned (.tuple #[rtok 0 0 [] 0 0, .int .i64 x])) : OneEnd r k e := by subst h; exact he
theorem OneEnd.yes {r : Except Int (Tx.Tk × Nat)} {k j : Nat} {e : Ending} {t : Tx.Tk} (h : r = .ok (t, j)) (he : e = .returned (.tuple #[rtok t.kind t.n t.s k j, .int .i64 0])) : OneEnd r k e := by subst h; exact he

theorem Lies.alloc {w : World} {b off : Nat} {bs : List UInt8} (h : Lies w b off bs) (o : Obj) : Lies (w.alloc o) b off bs := fun j hj => (World.grownBy_alloc _ _ none).cell (h j hj) (by simp)

/-- A number by its worth. -/
theorem Tx.oneNum_worth {bs : List UInt8} {k : Nat} (hk : k < bs.length) (h2 : Tx.digitB (Tx.B bs k) = true) : Tx.oneNum bs k = match Tx.wF (Tx.sub bs k (Tx.upTo Tx.innerB bs k)) with
    | some v => .ok (⟨3, v, []⟩, Tx.upTo Tx.innerB bs k)
    | none => .error 13 := by
  have hin : Tx.innerB (Tx.B bs k) = true := by unfold Tx.innerB; simp [h2]
  have hj : k + 1 ≤ Tx.upTo Tx.innerB bs k := by rw [Tx.upTo_in hk hin]; exact Tx.upTo_le _ _ _
  have hn := Tx.upTo_len Tx.innerB (Nat.le_of_lt hk)
  unfold Tx.oneNum Tx.wF
  generalize Tx.upTo Tx.innerB bs k = j at *
  have hs : Tx.sub bs k j = bs[k] :: ((bs.drop (k + 1)).take (j - k - 1)) := by
    unfold Tx.sub
    rw [List.drop_eq_getElem_cons hk, show j - k = (j - k - 1) + 1 by omega, List.take_succ_cons]
    simp
  have hB : Tx.B bs k = bs[k].toNat := by unfold Tx.B; rw [List.getElem?_eq_getElem hk]; rfl
  have hd : 48 ≤ bs[k].toNat ∧ bs[k].toNat ≤ 57 := by rw [hB] at h2; unfold Tx.digitB at h2; simp at h2; omega
  have hB0 : Tx.B (Tx.sub bs k j) 0 = bs[k].toNat := by rw [hs]; rfl
  have hl := Tx.sub_length (bs := bs) (i := k) (j := j) (by omega) hn
  rw [hB0, hl, hB]
  by_cases h : bs[k].toNat = 48 ∧ k + 1 < j
  · rw [if_pos ⟨by simpa using congrArg Int.ofNat h.1, h.2⟩, if_pos ⟨by omega, by omega⟩]
  · rw [if_neg (fun x => h ⟨by have := x.1; simp at this; omega, x.2⟩), if_neg (fun x => h ⟨by have := x.1; omega, by omega⟩), hs, Tx.num_worth _ _ hd.1 hd.2 (by
      by_cases h48 : bs[k].toNat = 48
      · right
        have : j - k - 1 = 0 := by
          have : ¬ k + 1 < j := fun x => h ⟨h48, x⟩
          omega
        rw [this]; rfl
      · exact .inl h48)]
    cases Tx.worthF (bs[k] :: List.take (j - k - 1) (List.drop (k + 1) bs)) <;> rfl
theorem worth_some {s : ByteArray} {v : Int} (h0 : 0 < s.size) (hs : s.size ≤ 65536) (h : Tx.wF s.data.toList = some v) (w : World) :
    Calls Tryd.prog 40 #[.string s] w fun e w' => e = .returned (.tuple #[.int .i64 v, .bool true]) ∧ w' = w :=
  (worth_any s h0 hs w).mono (by rintro e w' ⟨he, hw⟩; rw [h] at he; exact ⟨he, hw⟩)
theorem worth_none {s : ByteArray} (h0 : 0 < s.size) (hs : s.size ≤ 65536) (h : Tx.wF s.data.toList = none) (w : World) :
    Calls Tryd.prog 40 #[.string s] w fun e w' => (∃ n, e = .returned (.tuple #[.int .i64 n, .bool false])) ∧ w' = w :=
  (worth_any s h0 hs w).mono (by rintro e w' ⟨he, hw⟩; rw [h] at he; exact ⟨he, hw⟩)

set_option maxHeartbeats 4000000 in
theorem one_num (w : World) (b off cap : Nat) (bs : List UInt8) (hl : bs.length ≤ 65536) (hb : b < w.heap.size) (hcap : bs.length ≤ cap) (hc : Lies w b off bs) (k : Nat) (hk : k < bs.length)
    (h1 : Tx.letterB (Tx.B bs k) = false) (h2 : Tx.digitB (Tx.B bs k) = true) :
    Calls Tryd.prog 19 #[.slice (some ⟨b, off, none⟩) bs.length cap, .int .i64 k] w fun e w' => OneEnd (Tx.one bs k) k e ∧ Below w.heap.size w w' := by
  have k0 : (0 : Int) ≤ (k : Int) := by omega
  have k1 : (k : Int) < (bs.length : Int) := by omega
  have hck := hc k hk
  have hrun := fun o1 o2 => run_any _ b off cap bs hl hcap ((hc.alloc o1).alloc o2) k hk
  have H : Aside (Tx.one bs k = Tx.oneNum bs k) := by show _ = _; unfold Tx.one; rw [h1, h2]; rfl
  have HW : Aside (_) := Tx.oneNum_worth hk h2
  have hj : k + 1 ≤ Tx.upTo Tx.innerB bs k := by rw [Tx.upTo_in hk (by unfold Tx.innerB; simp [h2])]; exact Tx.upTo_le _ _ _
  have hn := Tx.upTo_len Tx.innerB (Nat.le_of_lt hk)
  have hsl := Tx.sub_length (bs := bs) (i := k) (j := Tx.upTo Tx.innerB bs k) (by omega) hn
  generalize Tx.upTo Tx.innerB bs k = j at *
  generalize Tx.sub bs k j = s at *
  have hss : (⟨s.toArray⟩ : ByteArray).size = j - k := hsl
  generalize hsb : (⟨s.toArray⟩ : ByteArray) = sb at *
  have hsd : sb.data.toList = s := by subst hsb; rfl
  generalize Tx.B bs k = c at *
  cases hv : Tx.wF s with
  | some v =>
    have hwt := fun w => worth_some (s := sb) (v := v) (by omega) (by omega) (by rw [hsd]; exact hv) w
    have HR : Aside (Tx.one bs k = .ok (⟨3, v, []⟩, j)) := by show _ = _; rw [H.out, HW.out, hv]
    clear hc hv hsb hsd hsl H HW
    go_enter Tryd.func19, Tryd.ntmps19
    go_wp2_with (first | (go_at_call 37; refine (letter_any _ _).mono ?_; rintro e w' ⟨rfl, hw'⟩; replace hw' := hw'.symm; subst hw') | (go_at_call 39; refine (digit_any _ _).mono ?_; rintro e w' ⟨rfl, hw'⟩; replace hw' := hw'.symm; subst hw') | (go_at_call 38; refine (hrun _ _).mono ?_; rintro e w' ⟨rfl, hw'⟩; replace hw' := hw'.symm; subst hw') | (go_at_call 40; refine (hwt _).mono ?_; rintro e w' ⟨rfl, hw'⟩; replace hw' := hw'.symm; subst hw'))
    have ejk : (k : Int) + ((j - k : Nat) : Int) = (j : Int) := by omega
    rw [ejk]
    refine bodyPost_ret (v := .tuple #[rtok 3 v [] k j, .int .i64 0]) (by simp [results, Tryd.results19, go_sem, rtok]) rfl ?_
    exact ⟨OneEnd.yes HR.out rfl, ((Below.refl _ _).alloc (Nat.le_refl _) _).alloc (by simp) _⟩
  | none =>
    have hwt := fun w => worth_none (s := sb) (by omega) (by omega) (by rw [hsd]; exact hv) w
    have HR : Aside (Tx.one bs k = .error 13) := by show _ = _; rw [H.out, HW.out, hv]
    clear hc hv hsb hsd hsl H HW
    go_enter Tryd.func19, Tryd.ntmps19
    go_wp2_with (first | (go_at_call 37; refine (letter_any _ _).mono ?_; rintro e w' ⟨rfl, hw'⟩; replace hw' := hw'.symm; subst hw') | (go_at_call 39; refine (digit_any _ _).mono ?_; rintro e w' ⟨rfl, hw'⟩; replace hw' := hw'.symm; subst hw') | (go_at_call 38; refine (hrun _ _).mono ?_; rintro e w' ⟨rfl, hw'⟩; replace hw' := hw'.symm; subst hw') | (go_at_call 40; refine (hwt _).mono ?_; rintro e w' ⟨⟨n, rfl⟩, hw'⟩; replace hw' := hw'.symm; subst hw'))
    refine bodyPost_ret (v := .tuple #[rtok 0 0 [] 0 0, .int .i64 13]) (by simp [results, Tryd.results19, go_sem, rtok]) rfl ?_
    exact ⟨OneEnd.no HR.out rfl, ((Below.refl _ _).alloc (Nat.le_refl _) _).alloc (by simp) _⟩
end Go.Proofs.YtjddbiabkobfoaaDoor
