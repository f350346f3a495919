/- What the document's Equal answers; likeness of rows of ints. -/
import Derived.Test.YtkcehgpcimlamaaDoorRefF
namespace Go.Proofs.YtkcehgpcimlamaaDoor
open Go.RowKit
set_option maxRecDepth 100000
set_option linter.unusedSimpArgs false

theorem str_inj {a b : ByteArray} (h : a.toList = b.toList) : a = b := by
  rw [ByteArray.toList_eq, ByteArray.toList_eq] at h
  exact (S_of a).trans ((congrArg S h).trans (S_of b).symm)

set_option maxHeartbeats 8000000 in
theorem refEqual_any (a b : List Tr.Nd) (ha : a.length ≤ 2199023255552) (va vb : Value) (w : World) (hla : IsNodes w va a) (hlb : IsNodes w vb b) :
    Calls Tryd.prog 27 #[va, vb] w fun e w' => e = .returned (.bool (likes a b)) ∧ Below w.heap.size w w' := by
  obtain ⟨aa, ca, rfl⟩ := hla.form
  obtain ⟨ab, cb, rfl⟩ := hlb.form
  by_cases hne : a.length = b.length
  · have hne' : ((a.length : Int) != (b.length : Int)) = false := by simp [hne]
    have HL : Aside (a.length = b.length) := hne
    clear hne
    go_enter Tryd.func27, Tryd.ntmps27
    go_wp2_with fail
    clear hne'
    go_loopg [5] a.length (fun g t wr => ∃ k : Nat, k + g = a.length ∧ t = .int .i64 k ∧ Below w.heap.size w wr ∧ Aside (likes a b = likes (a.drop k) (b.drop k)))
    case atStart => exact ⟨0, by omega, rfl, Below.refl _ _, rfl⟩
    case round =>
      obtain ⟨k, hkg, rfl, hB, HK⟩ := hrel
      by_cases hk : k < a.length
      · have hk' : (k : Int) < (a.length : Int) := by omega
        have hk0 : (0 : Int) ≤ (k : Int) := by omega
        have hkb : k < b.length := by rw [← HL.out]; exact hk
        have hkb' : (k : Int) < (b.length : Int) := by omega
        obtain ⟨x, hx, hdx⟩ := getc hk
        obtain ⟨y, hy, hdy⟩ := getc hkb
        obtain ⟨b1, o1, rfl, hc1, hl1, hcx⟩ := (hla.below hB).at hx
        obtain ⟨b2, o2, rfl, hc2, hl2, hcy⟩ := (hlb.below hB).at hy
        obtain ⟨p0, p1, p2, p3, p4, p5, p6, p7⟩ := agg_cells (o := o1 + k * 8) hcx
        obtain ⟨q0, q1, q2, q3, q4, q5, q6, q7⟩ := agg_cells (o := o2 + k * 8) hcy
        have HS : Aside (likes a b = (likeB x y && likes (a.drop (k + 1)) (b.drop (k + 1)))) := by show _ = _; rw [HK.out, hdx, hdy, likes]
        have hws := hB.size
        have hb2n : b2 ≠ wr.heap.size := by omega
        clear hcx hcy hdx hdy hx hy HK hla hlb
        obtain ⟨k1, d1, n1, s1, t1, u1, l1, c1⟩ := x
        obtain ⟨k2, d2, n2, s2, t2, u2, l2, c2⟩ := y
        have HM : Aside (likeB ⟨k1, d1, n1, s1, t1, u1, l1, c1⟩ ⟨k2, d2, n2, s2, t2, u2, l2, c2⟩ = (decide (k1 = k2) && decide (d1 = d2) && decide (n1 = n2) && decide (s1.toList = s2.toList) && decide (t1.toList = t2.toList) && decide (u1.toList = u2.toList))) := rfl
        simp only at p0 p1 p2 p3 p4 p5 p6 p7 q0 q1 q2 q3 q4 q5 q6 q7
        by_cases e1 : k1 = k2
        case' neg =>
          have f1 : (k1 == k2) = false := by simpa using e1
          have HR : Aside (likes a b = false) := by show _ = _; rw [HS.out, HM.out]; simp [e1]
          clear HS HM
          go_wp2_with fail
          go_quiet (fail)
          go_wp2_with fail
          go_ret
          rw [HR.out]
          exact ⟨rfl, below_drewN (hB.alloc hws _) _⟩
        subst e1
        by_cases e2 : d1 = d2
        case' neg =>
          have f1 : (d1 == d2) = false := by simpa using e2
          have HR : Aside (likes a b = false) := by show _ = _; rw [HS.out, HM.out]; simp [e2]
          clear HS HM
          go_wp2_with fail
          go_quiet (fail)
          go_wp2_with fail
          go_ret
          rw [HR.out]
          exact ⟨rfl, below_drewN (hB.alloc hws _) _⟩
        subst e2
        by_cases e3 : n1 = n2
        case' neg =>
          have f1 : (n1 == n2) = false := by simpa using e3
          have HR : Aside (likes a b = false) := by show _ = _; rw [HS.out, HM.out]; simp [e3]
          clear HS HM
          go_wp2_with fail
          go_quiet (fail)
          go_wp2_with fail
          go_ret
          rw [HR.out]
          exact ⟨rfl, below_drewN (hB.alloc hws _) _⟩
        subst e3
        by_cases e4 : s1.toList = s2.toList
        case' neg =>
          have f1 : (s1.toList == s2.toList) = false := by simpa using e4
          have HR : Aside (likes a b = false) := by show _ = _; rw [HS.out, HM.out]; simp [e4]
          clear HS HM
          go_wp2_with fail
          go_quiet (fail)
          go_wp2_with fail
          go_ret
          rw [HR.out]
          exact ⟨rfl, below_drewN (hB.alloc hws _) _⟩
        obtain rfl := str_inj e4
        by_cases e5 : t1.toList = t2.toList
        case' neg =>
          have f1 : (t1.toList == t2.toList) = false := by simpa using e5
          have HR : Aside (likes a b = false) := by show _ = _; rw [HS.out, HM.out]; simp [e5]
          clear HS HM
          go_wp2_with fail
          go_quiet (fail)
          go_wp2_with fail
          go_ret
          rw [HR.out]
          exact ⟨rfl, below_drewN (hB.alloc hws _) _⟩
        obtain rfl := str_inj e5
        by_cases e6 : u1.toList = u2.toList
        case' neg =>
          have f1 : (u1.toList == u2.toList) = false := by simpa using e6
          have HR : Aside (likes a b = false) := by show _ = _; rw [HS.out, HM.out]; simp [e6]
          clear HS HM
          go_wp2_with fail
          go_quiet (fail)
          go_wp2_with fail
          go_ret
          rw [HR.out]
          exact ⟨rfl, below_drewN (hB.alloc hws _) _⟩
        obtain rfl := str_inj e6
        have HR : Aside (likes a b = likes (a.drop (k + 1)) (b.drop (k + 1))) := by show _ = _; rw [HS.out, HM.out]; simp
        clear HS HM
        go_wp2_with fail
        go_quiet (fail)
        go_wp2_with fail
        go_roundg (a.length - (k + 1))
        case measure => omega
        case rel => exact ⟨k + 1, by omega, by go_num, below_drewN (hB.alloc hws _) _, HR⟩
      · have hk' : ¬ (k : Int) < (a.length : Int) := by omega
        have HR : Aside (likes a b = true) := by
          show _ = _
          rw [HK.out, List.drop_eq_nil_of_le (by omega), List.drop_eq_nil_of_le (by have := HL.out; omega)]; rfl
        clear HK hla hlb
        go_wp2_with fail
        go_ret
        rw [HR.out]
        exact ⟨rfl, hB⟩
  · have hne' : ((a.length : Int) != (b.length : Int)) = true := by simp; omega
    have HR : Aside (likes a b = false) := likes_len hne
    clear hla hlb hne
    go_enter Tryd.func27, Tryd.ntmps27
    go_wp2_with fail
    go_ret
    rw [HR.out]
    exact ⟨rfl, Below.refl _ _⟩

/-- A row of ints, wherever it lies. -/
def IsInts (w : World) (v : Value) (l : List Nat) : Prop :=
  (l = [] ∧ ∃ a c, v = .slice a 0 c) ∨ ∃ b c, v = .slice (some ⟨b, 0, none⟩) l.length c ∧ l.length ≤ c ∧ b < w.heap.size ∧ ∀ (j k : Nat), l[j]? = some k → w.cell? ⟨b, j, none⟩ = some (.int .i64 (k : Int))
theorem IsInts.own {w : World} {base : Nat} {v : Value} {l : List Nat} (h : w.ownsRow base 3 1 v l.length (icells l)) : IsInts w v l := by
  by_cases h0 : l.length = 0
  · obtain ⟨a, c, rfl⟩ := own_len h
    have hl0 : l = [] := List.length_eq_zero_iff.1 h0
    subst hl0
    exact .inl ⟨rfl, _, _, rfl⟩
  · obtain ⟨g, cap, rfl, h1, h2, h3⟩ := own_cells h (by omega)
    refine .inr ⟨g, cap, rfl, h1, (h.lt g rfl).2, fun j k hk => ?_⟩
    have hj := (List.getElem?_eq_some_iff.1 hk).1
    rw [h3 j (by omega)]
    simp [icells, hk]
theorem IsInts.form {w : World} {v : Value} {l : List Nat} (h : IsInts w v l) : ∃ a c, v = .slice a l.length c := by
  rcases h with ⟨rfl, a, c, rfl⟩ | ⟨b, c, rfl, _⟩
  · exact ⟨a, c, rfl⟩
  · exact ⟨_, c, rfl⟩
theorem IsInts.at {w : World} {a : Option Addr} {n c : Nat} {l : List Nat} (h : IsInts w (.slice a n c) l) {j k : Nat} (hk : l[j]? = some k) : ∃ b, a = some ⟨b, 0, none⟩ ∧ n ≤ c ∧ w.cell? ⟨b, j, none⟩ = some (.int .i64 (k : Int)) := by
  rcases h with ⟨rfl, _⟩ | ⟨b, c', h0, h1, _, h3⟩
  · simp at hk
  · cases h0
    exact ⟨b, rfl, h1, h3 j k hk⟩

set_option maxHeartbeats 4000000 in
theorem eqInts_same (l : List Nat) (hlen : l.length ≤ 2199023255552) (va vb : Value) (w : World) (hla : IsInts w va l) (hlb : IsInts w vb l) :
    Calls Tryd.prog 21 #[va, vb] w fun e w' => e = .returned (.bool true) ∧ ∃ n, w' = w.drewN n := by
  obtain ⟨a, c, rfl⟩ := hla.form
  obtain ⟨a2, c2, rfl⟩ := hlb.form
  have hne : ((l.length : Int) != (l.length : Int)) = false := by simp
  go_enter Tryd.func21, Tryd.ntmps21
  go_wp2_with fail
  clear hne
  go_loopg [5] l.length (fun g t wr => ∃ k n : Nat, k + g = l.length ∧ t = .int .i64 (k : Int) ∧ wr = w.drewN n)
  case atStart => exact ⟨0, 0, by omega, rfl, rfl⟩
  case round =>
    obtain ⟨k, n, hkg, rfl, rfl⟩ := hrel
    by_cases hk : k < l.length
    · have hk' : (k : Int) < (l.length : Int) := by omega
      have hk0 : (0 : Int) ≤ (k : Int) := by omega
      obtain ⟨x, hx⟩ : ∃ x, l[k]? = some x := ⟨l[k], List.getElem?_eq_getElem hk⟩
      obtain ⟨b1, rfl, hc1, p0⟩ := hla.at hx
      obtain ⟨b2, rfl, hc2, q0⟩ := hlb.at hx
      clear hx hla hlb
      go_wp2_with fail
      go_quiet (fail)
      go_wp2_with fail
      go_roundg (l.length - (k + 1))
      case measure => omega
      case rel => exact ⟨k + 1, _, by omega, by go_num, by first | rfl | exact World.drewN_drewN⟩
    · have hk' : ¬ (k : Int) < (l.length : Int) := by omega
      go_wp2_with fail
      go_ret
      exact ⟨rfl, n, rfl⟩
end Go.Proofs.YtkcehgpcimlamaaDoor
