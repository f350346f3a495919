/- What the program's Equal answers. -/
import Derived.Test.YtpikfdkgblghhaaGreatDoorXax
namespace Go.Proofs.YtpikfdkgblghhaaGreatDoor
open Go.RowKit
set_option maxRecDepth 100000
set_option linter.unusedSimpArgs false

/-- Are two nodes alike but for their places? -/
def likeB (x y : Tr.Nd) : Bool := decide (x.kind = y.kind) && decide (x.kids = y.kids) && decide (x.n = y.n) && decide (x.s.toList = y.s.toList) && decide (x.t.toList = y.t.toList) && decide (x.u.toList = y.u.toList)
/-- Are two lists alike but for places? -/
def likes : List Tr.Nd → List Tr.Nd → Bool
  | [], [] => true
  | x :: a, y :: b => likeB x y && likes a b
  | _, _ => false
theorem likes_len : ∀ {a b : List Tr.Nd}, a.length ≠ b.length → likes a b = false
  | [], [], h => absurd rfl h
  | [], _ :: _, _ => rfl
  | _ :: _, [], _ => rfl
  | x :: a, y :: b, h => by rw [likes, likes_len (by simpa using h), Bool.and_false]
theorem entersEqual1 : ∀ args w, (callFunc 44 args).run Tryz.prog w = .ok (.enter 44 args) w := enters_of Tryz.func44 (by kernel_rfl) rfl

set_option maxHeartbeats 4000000 in
theorem equal1_any (k1 d1 n1 : Int) (s1 t1 u1 : ByteArray) (l1 c1 : Int) (k2 d2 n2 : Int) (s2 t2 u2 : ByteArray) (l2 c2 : Int) (w : World) :
    Calls Tryz.prog 44 #[.agg #[.int .i8 k1, .int .i64 d1, .int .i64 n1, .string s1, .string t1, .string u1, .int .i64 l1, .int .i64 c1], .agg #[.int .i8 k2, .int .i64 d2, .int .i64 n2, .string s2, .string t2, .string u2, .int .i64 l2, .int .i64 c2]] w fun e w' =>
      e = .returned (.bool (likeB ⟨k1, d1, n1, s1, t1, u1, l1, c1⟩ ⟨k2, d2, n2, s2, t2, u2, l2, c2⟩)) ∧ Below w.heap.size w w' := by
  have HM : Aside (likeB ⟨k1, d1, n1, s1, t1, u1, l1, c1⟩ ⟨k2, d2, n2, s2, t2, u2, l2, c2⟩ = (decide (k1 = k2) && decide (d1 = d2) && decide (n1 = n2) && decide (s1.toList = s2.toList) && decide (t1.toList = t2.toList) && decide (u1.toList = u2.toList))) := rfl
  go_enter Tryz.func44, Tryz.ntmps44
  go_wp2_with fail
  all_goals
    go_ret
    rw [HM.out]
    go_light
    refine ⟨ret_bool ?_, ?_⟩
    · clear HM
      simp [*]
    · repeat (first | exact Below.refl _ _ | refine bset ?_ | refine balloc ?_ _)

def EQF : Nat := 43
theorem getc {a : List Tr.Nd} {k : Nat} (h : k < a.length) : ∃ x, a[k]? = some x ∧ a.drop k = x :: a.drop (k + 1) := ⟨a[k], List.getElem?_eq_getElem h, List.drop_eq_getElem_cons h⟩

set_option maxHeartbeats 4000000 in
theorem equalFunc_any (a b : List Tr.Nd) (ha : a.length ≤ 2199023255552) (va vb : Value) (w : World) (hla : IsNodes w va a) (hlb : IsNodes w vb b) :
    Calls Tryz.prog 43 #[va, vb, .func (.func 44) #[] #[]] w fun e w' => e = .returned (.bool (likes a b)) ∧ Below w.heap.size w w' := by
  have hE := entersEqual1
  obtain ⟨aa, ca, rfl⟩ := hla.form
  obtain ⟨ab, cb, rfl⟩ := hlb.form
  by_cases hne : a.length = b.length
  · have hne' : ((a.length : Int) != (b.length : Int)) = false := by simp [hne]
    have HL : Aside (a.length = b.length) := hne
    clear hne
    go_enter Tryz.func43, Tryz.ntmps43
    go_wp2_with fail
    clear hne'
    go_loopg [17] a.length (fun g t wr => ∃ k : Nat, k + g = a.length ∧ t = .int .i64 k ∧ Below w.heap.size w wr ∧ Aside (likes a b = likes (a.drop k) (b.drop k)))
    case atStart => exact ⟨0, by omega, rfl, Below.refl _ _, rfl⟩
    case round =>
      obtain ⟨k, hkg, rfl, hB, HK⟩ := hrel
      by_cases hk : k < a.length
      · have hk' : (k : Int) < (a.length : Int) := by omega
        have hk0 : (0 : Int) ≤ (k : Int) := by omega
        have hkb : k < b.length := by rw [← HL.out]; exact hk
        have hkb' : (k : Int) < (b.length : Int) := by omega
        obtain ⟨x, hx, hdx⟩ := getc hk
        obtain ⟨y, hy, hdy⟩ := getc hkb
        obtain ⟨b1, o1, rfl, hc1, hl1, hcx⟩ := (hla.below hB).at hx
        obtain ⟨b2, o2, rfl, hc2, hl2, hcy⟩ := (hlb.below hB).at hy
        obtain ⟨p0, p1, p2, p3, p4, p5, p6, p7⟩ := agg_cells (o := o1 + k * 8) hcx
        obtain ⟨q0, q1, q2, q3, q4, q5, q6, q7⟩ := agg_cells (o := o2 + k * 8) hcy
        have HS : Aside (likes a b = (likeB x y && likes (a.drop (k + 1)) (b.drop (k + 1)))) := by show _ = _; rw [HK.out, hdx, hdy, likes]
        have heq := equal1_any x.kind x.kids x.n x.s x.t x.u x.ln x.co y.kind y.kids y.n y.s y.t y.u y.ln y.co
        clear hcx hcy hdx hdy hx hy HK hla hlb
        cases hlk : likeB x y
        · rw [show likeB ⟨x.kind, x.kids, x.n, x.s, x.t, x.u, x.ln, x.co⟩ ⟨y.kind, y.kids, y.n, y.s, y.t, y.u, y.ln, y.co⟩ = false from hlk] at heq
          rw [hlk] at HS
          clear hlk
          go_wp2_with fail
          refine (heq _).mono ?_
          rintro e w1 ⟨rfl, hB1⟩
          go_wp2_with fail
          go_ret
          rw [HS.out]
          exact ⟨rfl, bt (balloc (balloc hB _) _) hB1⟩
        · rw [show likeB ⟨x.kind, x.kids, x.n, x.s, x.t, x.u, x.ln, x.co⟩ ⟨y.kind, y.kids, y.n, y.s, y.t, y.u, y.ln, y.co⟩ = true from hlk] at heq
          rw [hlk] at HS
          clear hlk
          go_wp2_with fail
          refine (heq _).mono ?_
          rintro e w1 ⟨rfl, hB1⟩
          go_wp2_with fail
          go_roundg (gk - 1)
          case measure => omega
          case rel => exact ⟨k + 1, by omega, by go_num, bt (balloc (balloc hB _) _) hB1, by rw [HS.out]; rfl⟩
      · have hk' : ¬ (k : Int) < (a.length : Int) := by omega
        have HR : Aside (likes a b = true) := by
          show _ = _
          rw [HK.out, List.drop_eq_nil_of_le (by omega), List.drop_eq_nil_of_le (by rw [← HL.out]; omega)]; rfl
        go_wp2_with fail
        go_ret
        rw [HR.out]
        exact ⟨rfl, hB⟩
  · have hne' : ((a.length : Int) != (b.length : Int)) = true := by simp; omega
    have HR : Aside (likes a b = false) := likes_len hne
    clear hne
    go_enter Tryz.func43, Tryz.ntmps43
    go_wp2_with fail
    go_ret
    rw [HR.out]
    exact ⟨rfl, Below.refl _ _⟩

set_option maxHeartbeats 1000000 in
theorem equal_any (a b : List Tr.Nd) (ha : a.length ≤ 2199023255552) (va vb : Value) (w : World) (hla : IsNodes w va a) (hlb : IsNodes w vb b) :
    Calls Tryz.prog 22 #[va, vb] w fun e w' => e = .returned (.bool (likes a b)) ∧ Below w.heap.size w w' := by
  have h := equalFunc_any a b ha va vb w hla hlb
  go_enter Tryz.func22, Tryz.ntmps22
  go_wp2_with fail
  refine h.mono ?_
  rintro e w1 ⟨rfl, hB1⟩
  go_wp2_with fail
  go_ret
  exact ⟨rfl, hB1⟩
end Go.Proofs.YtpikfdkgblghhaaGreatDoor
