/- What the program's Static and Make answer. What the program's check of texts, and its settling closures, answer. What the program's Height answers. What the program's together tells of two types, walking both side by side. What the program's Consistent and Precise tell. -/
import Derived.Test.YtaaokecdmbmgbaaGreatDoorUaw
import Derived.Test.YtaaokecdmbmgbaaGreatDoorUax
import Derived.Deep.CutRange
import Derived.Deep.DeepCutAuto
import Derived.WalkMore
namespace Go.Proofs.YtaaokecdmbmgbaaGreatDoor.T3
set_option maxRecDepth 100000
open Go.RowKit

/-- A list of texts, wherever it lies. -/
def IsTexts (w : World) (v : Value) (ps : List (List UInt8)) : Prop :=
  (ps = [] ∧ ∃ a c, v = .slice a 0 c) ∨ ∃ b o c, v = .slice (some ⟨b, o, none⟩) ps.length c ∧ ps.length ≤ c ∧ b < w.heap.size ∧ ∀ j p, ps[j]? = some p → w.cell? ⟨b, o + j, none⟩ = some (.string (S p))
theorem IsTexts.own {w : World} {base : Nat} {v : Value} {ps : List (List UInt8)} (h : w.ownsRow base 9 1 v ps.length (tcells ps)) : IsTexts w v ps := by
  by_cases h0 : ps = []
  · subst h0
    obtain ⟨a, c, rfl⟩ := own_len h
    exact .inl ⟨rfl, a, c, rfl⟩
  · obtain ⟨g, cap, rfl, hc, hg, hcell⟩ := own_cells h (List.length_pos_iff.2 h0)
    have key : ∀ j p, ps[j]? = some p → w.cell? ⟨g, 0 + j, none⟩ = some (.string (S p)) := by
      intro j p hp
      have hj : j < ps.length := (List.getElem?_eq_some_iff.1 hp).1
      rw [Nat.zero_add, hcell j (by omega)]
      unfold tcells
      rw [List.getElem?_map, hp]
      rfl
    refine .inr ⟨g, 0, cap, rfl, hc, ?_, key⟩
    obtain ⟨p, r, rfl⟩ := List.exists_cons_of_ne_nil h0
    exact World.block_lt_of_cell? w _ (key 0 p rfl)
theorem IsTexts.next {w w' : World} {v : Value} {ps : List (List UInt8)} {rb : Nat} (h : IsTexts w v ps) (hg : w.grownBy w' (some rb)) (hne : ∀ b o n c, v = .slice (some ⟨b, o, none⟩) n c → b ≠ rb) : IsTexts w' v ps := by
  rcases h with h | ⟨b, o, c, rfl, h1, h2, h3⟩
  · exact .inl h
  · exact .inr ⟨b, o, c, rfl, h1, Nat.lt_of_lt_of_le h2 hg.size, fun j p hp => hg.cell (h3 j p hp) (by simpa using hne b o _ _ rfl)⟩

/-- No letter of it is ?. -/
def statB (l : List UInt8) : Bool := (Tp.chk l).1 == 0 && decide (Lib.indexByte l 63 < 0)

theorem conv_head (h : UInt8) (h128 : h.toNat < 128) (w : World) : (convert 21 9 (.int .i32 (h.toNat : Int))).run Tryz.prog w = .ok (.string (S [h])) w := by
  rw [run_convert_int_string w 21 9 .i32 _ (by kernel_rfl) (by kernel_rfl)]
  have e : Utf8.encode (h.toNat : Int) = S [h] := by
    have hv : Utf8.valid (h.toNat : Int) = true := by unfold Utf8.valid; simp; omega
    have h2 : ((h.toNat : Int)).toNat < 128 := by omega
    unfold Utf8.encode
    simp only [hv, if_true]
    rw [if_pos h2]
    simp [S]
  rw [e]

/-- How long texts are together. -/
def flen (ps : List (List UInt8)) : Nat := ps.flatten.length
theorem flen_take {ps : List (List UInt8)} {k : Nat} {q : List UInt8} (h : ps.take (k + 1) = ps.take k ++ [q]) : flen (ps.take (k + 1)) = flen (ps.take k) + q.length := by
  unfold flen; rw [h]; simp
theorem join_flat : ∀ ps : List (List UInt8), Lib.join ps [] = ps.flatten := by
  intro ps
  unfold Lib.join
  rw [List.intercalate]
  induction ps with
  | nil => rfl
  | cons a r ih =>
    cases r with
    | nil => simp
    | cons b r => rw [List.intersperse_cons_cons, List.flatten_cons, List.flatten_cons, ih]; simp
end Go.Proofs.YtaaokecdmbmgbaaGreatDoor.T3
namespace Go.Proofs.YtaaokecdmbmgbaaGreatDoor.T3
set_option maxRecDepth 100000
open Go.RowKit

theorem toList_S (l : List UInt8) : (S l).toList = l := by rw [ByteArray.toList_eq]; rfl
namespace Tp
def isq (t : Ty) : Bool := decide (t = .tq)
theorem isq_S (t : Ty) : ((S (enc t)).toList == [63]) = isq t := by
  rw [toList_S]
  cases t <;> simp [enc, isq]
end Tp

set_option maxHeartbeats 1000000 in
theorem rcheck_any (v : Value) (ps : List (List UInt8)) (w : World) (hv : IsTexts w v ps) (hp : ps.length ≤ 2) :
    Calls Tryz.prog 101 #[v] w fun e w' => e = .returned (.int .i64 (Tp.firstBad ps)) ∧ w' = w := by
  obtain ⟨a, c, rfl⟩ : ∃ a c, v = .slice a ps.length c := by
    rcases hv with ⟨rfl, a, c, rfl⟩ | ⟨b, o, c, rfl, _⟩
    · exact ⟨a, c, rfl⟩
    · exact ⟨_, c, rfl⟩
  go_enter Tryz.func101, Tryz.ntmps101
  go_wp2_with fail
  go_loopg [9] ps.length (fun g t wr => w = wr ∧ ∃ k : Nat, k + g = ps.length ∧ t = .int .i64 k ∧ Aside (Tp.firstBad (ps.take k) = 0))
  case atStart => exact ⟨rfl, 0, by omega, rfl, rfl⟩
  case round =>
    obtain ⟨rfl, k, hkg, rfl, HF⟩ := hrel
    by_cases hk : k < ps.length
    · have hk' : (k : Int) < (ps.length : Int) := by omega
      obtain ⟨b, o, c, hsl, hcap, hbl, hcell⟩ : ∃ b o c', Value.slice a ps.length c = .slice (some ⟨b, o, none⟩) ps.length c' ∧ ps.length ≤ c' ∧ b < w.heap.size ∧ ∀ j p, ps[j]? = some p → w.cell? ⟨b, o + j, none⟩ = some (.string (S p)) := by
        rcases hv with ⟨rfl, _⟩ | h
        · simp at hk
        · exact h
      obtain ⟨rfl, rfl⟩ : a = some ⟨b, o, none⟩ ∧ _ := by simpa using hsl
      have hck := hcell k _ (List.getElem?_eq_getElem hk)
      have HT : Aside (ps.take (k + 1) = ps.take k ++ [ps[k]]) := List.take_succ_eq_append_getElem hk
      generalize hpk : ps[k] = q at *
      clear hcell
      by_cases hq : (Tp.chk q).1 = 0
      · have hq' : (((Tp.chk (S q).data.toList).1 : Int) != 0) = false := by rw [S_list]; simpa using hq
        have HF2 : Aside (Tp.firstBad (ps.take (k + 1)) = 0) := by
          show _ = _
          rw [HT.out, Tp.firstBad_app _ _ HF.out, Tp.firstBad, if_pos hq]; rfl
        go_wp2_with (go_at_call 78; refine (check_any _ _).mono ?_; rintro e w' ⟨rfl, hw'⟩; replace hw' := hw'.symm; subst hw')
        go_roundg (gk - 1)
        case measure => omega
        case rel => exact ⟨rfl, k + 1, by omega, by go_num, HF2⟩
      · have hq' : (((Tp.chk (S q).data.toList).1 : Int) != 0) = true := by rw [S_list]; simpa using hq
        have HN : Aside (Tp.firstBad ps = (Tp.chk q).1) := by
          show _ = _
          have h1 : ps = ps.take k ++ (q :: ps.drop (k + 1)) := by
            rw [← hpk, ← List.drop_eq_getElem_cons hk, List.take_append_drop]
          rw [h1, Tp.firstBad_app _ _ HF.out, Tp.firstBad, if_neg hq]
        go_wp2_with (go_at_call 78; refine (check_any _ _).mono ?_; rintro e w' ⟨rfl, rfl⟩)
        go_ret
        rw [HN.out]
        exact ⟨rfl, rfl⟩
    · have hk' : decide ((k : Int) < (ps.length : Int)) = false := by simp; omega
      obtain rfl : k = ps.length := by omega
      rw [List.take_length] at HF
      go_wp2_with fail
      go_ret
      rw [HF.out]
      exact ⟨rfl, rfl⟩

set_option maxHeartbeats 400000 in
theorem cons1_any (a b : Tp.Ty) (w : World) :
    Calls Tryz.prog 80 #[.string (S (Tp.enc a)), .string (S (Tp.enc b))] w fun e w' => e = .returned (.bool (Tp.isq a || Tp.isq b)) ∧ w' = w := by
  rw [← Tp.isq_S a, ← Tp.isq_S b]
  generalize S (Tp.enc a) = s at *
  generalize S (Tp.enc b) = t at *
  go_enter Tryz.func80, Tryz.ntmps80
  go_wp2
  all_goals
    go_ret
    refine ⟨ret_bool ?_, rfl⟩
    simp_all
end Go.Proofs.YtaaokecdmbmgbaaGreatDoor.T3
namespace Go.Proofs.YtaaokecdmbmgbaaGreatDoor.T3
set_option maxRecDepth 100000
open Go.RowKit

namespace Tp
def mx : List Ty → Nat
  | [] => 0
  | a :: r => max (high a) (mx r)
theorem mx_app : ∀ (a b : List Ty), mx (a ++ b) = max (mx a) (mx b)
  | [], b => by simp [mx]
  | x :: r, b => by rw [List.cons_append, mx, mx, mx_app r b]; omega
theorem high_mx (t : Ty) : high t = mx (kids t) + 1 := by cases t <;> simp [high, kids, mx]
theorem mx_take {ks : List Ty} {k : Nat} {u : Ty} (h : ks[k]? = some u) : mx (ks.take (k + 1)) = max (mx (ks.take k)) (high u) := by
  rw [List.take_add_one, h, mx_app]; simp [mx]
theorem high_le : ∀ t : Ty, high t ≤ (enc t).length
  | .ti | .tb | .tt | .tq => by decide
  | .tl a => by have := high_le a; simp [high, enc]; omega
  | .tx a => by have := high_le a; simp [high, enc]; omega
  | .tf a b => by have := high_le a; have := high_le b; simp [high, enc]; omega
  | .tp a b => by have := high_le a; have := high_le b; simp [high, enc]; omega
end Tp

theorem own_at {W : World} {base n : Nat} {v : Value} {ps : List (List UInt8)} (h : W.ownsRow base 9 1 v n (tcells ps)) (hn : n = ps.length) : IsTexts W v ps := by subst hn; exact IsTexts.own h

end Go.Proofs.YtaaokecdmbmgbaaGreatDoor.T3
namespace Go.Proofs.YtaaokecdmbmgbaaGreatDoor.T3
set_option maxRecDepth 100000
open Go.RowKit

theorem IsTexts.below {w w' : World} {v : Value} {ps : List (List UInt8)} (h : IsTexts w v ps) (hB : Below w.heap.size w w') : IsTexts w' v ps := by
  rcases h with h | ⟨b, o, c, rfl, h1, h2, h3⟩
  · exact .inl h
  · exact .inr ⟨b, o, c, rfl, h1, Nat.lt_of_lt_of_le h2 hB.size, fun j p hp => (hB.cell (p := ⟨b, o + j, none⟩) h2).trans (h3 j p hp)⟩
theorem IsTexts.form {w : World} {v : Value} {ps : List (List UInt8)} (h : IsTexts w v ps) : ∃ a c, v = .slice a ps.length c := by
  rcases h with ⟨rfl, a, c, rfl⟩ | ⟨b, o, c, rfl, _⟩
  · exact ⟨a, c, rfl⟩
  · exact ⟨_, c, rfl⟩
theorem IsTexts.at {w : World} {a : Option Addr} {n c : Nat} {ps : List (List UInt8)} (h : IsTexts w (.slice a n c) ps) {k : Nat} {p : List UInt8} (hp : ps[k]? = some p) : ∃ b o, a = some ⟨b, o, none⟩ ∧ n ≤ c ∧ b < w.heap.size ∧ w.cell? ⟨b, o + k, none⟩ = some (.string (S p)) := by
  rcases h with ⟨rfl, _⟩ | ⟨b, o, c', h0, h1, h2, h3⟩
  · simp at hp
  · obtain ⟨rfl, rfl, rfl⟩ : a = some ⟨b, o, none⟩ ∧ n = ps.length ∧ c = c' := by simpa using h0
    exact ⟨b, o, rfl, h1, h2, h3 k p hp⟩

theorem kids_any (t : Tp.Ty) (h : (Tp.enc t).length ≤ 64) (w : World) :
    Calls Tryz.prog 82 #[.string (S (Tp.enc t))] w fun e w' => ∃ a c, e = .returned (.slice a (Tp.kids t).length c) ∧ IsTexts w' (.slice a (Tp.kids t).length c) ((Tp.kids t).map Tp.enc) ∧ Below w.heap.size w w' := by
  refine (parts_yes t h w).mono ?_
  rintro e w' ⟨v, rfl, hown, hB⟩
  obtain ⟨a, c, rfl⟩ := own_len hown
  exact ⟨a, c, rfl, own_at hown (by simp), hB⟩

namespace Tp
def all2 (R : Ty → Ty → Bool) : List Ty → List Ty → Bool
  | a :: xs, b :: ys => R a b && all2 R xs ys
  | _, _ => true
theorem all2_take (R : Ty → Ty → Bool) : ∀ {xs ys : List Ty} {k : Nat} {a b : Ty}, xs[k]? = some a → ys[k]? = some b → all2 R (xs.take (k + 1)) (ys.take (k + 1)) = (all2 R (xs.take k) (ys.take k) && R a b)
  | [], _, _, _, _, h, _ => by simp at h
  | _ :: _, [], _, _, _, _, h => by simp at h
  | x :: xs, y :: ys, 0, a, b, h, k => by
    simp at h k; subst h; subst k; simp [all2]
  | x :: xs, y :: ys, n + 1, a, b, h, k => by
    simp at h k
    rw [List.take_succ_cons, List.take_succ_cons, all2, all2_take R h k, List.take_succ_cons, List.take_succ_cons, all2, Bool.and_assoc]
theorem all2_false (R : Ty → Ty → Bool) : ∀ {xs ys : List Ty} {k : Nat} {a b : Ty}, xs[k]? = some a → ys[k]? = some b → R a b = false → all2 R xs ys = false
  | [], _, _, _, _, h, _, _ => by simp at h
  | _ :: _, [], _, _, _, _, h, _ => by simp at h
  | x :: xs, y :: ys, 0, a, b, h, k, e => by
    simp at h k; subst h; subst k; simp [all2, e]
  | x :: xs, y :: ys, n + 1, a, b, h, k, e => by
    simp at h k
    rw [all2, all2_false R h k e, Bool.and_false]
theorem hd_kids {a b : Ty} (h : hd a = hd b) : (kids a).length = (kids b).length := by cases a <;> cases b <;> simp [hd, kids] at h ⊢
end Tp

theorem enters102 : ∀ args w, (callFunc 102 args).run Tryz.prog w = .ok (.enter 102 args) w := enters_of Tryz.func102 (by kernel_rfl) rfl

/-- What a function that settles answers. -/
def Settles (F : Nat) (st : Tp.Ty → Tp.Ty → Bool) : Prop := ∀ (a b : Tp.Ty) (w : World), Calls Tryz.prog F #[.string (S (Tp.enc a)), .string (S (Tp.enc b))] w fun e w' => e = .returned (.bool (st a b)) ∧ w' = w

set_option maxHeartbeats 4000000 in
theorem agree_any (F : Nat) (st R : Tp.Ty → Tp.Ty → Bool) (hE : ∀ args w, (callFunc F args).run Tryz.prog w = .ok (.enter F args) w) (hF : Settles F st) (hR : ∀ a b, R a b = (st a b || (decide (Tp.hd a = Tp.hd b) && Tp.all2 R (Tp.kids a) (Tp.kids b)))) (n : Nat) :
    ∀ (xs ys : List Tp.Ty) (va vb : Value) (w : World) (P A : Nat), xs.length = ys.length → xs.length ≤ 2 → (∀ a ∈ xs, (Tp.enc a).length ≤ 64 ∧ (Tp.enc a).length ≤ n) → (∀ b ∈ ys, (Tp.enc b).length ≤ 64) → IsTexts w va (xs.map Tp.enc) → IsTexts w vb (ys.map Tp.enc) →
      P < w.heap.size → A < w.heap.size → w.cell? ⟨P, 0, none⟩ = some (.func (.func F) #[] #[]) → w.cell? ⟨A, 0, none⟩ = some (.func (.func 102) #[] #[.pointer (some ⟨P, 0, none⟩), .pointer (some ⟨A, 0, none⟩)]) →
      Calls Tryz.prog 102 #[va, vb, .pointer (some ⟨P, 0, none⟩), .pointer (some ⟨A, 0, none⟩)] w fun e w' => e = .returned (.bool (Tp.all2 R xs ys)) ∧ Below w.heap.size w w' := by
  induction n using Nat.strongRecOn with
  | _ n ih =>
    intro xs ys va vb w P A hl hl2 hsa hsb hTa hTb hPl hAl hP hA
    obtain ⟨aa, ca, rfl⟩ := hTa.form
    obtain ⟨ab, cb, rfl⟩ := hTb.form
    have hml : (xs.map Tp.enc).length = xs.length := by simp
    have hmlb : (ys.map Tp.enc).length = xs.length := by simp [hl]
    rw [hml] at *
    rw [hmlb] at *
    have HL : Aside (xs.length = ys.length) := hl
    clear hl hml hmlb
    go_enter Tryz.func102, Tryz.ntmps102
    go_wp2_with fail
    go_step3
    go_wp2_with fail
    go_step3
    go_wp2_with fail
    go_loopg [7, 13] xs.length (fun g al t wr => ∃ k : Nat, k + g = xs.length ∧ al = .bool true ∧ t = .int .i64 k ∧ Aside (Tp.all2 R (xs.take k) (ys.take k) = true) ∧ Below w.heap.size w wr)
    case atStart => exact ⟨0, by omega, rfl, rfl, rfl, Below.refl _ _⟩
    case round =>
      obtain ⟨k, hkg, rfl, rfl, HA, hB⟩ := hrel
      have hPr := (hB.cell (p := ⟨P, 0, none⟩) hPl).trans hP
      have hAr := (hB.cell (p := ⟨A, 0, none⟩) hAl).trans hA
      have hTar := hTa.below hB
      have hTbr := hTb.below hB
      have hsz := hB.size
      by_cases hk : k < xs.length
      · have hk' : (k : Int) < (xs.length : Int) := by omega
        have hk0 : (0 : Int) ≤ (k : Int) := by omega
        have ga := List.getElem?_eq_getElem hk
        have gb := List.getElem?_eq_getElem (show k < ys.length by rw [← HL.out]; exact hk)
        have ma := hsa _ (List.getElem_mem hk)
        have mb := hsb _ (List.getElem_mem (show k < ys.length by rw [← HL.out]; exact hk))
        generalize xs[k] = a at *
        generalize ys[k] = b at *
        obtain ⟨b1, o1, rfl, hc1, hl1, hca⟩ := hTar.at (k := k) (p := Tp.enc a) (by rw [List.getElem?_map, ga]; rfl)
        obtain ⟨b2, o2, rfl, hc2, hl2', hcb⟩ := hTbr.at (k := k) (p := Tp.enc b) (by rw [List.getElem?_map, gb]; rfl)
        have hst := hF a b wr
        have HR : Aside (R a b = (st a b || (decide (Tp.hd a = Tp.hd b) && Tp.all2 R (Tp.kids a) (Tp.kids b)))) := hR a b
        have HT : Aside (Tp.all2 R (xs.take (k + 1)) (ys.take (k + 1)) = R a b) := by show _ = _; rw [Tp.all2_take R ga gb, HA.out]; rfl
        have HZ : Aside (R a b = false → Tp.all2 R xs ys = false) := Tp.all2_false R ga gb
        have h1 := head_yes a ma.1
        have h2 := head_yes b mb
        have p1 := kids_any a ma.1
        have p2 := kids_any b mb
        have hkl := Tp.kid_len a
        have hklb := Tp.kid_len b
        have ep := Tp.enc_pos a
        have ih' := ih ((Tp.enc a).length - 1) (by omega) (Tp.kids a) (Tp.kids b)
        clear ga gb hR hF ih hTa hTb hTar hTbr hP hA hsa hsb
        cases hsb : st a b with
        | true =>
          rw [hsb] at hst HR
          generalize S (Tp.enc a) = s at *
          generalize S (Tp.enc b) = t at *
          go_wp2_with fail
          refine hst.mono ?_
          rintro e w1 ⟨rfl, hw1⟩
          replace hw1 := hw1.symm; subst hw1
          go_wp2_with fail
          go_roundg (gk - 1)
          case measure => omega
          case rel => exact ⟨k + 1, by omega, rfl, by go_num, by show _ = _; rw [HT.out, HR.out]; rfl, hB⟩
        | false =>
          rw [hsb] at hst HR
          by_cases hh : Tp.hd a = Tp.hd b
          · have hd0 : (((Tp.hd a).toNat : Int) != ((Tp.hd b).toNat : Int)) = false := by rw [hh]; simp
            have hkk : Aside ((Tp.kids a).length = (Tp.kids b).length) := Tp.hd_kids hh
            have hk2 : (Tp.kids a).length ≤ 2 := by cases a <;> simp [Tp.kids]
            rw [show decide (Tp.hd a = Tp.hd b) = true by simpa using hh] at HR
            clear hh
            generalize hsa' : S (Tp.enc a) = s at *
            generalize hsb' : S (Tp.enc b) = t at *
            go_wp2_with fail
            refine hst.mono ?_
            rintro e w1 ⟨rfl, hw1⟩
            replace hw1 := hw1.symm; subst hw1
            go_wp2_with (first | (go_at_call_of 83 s; refine (h1 _).mono ?_; rintro e w' ⟨rfl, hw'⟩; replace hw' := hw'.symm; subst hw') | (go_at_call_of 83 t; refine (h2 _).mono ?_; rintro e w' ⟨rfl, hw'⟩; replace hw' := hw'.symm; subst hw'))
            have hAs : A < wr.heap.size := by omega
            have hPs : P < wr.heap.size := by omega
            have HS1 : ∀ x ∈ Tp.kids a, (Tp.enc x).length ≤ 64 ∧ (Tp.enc x).length ≤ (Tp.enc a).length - 1 := fun x hx => by have := hkl x hx; omega
            have HS2 : ∀ x ∈ Tp.kids b, (Tp.enc x).length ≤ 64 := fun x hx => by have := hklb x hx; omega
            have hTu : IsTexts wr (.slice none 0 0) [] := .inl ⟨rfl, _, _, rfl⟩
            clear hst hkl hklb h1 h2
            cases hx : Tp.all2 R (Tp.kids a) (Tp.kids b) with
            | true =>
              rw [hx] at ih' HR
              go_region_with (first
                | (go_at_call_of 82 s; refine (p1 _).mono ?_; rintro e w1 ⟨a1, c1, rfl, T1, B1⟩; have hAr := (B1.cell (p := ⟨A, 0, none⟩) hAs).trans hAr; have hPr := (B1.cell (p := ⟨P, 0, none⟩) hPs).trans hPr; have hAs := Nat.lt_of_lt_of_le hAs B1.size; have hPs := Nat.lt_of_lt_of_le hPs B1.size; have hB : Below w.heap.size w w1 := (by first | exact hB.trans (B1.mono hsz) | exact hB.drew.trans (B1.mono hsz)); have hsz := hB.size; try (have T2 := T2.below B1))
                | (go_at_call_of 82 t; refine (p2 _).mono ?_; rintro e w1 ⟨a2, c2, rfl, T2, B1⟩; have hAr := (B1.cell (p := ⟨A, 0, none⟩) hAs).trans hAr; have hPr := (B1.cell (p := ⟨P, 0, none⟩) hPs).trans hPr; have hAs := Nat.lt_of_lt_of_le hAs B1.size; have hPs := Nat.lt_of_lt_of_le hPs B1.size; have hB : Below w.heap.size w w1 := (by first | exact hB.trans (B1.mono hsz) | exact hB.drew.trans (B1.mono hsz)); have hsz := hB.size; try (have T1 := T1.below B1))
                | (go_at_call 102; refine (ih' _ _ _ P A hkk.out hk2 HS1 HS2 (by exact T1) (by exact T2) (by exact hPs) (by exact hAs) (by exact hPr) (by exact hAr)).mono ?_; rintro e w3 ⟨rfl, hB3⟩))
              all_goals
                go_wp2_with fail
                go_roundg (gk - 1)
                case measure => omega
                case rel => exact ⟨k + 1, by omega, rfl, by go_num, by show _ = _; rw [HT.out, HR.out]; rfl, by first | exact hB.trans (hB3.mono hsz) | exact hB.drew.trans (hB3.mono hsz)⟩
            | false =>
              rw [hx] at ih' HR
              have HN : Aside (Tp.all2 R xs ys = false) := HZ.out (by rw [HR.out]; rfl)
              go_region_with (first
                | (go_at_call_of 82 s; refine (p1 _).mono ?_; rintro e w1 ⟨a1, c1, rfl, T1, B1⟩; have hAr := (B1.cell (p := ⟨A, 0, none⟩) hAs).trans hAr; have hPr := (B1.cell (p := ⟨P, 0, none⟩) hPs).trans hPr; have hAs := Nat.lt_of_lt_of_le hAs B1.size; have hPs := Nat.lt_of_lt_of_le hPs B1.size; have hB : Below w.heap.size w w1 := (by first | exact hB.trans (B1.mono hsz) | exact hB.drew.trans (B1.mono hsz)); have hsz := hB.size; try (have T2 := T2.below B1))
                | (go_at_call_of 82 t; refine (p2 _).mono ?_; rintro e w1 ⟨a2, c2, rfl, T2, B1⟩; have hAr := (B1.cell (p := ⟨A, 0, none⟩) hAs).trans hAr; have hPr := (B1.cell (p := ⟨P, 0, none⟩) hPs).trans hPr; have hAs := Nat.lt_of_lt_of_le hAs B1.size; have hPs := Nat.lt_of_lt_of_le hPs B1.size; have hB : Below w.heap.size w w1 := (by first | exact hB.trans (B1.mono hsz) | exact hB.drew.trans (B1.mono hsz)); have hsz := hB.size; try (have T1 := T1.below B1))
                | (go_at_call 102; refine (ih' _ _ _ P A hkk.out hk2 HS1 HS2 (by exact T1) (by exact T2) (by exact hPs) (by exact hAs) (by exact hPr) (by exact hAr)).mono ?_; rintro e w3 ⟨rfl, hB3⟩))
              all_goals
                go_wp2_with fail
                try rw [Exit.noGoto_ret]
                go_ret
                rw [HN.out]
                exact ⟨rfl, by first | exact hB.trans (hB3.mono hsz) | exact hB.drew.trans (hB3.mono hsz)⟩
          · have hd0 : (((Tp.hd a).toNat : Int) != ((Tp.hd b).toNat : Int)) = true := by
              simp only [bne_iff_ne, ne_eq]
              intro e
              exact hh (UInt8.toNat_inj.1 (by omega))
            rw [show decide (Tp.hd a = Tp.hd b) = false by simpa using hh] at HR
            have HN : Aside (Tp.all2 R xs ys = false) := HZ.out (by rw [HR.out]; rfl)
            generalize hsa' : S (Tp.enc a) = s at *
            generalize hsb' : S (Tp.enc b) = t at *
            go_wp2_with fail
            refine hst.mono ?_
            rintro e w1 ⟨rfl, hw1⟩
            replace hw1 := hw1.symm; subst hw1
            go_wp2_with (first | (go_at_call_of 83 s; refine (h1 _).mono ?_; rintro e w' ⟨rfl, hw'⟩; replace hw' := hw'.symm; subst hw') | (go_at_call_of 83 t; refine (h2 _).mono ?_; rintro e w' ⟨rfl, hw'⟩; replace hw' := hw'.symm; subst hw'))
            try rw [Exit.noGoto_ret]
            go_ret
            rw [HN.out]
            exact ⟨rfl, hB⟩
      · have hk' : decide ((k : Int) < (xs.length : Int)) = false := by simp; omega
        obtain rfl : k = xs.length := by omega
        rw [List.take_length, HL.out, List.take_length] at HA
        go_wp2_with fail
        try rw [Exit.noGoto_ret]
        go_ret
        rw [HA.out]
        exact ⟨rfl, hB⟩
end Go.Proofs.YtaaokecdmbmgbaaGreatDoor.T3
namespace Go.Proofs.YtaaokecdmbmgbaaGreatDoor.T3
set_option maxRecDepth 100000
open Go.RowKit

theorem texts2 (w : World) (a b : List UInt8) : IsTexts (w.alloc (.cells #[.string (S a), .string (S b)] 9)) (.slice (some ⟨w.heap.size, 0, none⟩) 2 2) [a, b] :=
  IsTexts.own (own_lit w (tcells [a, b]) 9 (by simp [tcells, maxLen]))
theorem texts1 (w : World) (a : List UInt8) : IsTexts (w.alloc (.cells #[.string (S a)] 9)) (.slice (some ⟨w.heap.size, 0, none⟩) 1 1) [a] :=
  IsTexts.own (own_lit w (tcells [a]) 9 (by simp [tcells, maxLen]))
theorem texts1e {w W : World} {a : List UInt8} {n : Nat} (hW : W = w.alloc (.cells #[.string (S a)] 9)) (hn : n = w.heap.size) : IsTexts W (.slice (some ⟨n, 0, none⟩) 1 1) [a] := by
  subst hW hn; exact texts1 w a
theorem cell_new {w W : World} {v : Value} {t : TypeId} {n : Nat} (hW : W = w.alloc (.cells #[v] t)) (hn : n = w.heap.size) : W.cell? ⟨n, 0, none⟩ = some v := by
  subst hW hn
  rw [(block_cells (heap_alloc_new w (.cells #[v] t))).1 0]
  rfl
theorem cell_old {w W : World} {o : Obj} {b k : Nat} {v : Value} (hW : W = w.alloc o) (hb : b < w.heap.size) (h : w.cell? ⟨b, k, none⟩ = some v) : W.cell? ⟨b, k, none⟩ = some v := by
  subst hW
  exact (World.cell?_of_block (Below.heap_alloc _ _ _ hb)).trans h
theorem below_alloc (w : World) (o : Obj) : Below w.heap.size w (w.alloc o) := (Below.refl _ _).alloc (Nat.le_refl _) _
theorem rcheck2 (w : World) (l m : List UInt8) (W : World) (hW : W = w.alloc (.cells #[.string (S l), .string (S m)] 9)) (n : Nat) (hn : n = w.heap.size) : Calls Tryz.prog 101 #[.slice (some ⟨n, 0, none⟩) 2 2] W fun e w' => e = .returned (.int .i64 (Tp.firstBad [l, m])) ∧ w' = W := by
  subst hW hn
  exact rcheck_any _ [l, m] _ (texts2 w l m) (by simp)
theorem bad2 {l m : List UInt8} (h : (Tp.chk l).1 ≠ 0 ∨ (Tp.chk m).1 ≠ 0) : Tp.firstBad [l, m] ≠ 0 := by
  unfold Tp.firstBad Tp.firstBad
  rcases h with h | h
  · rw [if_neg h]; exact h
  · by_cases hl : (Tp.chk l).1 = 0
    · rw [if_pos hl, if_neg h]; exact h
    · rw [if_neg hl]; exact hl
theorem good2 {l m : List UInt8} (h : (Tp.chk l).1 = 0) (k : (Tp.chk m).1 = 0) : Tp.firstBad [l, m] = 0 := by
  simp [Tp.firstBad, h, k]

theorem store_func (a : Addr) (fn : Fn) (f c : Array Value) (w : World) : (store a (.func fn f c)).run Tryz.prog w = stored Tryz.prog w a (.func fn f c) .plain := run_store Tryz.prog w a _ _ rfl

set_option maxHeartbeats 2000000 in
theorem together_no (F : Nat) (l m : List UInt8) (h : (Tp.chk l).1 ≠ 0 ∨ (Tp.chk m).1 ≠ 0) (w : World) :
    Calls Tryz.prog 79 #[.string (S l), .string (S m), .func (.func F) #[] #[]] w fun e w' => e = .returned (.bool false) ∧ Below w.heap.size w w' := by
  have hb := bad2 h
  have hb' : ((Tp.firstBad [l, m] : Int) != 0) = true := by simpa using hb
  have hc := fun w => rcheck2 w l m
  generalize S l = s at *
  generalize S m = t at *
  go_enter Tryz.func79, Tryz.ntmps79
  go_wp2_with (go_at_call 101; refine (hc _ _ rfl _ (by simp)).mono ?_; rintro e w' ⟨rfl, rfl⟩)
  go_ret
  exact ⟨rfl, ((Below.refl _ _).alloc (Nat.le_refl _) _).alloc (by simp) _⟩

set_option maxHeartbeats 2000000 in
theorem together_yes (F : Nat) (st R : Tp.Ty → Tp.Ty → Bool) (hE : ∀ args w, (callFunc F args).run Tryz.prog w = .ok (.enter F args) w) (hF : Settles F st) (hR : ∀ a b, R a b = (st a b || (decide (Tp.hd a = Tp.hd b) && Tp.all2 R (Tp.kids a) (Tp.kids b)))) (a b : Tp.Ty) (ha : (Tp.enc a).length ≤ 64) (hb : (Tp.enc b).length ≤ 64) (w : World) :
    Calls Tryz.prog 79 #[.string (S (Tp.enc a)), .string (S (Tp.enc b)), .func (.func F) #[] #[]] w fun e w' => e = .returned (.bool (R a b)) ∧ Below w.heap.size w w' := by
  have hg : Tp.firstBad [Tp.enc a, Tp.enc b] = 0 := good2 (by rw [Tp.chk_enc a ha]) (by rw [Tp.chk_enc b hb])
  have hc := fun w => rcheck2 w (Tp.enc a) (Tp.enc b)
  rw [hg] at hc
  have hA := agree_any F st R hE hF hR 64 [a] [b]
  have ht1 := fun w W n => texts1e (w := w) (W := W) (a := Tp.enc a) (n := n)
  have ht2 := fun w W n => texts1e (w := w) (W := W) (a := Tp.enc b) (n := n)
  have hx : Tp.all2 R [a] [b] = R a b := by simp [Tp.all2]
  rw [hx] at hA
  clear hR hx
  have e45 := enters102
  have hsf := store_func
  generalize S (Tp.enc a) = s at *
  generalize S (Tp.enc b) = t at *
  go_enter Tryz.func79, Tryz.ntmps79
  go_wp2_with (first | (go_at_call 101; refine (hc _ _ rfl _ (by simp)).mono ?_; rintro e w' ⟨rfl, hw'⟩; replace hw' := hw'.symm; subst hw'))
  refine (hA _ _ _ _ _ rfl (by simp) (by simp; exact ha) (by simp; exact hb) ?_ ?_ (by simp; try omega) (by simp; try omega) ?_ ?_).mono ?_
  · exact (ht1 _ _ _ rfl (by simp)).below (below_alloc _ _)
  · exact ht2 _ _ _ rfl (by simp)
  · exact cell_old rfl (by simp; omega) (cell_old rfl (by simp; omega) (cell_old rfl (by simp; omega) (cell_old rfl (by simp) (cell_new rfl rfl))))
  · exact cell_old rfl (by simp) (cell_old rfl (by simp) (cell_new rfl (by simp)))
  rintro e w' ⟨rfl, hB⟩
  go_wp2_with fail
  go_ret
  refine ⟨rfl, Below.trans ?_ (hB.mono (by simp; omega))⟩
  exact (((((Below.refl _ _).alloc (Nat.le_refl _) _).alloc (by simp) _).alloc (by simp; omega) _).alloc (by simp; omega) _).alloc (by simp; omega) _

theorem enters80 : ∀ args w, (callFunc 80 args).run Tryz.prog w = .ok (.enter 80 args) w := enters_of Tryz.func80 (by kernel_rfl) rfl
namespace Tp
theorem cns_eq : ∀ a b : Ty, cns a b = ((isq a || isq b) || (decide (hd a = hd b) && all2 cns (kids a) (kids b))) := by
  intro a b
  cases a <;> cases b <;> simp [cns, isq, hd, kids, all2]
theorem prc_eq : ∀ a b : Ty, prc a b = (isq b || (decide (hd a = hd b) && all2 prc (kids a) (kids b))) := by
  intro a b
  cases a <;> cases b <;> simp [prc, isq, hd, kids, all2]
end Tp

set_option maxHeartbeats 1000000 in
theorem consistent_yes (a b : Tp.Ty) (ha : (Tp.enc a).length ≤ 64) (hb : (Tp.enc b).length ≤ 64) (w : World) :
    Calls Tryz.prog 56 #[.string (S (Tp.enc a)), .string (S (Tp.enc b))] w fun e w' => e = .returned (.bool (Tp.cns a b)) ∧ Below w.heap.size w w' := by
  have h := together_yes 80 _ Tp.cns enters80 cons1_any Tp.cns_eq a b ha hb
  generalize S (Tp.enc a) = s at *
  generalize S (Tp.enc b) = t at *
  go_enter Tryz.func56, Tryz.ntmps56
  go_wp2_with (go_at_call 79; refine (h _).mono ?_; rintro e w' ⟨rfl, hB⟩)
  go_ret
  exact ⟨rfl, hB⟩
set_option maxHeartbeats 1000000 in
theorem consistent_no (l m : List UInt8) (h : (Tp.chk l).1 ≠ 0 ∨ (Tp.chk m).1 ≠ 0) (w : World) :
    Calls Tryz.prog 56 #[.string (S l), .string (S m)] w fun e w' => e = .returned (.bool false) ∧ Below w.heap.size w w' := by
  have h := together_no 80 l m h
  generalize S l = s at *
  generalize S m = t at *
  go_enter Tryz.func56, Tryz.ntmps56
  go_wp2_with (go_at_call 79; refine (h _).mono ?_; rintro e w' ⟨rfl, hB⟩)
  go_ret
  exact ⟨rfl, hB⟩
end Go.Proofs.YtaaokecdmbmgbaaGreatDoor.T3
