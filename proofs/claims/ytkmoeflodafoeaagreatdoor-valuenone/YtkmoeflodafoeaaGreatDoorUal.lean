/- What the program's together tells of two types, walking both side by side. -/
import Derived.Test.YtkmoeflodafoeaaGreatDoorUaj
import Derived.Test.YtkmoeflodafoeaaGreatDoorUak
import Derived.WalkMore
namespace Go.Proofs.YtkmoeflodafoeaaGreatDoor.T3
set_option maxRecDepth 100000
open Go.RowKit

theorem IsTexts.below {w w' : World} {v : Value} {ps : List (List UInt8)} (h : IsTexts w v ps) (hB : Below w.heap.size w w') : IsTexts w' v ps := by
  rcases h with h | ⟨b, o, c, rfl, h1, h2, h3⟩
  · exact .inl h
  · exact .inr ⟨b, o, c, rfl, h1, Nat.lt_of_lt_of_le h2 hB.size, fun j p hp => (hB.cell (p := ⟨b, o + j, none⟩) h2).trans (h3 j p hp)⟩
theorem IsTexts.form {w : World} {v : Value} {ps : List (List UInt8)} (h : IsTexts w v ps) : ∃ a c, v = .slice a ps.length c := by
  rcases h with ⟨rfl, a, c, rfl⟩ | ⟨b, o, c, rfl, _⟩
  · exact ⟨a, c, rfl⟩
  · exact ⟨_, c, rfl⟩
theorem IsTexts.at {w : World} {a : Option Addr} {n c : Nat} {ps : List (List UInt8)} (h : IsTexts w (.slice a n c) ps) {k : Nat} {p : List UInt8} (hp : ps[k]? = some p) : ∃ b o, a = some ⟨b, o, none⟩ ∧ n ≤ c ∧ b < w.heap.size ∧ w.cell? ⟨b, o + k, none⟩ = some (.string (S p)) := by
  rcases h with ⟨rfl, _⟩ | ⟨b, o, c', h0, h1, h2, h3⟩
  · simp at hp
  · obtain ⟨rfl, rfl, rfl⟩ : a = some ⟨b, o, none⟩ ∧ n = ps.length ∧ c = c' := by simpa using h0
    exact ⟨b, o, rfl, h1, h2, h3 k p hp⟩

theorem kids_any (t : Tp.Ty) (h : (Tp.enc t).length ≤ 64) (w : World) :
    Calls Tryz.prog 125 #[.string (S (Tp.enc t))] w fun e w' => ∃ a c, e = .returned (.slice a (Tp.kids t).length c) ∧ IsTexts w' (.slice a (Tp.kids t).length c) ((Tp.kids t).map Tp.enc) ∧ Below w.heap.size w w' := by
  refine (parts_yes t h w).mono ?_
  rintro e w' ⟨v, rfl, hown, hB⟩
  obtain ⟨a, c, rfl⟩ := own_len hown
  exact ⟨a, c, rfl, own_at hown (by simp), hB⟩

namespace Tp
def all2 (R : Ty → Ty → Bool) : List Ty → List Ty → Bool
  | a :: xs, b :: ys => R a b && all2 R xs ys
  | _, _ => true
theorem all2_take (R : Ty → Ty → Bool) : ∀ {xs ys : List Ty} {k : Nat} {a b : Ty}, xs[k]? = some a → ys[k]? = some b → all2 R (xs.take (k + 1)) (ys.take (k + 1)) = (all2 R (xs.take k) (ys.take k) && R a b)
  | [], _, _, _, _, h, _ => by simp at h
  | _ :: _, [], _, _, _, _, h => by simp at h
  | x :: xs, y :: ys, 0, a, b, h, k => by
    simp at h k; subst h; subst k; simp [all2]
  | x :: xs, y :: ys, n + 1, a, b, h, k => by
    simp at h k
    rw [List.take_succ_cons, List.take_succ_cons, all2, all2_take R h k, List.take_succ_cons, List.take_succ_cons, all2, Bool.and_assoc]
theorem all2_false (R : Ty → Ty → Bool) : ∀ {xs ys : List Ty} {k : Nat} {a b : Ty}, xs[k]? = some a → ys[k]? = some b → R a b = false → all2 R xs ys = false
  | [], _, _, _, _, h, _, _ => by simp at h
  | _ :: _, [], _, _, _, _, h, _ => by simp at h
  | x :: xs, y :: ys, 0, a, b, h, k, e => by
    simp at h k; subst h; subst k; simp [all2, e]
  | x :: xs, y :: ys, n + 1, a, b, h, k, e => by
    simp at h k
    rw [all2, all2_false R h k e, Bool.and_false]
theorem hd_kids {a b : Ty} (h : hd a = hd b) : (kids a).length = (kids b).length := by cases a <;> cases b <;> simp [hd, kids] at h ⊢
end Tp

theorem enters163 : ∀ args w, (callFunc 163 args).run Tryz.prog w = .ok (.enter 163 args) w := enters_of Tryz.func163 (by kernel_rfl) rfl

/-- What a function that settles answers. -/
def Settles (F : Nat) (st : Tp.Ty → Tp.Ty → Bool) : Prop := ∀ (a b : Tp.Ty) (w : World), Calls Tryz.prog F #[.string (S (Tp.enc a)), .string (S (Tp.enc b))] w fun e w' => e = .returned (.bool (st a b)) ∧ w' = w

set_option maxHeartbeats 4000000 in
theorem agree_any (F : Nat) (st R : Tp.Ty → Tp.Ty → Bool) (hE : ∀ args w, (callFunc F args).run Tryz.prog w = .ok (.enter F args) w) (hF : Settles F st) (hR : ∀ a b, R a b = (st a b || (decide (Tp.hd a = Tp.hd b) && Tp.all2 R (Tp.kids a) (Tp.kids b)))) (n : Nat) :
    ∀ (xs ys : List Tp.Ty) (va vb : Value) (w : World) (P A : Nat), xs.length = ys.length → xs.length ≤ 2 → (∀ a ∈ xs, (Tp.enc a).length ≤ 64 ∧ (Tp.enc a).length ≤ n) → (∀ b ∈ ys, (Tp.enc b).length ≤ 64) → IsTexts w va (xs.map Tp.enc) → IsTexts w vb (ys.map Tp.enc) →
      P < w.heap.size → A < w.heap.size → w.cell? ⟨P, 0, none⟩ = some (.func (.func F) #[] #[]) → w.cell? ⟨A, 0, none⟩ = some (.func (.func 163) #[] #[.pointer (some ⟨P, 0, none⟩), .pointer (some ⟨A, 0, none⟩)]) →
      Calls Tryz.prog 163 #[va, vb, .pointer (some ⟨P, 0, none⟩), .pointer (some ⟨A, 0, none⟩)] w fun e w' => e = .returned (.bool (Tp.all2 R xs ys)) ∧ Below w.heap.size w w' := by
  induction n using Nat.strongRecOn with
  | _ n ih =>
    intro xs ys va vb w P A hl hl2 hsa hsb hTa hTb hPl hAl hP hA
    obtain ⟨aa, ca, rfl⟩ := hTa.form
    obtain ⟨ab, cb, rfl⟩ := hTb.form
    have hml : (xs.map Tp.enc).length = xs.length := by simp
    have hmlb : (ys.map Tp.enc).length = xs.length := by simp [hl]
    rw [hml] at *
    rw [hmlb] at *
    have HL : Aside (xs.length = ys.length) := hl
    clear hl hml hmlb
    go_enter Tryz.func163, Tryz.ntmps163
    go_wp2_with fail
    go_step3
    go_wp2_with fail
    go_step3
    go_wp2_with fail
    go_loopg [7, 13] xs.length (fun g al t wr => ∃ k : Nat, k + g = xs.length ∧ al = .bool true ∧ t = .int .i64 k ∧ Aside (Tp.all2 R (xs.take k) (ys.take k) = true) ∧ Below w.heap.size w wr)
    case atStart => exact ⟨0, by omega, rfl, rfl, rfl, Below.refl _ _⟩
    case round =>
      obtain ⟨k, hkg, rfl, rfl, HA, hB⟩ := hrel
      have hPr := (hB.cell (p := ⟨P, 0, none⟩) hPl).trans hP
      have hAr := (hB.cell (p := ⟨A, 0, none⟩) hAl).trans hA
      have hTar := hTa.below hB
      have hTbr := hTb.below hB
      have hsz := hB.size
      by_cases hk : k < xs.length
      · have hk' : (k : Int) < (xs.length : Int) := by omega
        have hk0 : (0 : Int) ≤ (k : Int) := by omega
        have ga := List.getElem?_eq_getElem hk
        have gb := List.getElem?_eq_getElem (show k < ys.length by rw [← HL.out]; exact hk)
        have ma := hsa _ (List.getElem_mem hk)
        have mb := hsb _ (List.getElem_mem (show k < ys.length by rw [← HL.out]; exact hk))
        generalize xs[k] = a at *
        generalize ys[k] = b at *
        obtain ⟨b1, o1, rfl, hc1, hl1, hca⟩ := hTar.at (k := k) (p := Tp.enc a) (by rw [List.getElem?_map, ga]; rfl)
        obtain ⟨b2, o2, rfl, hc2, hl2', hcb⟩ := hTbr.at (k := k) (p := Tp.enc b) (by rw [List.getElem?_map, gb]; rfl)
        have hst := hF a b wr
        have HR : Aside (R a b = (st a b || (decide (Tp.hd a = Tp.hd b) && Tp.all2 R (Tp.kids a) (Tp.kids b)))) := hR a b
        have HT : Aside (Tp.all2 R (xs.take (k + 1)) (ys.take (k + 1)) = R a b) := by show _ = _; rw [Tp.all2_take R ga gb, HA.out]; rfl
        have HZ : Aside (R a b = false → Tp.all2 R xs ys = false) := Tp.all2_false R ga gb
        have h1 := head_yes a ma.1
        have h2 := head_yes b mb
        have p1 := kids_any a ma.1
        have p2 := kids_any b mb
        have hkl := Tp.kid_len a
        have hklb := Tp.kid_len b
        have ep := Tp.enc_pos a
        have ih' := ih ((Tp.enc a).length - 1) (by omega) (Tp.kids a) (Tp.kids b)
        clear ga gb hR hF ih hTa hTb hTar hTbr hP hA hsa hsb
        cases hsb : st a b with
        | true =>
          rw [hsb] at hst HR
          generalize S (Tp.enc a) = s at *
          generalize S (Tp.enc b) = t at *
          go_wp2_with fail
          refine hst.mono ?_
          rintro e w1 ⟨rfl, hw1⟩
          replace hw1 := hw1.symm; subst hw1
          go_wp2_with fail
          go_roundg (gk - 1)
          case measure => omega
          case rel => exact ⟨k + 1, by omega, rfl, by go_num, by show _ = _; rw [HT.out, HR.out]; rfl, hB⟩
        | false =>
          rw [hsb] at hst HR
          by_cases hh : Tp.hd a = Tp.hd b
          · have hd0 : (((Tp.hd a).toNat : Int) != ((Tp.hd b).toNat : Int)) = false := by rw [hh]; simp
            have hkk : Aside ((Tp.kids a).length = (Tp.kids b).length) := Tp.hd_kids hh
            have hk2 : (Tp.kids a).length ≤ 2 := by cases a <;> simp [Tp.kids]
            rw [show decide (Tp.hd a = Tp.hd b) = true by simpa using hh] at HR
            clear hh
            generalize hsa' : S (Tp.enc a) = s at *
            generalize hsb' : S (Tp.enc b) = t at *
            go_wp2_with fail
            refine hst.mono ?_
            rintro e w1 ⟨rfl, hw1⟩
            replace hw1 := hw1.symm; subst hw1
            go_wp2_with (first | (go_at_call_of 126 s; refine (h1 _).mono ?_; rintro e w' ⟨rfl, hw'⟩; replace hw' := hw'.symm; subst hw') | (go_at_call_of 126 t; refine (h2 _).mono ?_; rintro e w' ⟨rfl, hw'⟩; replace hw' := hw'.symm; subst hw'))
            have hAs : A < wr.heap.size := by omega
            have hPs : P < wr.heap.size := by omega
            have HS1 : ∀ x ∈ Tp.kids a, (Tp.enc x).length ≤ 64 ∧ (Tp.enc x).length ≤ (Tp.enc a).length - 1 := fun x hx => by have := hkl x hx; omega
            have HS2 : ∀ x ∈ Tp.kids b, (Tp.enc x).length ≤ 64 := fun x hx => by have := hklb x hx; omega
            have hTu : IsTexts wr (.slice none 0 0) [] := .inl ⟨rfl, _, _, rfl⟩
            clear hst hkl hklb h1 h2
            cases hx : Tp.all2 R (Tp.kids a) (Tp.kids b) with
            | true =>
              rw [hx] at ih' HR
              go_region_with (first
                | (go_at_call_of 125 s; refine (p1 _).mono ?_; rintro e w1 ⟨a1, c1, rfl, T1, B1⟩; have hAr := (B1.cell (p := ⟨A, 0, none⟩) hAs).trans hAr; have hPr := (B1.cell (p := ⟨P, 0, none⟩) hPs).trans hPr; have hAs := Nat.lt_of_lt_of_le hAs B1.size; have hPs := Nat.lt_of_lt_of_le hPs B1.size; have hB : Below w.heap.size w w1 := (by first | exact hB.trans (B1.mono hsz) | exact hB.drew.trans (B1.mono hsz)); have hsz := hB.size; try (have T2 := T2.below B1))
                | (go_at_call_of 125 t; refine (p2 _).mono ?_; rintro e w1 ⟨a2, c2, rfl, T2, B1⟩; have hAr := (B1.cell (p := ⟨A, 0, none⟩) hAs).trans hAr; have hPr := (B1.cell (p := ⟨P, 0, none⟩) hPs).trans hPr; have hAs := Nat.lt_of_lt_of_le hAs B1.size; have hPs := Nat.lt_of_lt_of_le hPs B1.size; have hB : Below w.heap.size w w1 := (by first | exact hB.trans (B1.mono hsz) | exact hB.drew.trans (B1.mono hsz)); have hsz := hB.size; try (have T1 := T1.below B1))
                | (go_at_call 163; refine (ih' _ _ _ P A hkk.out hk2 HS1 HS2 (by exact T1) (by exact T2) (by exact hPs) (by exact hAs) (by exact hPr) (by exact hAr)).mono ?_; rintro e w3 ⟨rfl, hB3⟩))
              all_goals
                go_wp2_with fail
                go_roundg (gk - 1)
                case measure => omega
                case rel => exact ⟨k + 1, by omega, rfl, by go_num, by show _ = _; rw [HT.out, HR.out]; rfl, by first | exact hB.trans (hB3.mono hsz) | exact hB.drew.trans (hB3.mono hsz)⟩
            | false =>
              rw [hx] at ih' HR
              have HN : Aside (Tp.all2 R xs ys = false) := HZ.out (by rw [HR.out]; rfl)
              go_region_with (first
                | (go_at_call_of 125 s; refine (p1 _).mono ?_; rintro e w1 ⟨a1, c1, rfl, T1, B1⟩; have hAr := (B1.cell (p := ⟨A, 0, none⟩) hAs).trans hAr; have hPr := (B1.cell (p := ⟨P, 0, none⟩) hPs).trans hPr; have hAs := Nat.lt_of_lt_of_le hAs B1.size; have hPs := Nat.lt_of_lt_of_le hPs B1.size; have hB : Below w.heap.size w w1 := (by first | exact hB.trans (B1.mono hsz) | exact hB.drew.trans (B1.mono hsz)); have hsz := hB.size; try (have T2 := T2.below B1))
                | (go_at_call_of 125 t; refine (p2 _).mono ?_; rintro e w1 ⟨a2, c2, rfl, T2, B1⟩; have hAr := (B1.cell (p := ⟨A, 0, none⟩) hAs).trans hAr; have hPr := (B1.cell (p := ⟨P, 0, none⟩) hPs).trans hPr; have hAs := Nat.lt_of_lt_of_le hAs B1.size; have hPs := Nat.lt_of_lt_of_le hPs B1.size; have hB : Below w.heap.size w w1 := (by first | exact hB.trans (B1.mono hsz) | exact hB.drew.trans (B1.mono hsz)); have hsz := hB.size; try (have T1 := T1.below B1))
                | (go_at_call 163; refine (ih' _ _ _ P A hkk.out hk2 HS1 HS2 (by exact T1) (by exact T2) (by exact hPs) (by exact hAs) (by exact hPr) (by exact hAr)).mono ?_; rintro e w3 ⟨rfl, hB3⟩))
              all_goals
                go_wp2_with fail
                try rw [Exit.noGoto_ret]
                go_ret
                rw [HN.out]
                exact ⟨rfl, by first | exact hB.trans (hB3.mono hsz) | exact hB.drew.trans (hB3.mono hsz)⟩
          · have hd0 : (((Tp.hd a).toNat : Int) != ((Tp.hd b).toNat : Int)) = true := by
              simp only [bne_iff_ne, ne_eq]
              intro e
              exact hh (UInt8.toNat_inj.1 (by omega))
            rw [show decide (Tp.hd a = Tp.hd b) = false by simpa using hh] at HR
            have HN : Aside (Tp.all2 R xs ys = false) := HZ.out (by rw [HR.out]; rfl)
            generalize hsa' : S (Tp.enc a) = s at *
            generalize hsb' : S (Tp.enc b) = t at *
            go_wp2_with fail
            refine hst.mono ?_
            rintro e w1 ⟨rfl, hw1⟩
            replace hw1 := hw1.symm; subst hw1
            go_wp2_with (first | (go_at_call_of 126 s; refine (h1 _).mono ?_; rintro e w' ⟨rfl, hw'⟩; replace hw' := hw'.symm; subst hw') | (go_at_call_of 126 t; refine (h2 _).mono ?_; rintro e w' ⟨rfl, hw'⟩; replace hw' := hw'.symm; subst hw'))
            try rw [Exit.noGoto_ret]
            go_ret
            rw [HN.out]
            exact ⟨rfl, hB⟩
      · have hk' : decide ((k : Int) < (xs.length : Int)) = false := by simp; omega
        obtain rfl : k = xs.length := by omega
        rw [List.take_length, HL.out, List.take_length] at HA
        go_wp2_with fail
        try rw [Exit.noGoto_ret]
        go_ret
        rw [HA.out]
        exact ⟨rfl, hB⟩
end Go.Proofs.YtkmoeflodafoeaaGreatDoor.T3
