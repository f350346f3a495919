/- What the program's together tells of two types, walking both side by side. What the program's Consistent and Precise tell. What the program's merge makes of two types. -/
import Derived.Test.YthdlfeejeboboaaGreatDoorUae
import Derived.Test.YthdlfeejeboboaaGreatDoorUaf
import Derived.WalkMore
namespace Go.Proofs.YthdlfeejeboboaaGreatDoor.T3
set_option maxRecDepth 100000
open Go.RowKit

theorem IsTexts.below {w w' : World} {v : Value} {ps : List (List UInt8)} (h : IsTexts w v ps) (hB : Below w.heap.size w w') : IsTexts w' v ps := by
  rcases h with h | ⟨b, o, c, rfl, h1, h2, h3⟩
  · exact .inl h
  · exact .inr ⟨b, o, c, rfl, h1, Nat.lt_of_lt_of_le h2 hB.size, fun j p hp => (hB.cell (p := ⟨b, o + j, none⟩) h2).trans (h3 j p hp)⟩
theorem IsTexts.form {w : World} {v : Value} {ps : List (List UInt8)} (h : IsTexts w v ps) : ∃ a c, v = .slice a ps.length c := by
  rcases h with ⟨rfl, a, c, rfl⟩ | ⟨b, o, c, rfl, _⟩
  · exact ⟨a, c, rfl⟩
  · exact ⟨_, c, rfl⟩
theorem IsTexts.at {w : World} {a : Option Addr} {n c : Nat} {ps : List (List UInt8)} (h : IsTexts w (.slice a n c) ps) {k : Nat} {p : List UInt8} (hp : ps[k]? = some p) : ∃ b o, a = some ⟨b, o, none⟩ ∧ n ≤ c ∧ b < w.heap.size ∧ w.cell? ⟨b, o + k, none⟩ = some (.string (S p)) := by
  rcases h with ⟨rfl, _⟩ | ⟨b, o, c', h0, h1, h2, h3⟩
  · simp at hp
  · obtain ⟨rfl, rfl, rfl⟩ : a = some ⟨b, o, none⟩ ∧ n = ps.length ∧ c = c' := by simpa using h0
    exact ⟨b, o, rfl, h1, h2, h3 k p hp⟩

theorem kids_any (t : Tp.Ty) (h : (Tp.enc t).length ≤ 64) (w : World) :
    Calls Tryz.prog 114 #[.string (S (Tp.enc t))] w fun e w' => ∃ a c, e = .returned (.slice a (Tp.kids t).length c) ∧ IsTexts w' (.slice a (Tp.kids t).length c) ((Tp.kids t).map Tp.enc) ∧ Below w.heap.size w w' := by
  refine (parts_yes t h w).mono ?_
  rintro e w' ⟨v, rfl, hown, hB⟩
  obtain ⟨a, c, rfl⟩ := own_len hown
  exact ⟨a, c, rfl, own_at hown (by simp), hB⟩

namespace Tp
def all2 (R : Ty → Ty → Bool) : List Ty → List Ty → Bool
  | a :: xs, b :: ys => R a b && all2 R xs ys
  | _, _ => true
theorem all2_take (R : Ty → Ty → Bool) : ∀ {xs ys : List Ty} {k : Nat} {a b : Ty}, xs[k]? = some a → ys[k]? = some b → all2 R (xs.take (k + 1)) (ys.take (k + 1)) = (all2 R (xs.take k) (ys.take k) && R a b)
  | [], _, _, _, _, h, _ => by simp at h
  | _ :: _, [], _, _, _, _, h => by simp at h
  | x :: xs, y :: ys, 0, a, b, h, k => by
    simp at h k; subst h; subst k; simp [all2]
  | x :: xs, y :: ys, n + 1, a, b, h, k => by
    simp at h k
    rw [List.take_succ_cons, List.take_succ_cons, all2, all2_take R h k, List.take_succ_cons, List.take_succ_cons, all2, Bool.and_assoc]
theorem all2_false (R : Ty → Ty → Bool) : ∀ {xs ys : List Ty} {k : Nat} {a b : Ty}, xs[k]? = some a → ys[k]? = some b → R a b = false → all2 R xs ys = false
  | [], _, _, _, _, h, _, _ => by simp at h
  | _ :: _, [], _, _, _, _, h, _ => by simp at h
  | x :: xs, y :: ys, 0, a, b, h, k, e => by
    simp at h k; subst h; subst k; simp [all2, e]
  | x :: xs, y :: ys, n + 1, a, b, h, k, e => by
    simp at h k
    rw [all2, all2_false R h k e, Bool.and_false]
theorem hd_kids {a b : Ty} (h : hd a = hd b) : (kids a).length = (kids b).length := by cases a <;> cases b <;> simp [hd, kids] at h ⊢
end Tp

theorem enters112 : ∀ args w, (callFunc 112 args).run Tryz.prog w = .ok (.enter 112 args) w := enters_of Tryz.func112 (by kernel_rfl) rfl

def Settles (F : Nat) (st : Tp.Ty → Tp.Ty → Bool) : Prop := ∀ (a b : Tp.Ty) (w : World), Calls Tryz.prog F #[.string (S (Tp.enc a)), .string (S (Tp.enc b))] w fun e w' => e = .returned (.bool (st a b)) ∧ w' = w

set_option maxHeartbeats 4000000 in
theorem agree_any (F : Nat) (st R : Tp.Ty → Tp.Ty → Bool) (hE : ∀ args w, (callFunc F args).run Tryz.prog w = .ok (.enter F args) w) (hF : Settles F st) (hR : ∀ a b, R a b = (st a b || (decide (Tp.hd a = Tp.hd b) && Tp.all2 R (Tp.kids a) (Tp.kids b)))) (n : Nat) :
    ∀ (xs ys : List Tp.Ty) (va vb : Value) (w : World) (P A : Nat), xs.length = ys.length → xs.length ≤ 2 → (∀ a ∈ xs, (Tp.enc a).length ≤ 64 ∧ (Tp.enc a).length ≤ n) → (∀ b ∈ ys, (Tp.enc b).length ≤ 64) → IsTexts w va (xs.map Tp.enc) → IsTexts w vb (ys.map Tp.enc) →
      P < w.heap.size → A < w.heap.size → w.cell? ⟨P, 0, none⟩ = some (.func (.func F) #[] #[]) → w.cell? ⟨A, 0, none⟩ = some (.func (.func 112) #[] #[.pointer (some ⟨P, 0, none⟩), .pointer (some ⟨A, 0, none⟩)]) →
      Calls Tryz.prog 112 #[va, vb, .pointer (some ⟨P, 0, none⟩), .pointer (some ⟨A, 0, none⟩)] w fun e w' => e = .returned (.bool (Tp.all2 R xs ys)) ∧ Below w.heap.size w w' := by
  induction n using Nat.strongRecOn with
  | _ n ih =>
    intro xs ys va vb w P A hl hl2 hsa hsb hTa hTb hPl hAl hP hA
    obtain ⟨aa, ca, rfl⟩ := hTa.form
    obtain ⟨ab, cb, rfl⟩ := hTb.form
    have hml : (xs.map Tp.enc).length = xs.length := by simp
    have hmlb : (ys.map Tp.enc).length = xs.length := by simp [hl]
    rw [hml] at *
    rw [hmlb] at *
    have HL : Aside (xs.length = ys.length) := hl
    clear hl hml hmlb
    go_enter Tryz.func112, Tryz.ntmps112
    go_wp2_with fail
    go_step3
    go_wp2_with fail
    go_step3
    go_wp2_with fail
    go_loopg [7, 13] xs.length (fun g al t wr => ∃ k : Nat, k + g = xs.length ∧ al = .bool true ∧ t = .int .i64 k ∧ Aside (Tp.all2 R (xs.take k) (ys.take k) = true) ∧ Below w.heap.size w wr)
    case atStart => exact ⟨0, by omega, rfl, rfl, rfl, Below.refl _ _⟩
    case round =>
      obtain ⟨k, hkg, rfl, rfl, HA, hB⟩ := hrel
      have hPr := (hB.cell (p := ⟨P, 0, none⟩) hPl).trans hP
      have hAr := (hB.cell (p := ⟨A, 0, none⟩) hAl).trans hA
      have hTar := hTa.below hB
      have hTbr := hTb.below hB
      have hsz := hB.size
      by_cases hk : k < xs.length
      · have hk' : (k : Int) < (xs.length : Int) := by omega
        have hk0 : (0 : Int) ≤ (k : Int) := by omega
        have ga := List.getElem?_eq_getElem hk
        have gb := List.getElem?_eq_getElem (show k < ys.length by rw [← HL.out]; exact hk)
        have ma := hsa _ (List.getElem_mem hk)
        have mb := hsb _ (List.getElem_mem (show k < ys.length by rw [← HL.out]; exact hk))
        generalize xs[k] = a at *
        generalize ys[k] = b at *
        obtain ⟨b1, o1, rfl, hc1, hl1, hca⟩ := hTar.at (k := k) (p := Tp.enc a) (by rw [List.getElem?_map, ga]; rfl)
        obtain ⟨b2, o2, rfl, hc2, hl2', hcb⟩ := hTbr.at (k := k) (p := Tp.enc b) (by rw [List.getElem?_map, gb]; rfl)
        have hst := hF a b wr
        have HR : Aside (R a b = (st a b || (decide (Tp.hd a = Tp.hd b) && Tp.all2 R (Tp.kids a) (Tp.kids b)))) := hR a b
        have HT : Aside (Tp.all2 R (xs.take (k + 1)) (ys.take (k + 1)) = R a b) := by show _ = _; rw [Tp.all2_take R ga gb, HA.out]; rfl
        have HZ : Aside (R a b = false → Tp.all2 R xs ys = false) := Tp.all2_false R ga gb
        have h1 := head_yes a ma.1
        have h2 := head_yes b mb
        have p1 := kids_any a ma.1
        have p2 := kids_any b mb
        have hkl := Tp.kid_len a
        have hklb := Tp.kid_len b
        have ep := Tp.enc_pos a
        have ih' := ih ((Tp.enc a).length - 1) (by omega) (Tp.kids a) (Tp.kids b)
        clear ga gb hR hF ih hTa hTb hTar hTbr hP hA hsa hsb
        cases hsb : st a b with
        | true =>
          rw [hsb] at hst HR
          generalize S (Tp.enc a) = s at *
          generalize S (Tp.enc b) = t at *
          go_wp2_with fail
          refine hst.mono ?_
          rintro e w1 ⟨rfl, hw1⟩
          replace hw1 := hw1.symm; subst hw1
          go_wp2_with fail
          go_roundg (gk - 1)
          case measure => omega
          case rel => exact ⟨k + 1, by omega, rfl, by go_num, by show _ = _; rw [HT.out, HR.out]; rfl, hB⟩
        | false =>
          rw [hsb] at hst HR
          by_cases hh : Tp.hd a = Tp.hd b
          · have hd0 : (((Tp.hd a).toNat : Int) != ((Tp.hd b).toNat : Int)) = false := by rw [hh]; simp
            have hkk : Aside ((Tp.kids a).length = (Tp.kids b).length) := Tp.hd_kids hh
            have hk2 : (Tp.kids a).length ≤ 2 := by cases a <;> simp [Tp.kids]
            rw [show decide (Tp.hd a = Tp.hd b) = true by simpa using hh] at HR
            clear hh
            generalize hsa' : S (Tp.enc a) = s at *
            generalize hsb' : S (Tp.enc b) = t at *
            go_wp2_with fail
            refine hst.mono ?_
            rintro e w1 ⟨rfl, hw1⟩
            replace hw1 := hw1.symm; subst hw1
            go_wp2_with (first | (go_at_call_of 113 s; refine (h1 _).mono ?_; rintro e w' ⟨rfl, hw'⟩; replace hw' := hw'.symm; subst hw') | (go_at_call_of 113 t; refine (h2 _).mono ?_; rintro e w' ⟨rfl, hw'⟩; replace hw' := hw'.symm; subst hw'))
            have hAs : A < wr.heap.size := by omega
            have hPs : P < wr.heap.size := by omega
            have HS1 : ∀ x ∈ Tp.kids a, (Tp.enc x).length ≤ 64 ∧ (Tp.enc x).length ≤ (Tp.enc a).length - 1 := fun x hx => by have := hkl x hx; omega
            have HS2 : ∀ x ∈ Tp.kids b, (Tp.enc x).length ≤ 64 := fun x hx => by have := hklb x hx; omega
            have hTu : IsTexts wr (.slice none 0 0) [] := .inl ⟨rfl, _, _, rfl⟩
            clear hst hkl hklb h1 h2
            cases hx : Tp.all2 R (Tp.kids a) (Tp.kids b) with
            | true =>
              rw [hx] at ih' HR
              go_region_with (first
                | (go_at_call_of 114 s; refine (p1 _).mono ?_; rintro e w1 ⟨a1, c1, rfl, T1, B1⟩; have hAr := (B1.cell (p := ⟨A, 0, none⟩) hAs).trans hAr; have hPr := (B1.cell (p := ⟨P, 0, none⟩) hPs).trans hPr; have hAs := Nat.lt_of_lt_of_le hAs B1.size; have hPs := Nat.lt_of_lt_of_le hPs B1.size; have hB : Below w.heap.size w w1 := (by first | exact hB.trans (B1.mono hsz) | exact hB.drew.trans (B1.mono hsz)); have hsz := hB.size; try (have T2 := T2.below B1))
                | (go_at_call_of 114 t; refine (p2 _).mono ?_; rintro e w1 ⟨a2, c2, rfl, T2, B1⟩; have hAr := (B1.cell (p := ⟨A, 0, none⟩) hAs).trans hAr; have hPr := (B1.cell (p := ⟨P, 0, none⟩) hPs).trans hPr; have hAs := Nat.lt_of_lt_of_le hAs B1.size; have hPs := Nat.lt_of_lt_of_le hPs B1.size; have hB : Below w.heap.size w w1 := (by first | exact hB.trans (B1.mono hsz) | exact hB.drew.trans (B1.mono hsz)); have hsz := hB.size; try (have T1 := T1.below B1))
                | (go_at_call 112; refine (ih' _ _ _ P A hkk.out hk2 HS1 HS2 (by exact T1) (by exact T2) (by exact hPs) (by exact hAs) (by exact hPr) (by exact hAr)).mono ?_; rintro e w3 ⟨rfl, hB3⟩))
              all_goals
                go_wp2_with fail
                go_roundg (gk - 1)
                case measure => omega
                case rel => exact ⟨k + 1, by omega, rfl, by go_num, by show _ = _; rw [HT.out, HR.out]; rfl, by first | exact hB.trans (hB3.mono hsz) | exact hB.drew.trans (hB3.mono hsz)⟩
            | false =>
              rw [hx] at ih' HR
              have HN : Aside (Tp.all2 R xs ys = false) := HZ.out (by rw [HR.out]; rfl)
              go_region_with (first
                | (go_at_call_of 114 s; refine (p1 _).mono ?_; rintro e w1 ⟨a1, c1, rfl, T1, B1⟩; have hAr := (B1.cell (p := ⟨A, 0, none⟩) hAs).trans hAr; have hPr := (B1.cell (p := ⟨P, 0, none⟩) hPs).trans hPr; have hAs := Nat.lt_of_lt_of_le hAs B1.size; have hPs := Nat.lt_of_lt_of_le hPs B1.size; have hB : Below w.heap.size w w1 := (by first | exact hB.trans (B1.mono hsz) | exact hB.drew.trans (B1.mono hsz)); have hsz := hB.size; try (have T2 := T2.below B1))
                | (go_at_call_of 114 t; refine (p2 _).mono ?_; rintro e w1 ⟨a2, c2, rfl, T2, B1⟩; have hAr := (B1.cell (p := ⟨A, 0, none⟩) hAs).trans hAr; have hPr := (B1.cell (p := ⟨P, 0, none⟩) hPs).trans hPr; have hAs := Nat.lt_of_lt_of_le hAs B1.size; have hPs := Nat.lt_of_lt_of_le hPs B1.size; have hB : Below w.heap.size w w1 := (by first | exact hB.trans (B1.mono hsz) | exact hB.drew.trans (B1.mono hsz)); have hsz := hB.size; try (have T1 := T1.below B1))
                | (go_at_call 112; refine (ih' _ _ _ P A hkk.out hk2 HS1 HS2 (by exact T1) (by exact T2) (by exact hPs) (by exact hAs) (by exact hPr) (by exact hAr)).mono ?_; rintro e w3 ⟨rfl, hB3⟩))
              all_goals
                go_wp2_with fail
                try rw [Exit.noGoto_ret]
                go_ret
                rw [HN.out]
                exact ⟨rfl, by first | exact hB.trans (hB3.mono hsz) | exact hB.drew.trans (hB3.mono hsz)⟩
          · have hd0 : (((Tp.hd a).toNat : Int) != ((Tp.hd b).toNat : Int)) = true := by
              simp only [bne_iff_ne, ne_eq]
              intro e
              exact hh (UInt8.toNat_inj.1 (by omega))
            rw [show decide (Tp.hd a = Tp.hd b) = false by simpa using hh] at HR
            have HN : Aside (Tp.all2 R xs ys = false) := HZ.out (by rw [HR.out]; rfl)
            generalize hsa' : S (Tp.enc a) = s at *
            generalize hsb' : S (Tp.enc b) = t at *
            go_wp2_with fail
            refine hst.mono ?_
            rintro e w1 ⟨rfl, hw1⟩
            replace hw1 := hw1.symm; subst hw1
            go_wp2_with (first | (go_at_call_of 113 s; refine (h1 _).mono ?_; rintro e w' ⟨rfl, hw'⟩; replace hw' := hw'.symm; subst hw') | (go_at_call_of 113 t; refine (h2 _).mono ?_; rintro e w' ⟨rfl, hw'⟩; replace hw' := hw'.symm; subst hw'))
            try rw [Exit.noGoto_ret]
            go_ret
            rw [HN.out]
            exact ⟨rfl, hB⟩
      · have hk' : decide ((k : Int) < (xs.length : Int)) = false := by simp; omega
        obtain rfl : k = xs.length := by omega
        rw [List.take_length, HL.out, List.take_length] at HA
        go_wp2_with fail
        try rw [Exit.noGoto_ret]
        go_ret
        rw [HA.out]
        exact ⟨rfl, hB⟩
end Go.Proofs.YthdlfeejeboboaaGreatDoor.T3
namespace Go.Proofs.YthdlfeejeboboaaGreatDoor.T3
set_option maxRecDepth 100000
open Go.RowKit

theorem texts2 (w : World) (a b : List UInt8) : IsTexts (w.alloc (.cells #[.string (S a), .string (S b)] 9)) (.slice (some ⟨w.heap.size, 0, none⟩) 2 2) [a, b] :=
  IsTexts.own (own_lit w (tcells [a, b]) 9 (by simp [tcells, maxLen]))
theorem texts1 (w : World) (a : List UInt8) : IsTexts (w.alloc (.cells #[.string (S a)] 9)) (.slice (some ⟨w.heap.size, 0, none⟩) 1 1) [a] :=
  IsTexts.own (own_lit w (tcells [a]) 9 (by simp [tcells, maxLen]))
theorem texts1e {w W : World} {a : List UInt8} {n : Nat} (hW : W = w.alloc (.cells #[.string (S a)] 9)) (hn : n = w.heap.size) : IsTexts W (.slice (some ⟨n, 0, none⟩) 1 1) [a] := by
  subst hW hn; exact texts1 w a
theorem cell_new {w W : World} {v : Value} {t : TypeId} {n : Nat} (hW : W = w.alloc (.cells #[v] t)) (hn : n = w.heap.size) : W.cell? ⟨n, 0, none⟩ = some v := by
  subst hW hn
  rw [(block_cells (heap_alloc_new w (.cells #[v] t))).1 0]
  rfl
theorem cell_old {w W : World} {o : Obj} {b k : Nat} {v : Value} (hW : W = w.alloc o) (hb : b < w.heap.size) (h : w.cell? ⟨b, k, none⟩ = some v) : W.cell? ⟨b, k, none⟩ = some v := by
  subst hW
  exact (World.cell?_of_block (Below.heap_alloc _ _ _ hb)).trans h
theorem below_alloc (w : World) (o : Obj) : Below w.heap.size w (w.alloc o) := (Below.refl _ _).alloc (Nat.le_refl _) _
theorem rcheck2 (w : World) (l m : List UInt8) (W : World) (hW : W = w.alloc (.cells #[.string (S l), .string (S m)] 9)) (n : Nat) (hn : n = w.heap.size) : Calls Tryz.prog 111 #[.slice (some ⟨n, 0, none⟩) 2 2] W fun e w' => e = .returned (.int .i64 (Tp.firstBad [l, m])) ∧ w' = W := by
  subst hW hn
  exact rcheck_any _ [l, m] _ (texts2 w l m) (by simp)
theorem good2 {l m : List UInt8} (h : (Tp.chk l).1 = 0) (k : (Tp.chk m).1 = 0) : Tp.firstBad [l, m] = 0 := by
  simp [Tp.firstBad, h, k]

theorem store_func (a : Addr) (fn : Fn) (f c : Array Value) (w : World) : (store a (.func fn f c)).run Tryz.prog w = stored Tryz.prog w a (.func fn f c) .plain := run_store Tryz.prog w a _ _ rfl

set_option maxHeartbeats 2000000 in
theorem together_yes (F : Nat) (st R : Tp.Ty → Tp.Ty → Bool) (hE : ∀ args w, (callFunc F args).run Tryz.prog w = .ok (.enter F args) w) (hF : Settles F st) (hR : ∀ a b, R a b = (st a b || (decide (Tp.hd a = Tp.hd b) && Tp.all2 R (Tp.kids a) (Tp.kids b)))) (a b : Tp.Ty) (ha : (Tp.enc a).length ≤ 64) (hb : (Tp.enc b).length ≤ 64) (w : World) :
    Calls Tryz.prog 56 #[.string (S (Tp.enc a)), .string (S (Tp.enc b)), .func (.func F) #[] #[]] w fun e w' => e = .returned (.bool (R a b)) ∧ Below w.heap.size w w' := by
  have hg : Tp.firstBad [Tp.enc a, Tp.enc b] = 0 := good2 (by rw [Tp.chk_enc a ha]) (by rw [Tp.chk_enc b hb])
  have hc := fun w => rcheck2 w (Tp.enc a) (Tp.enc b)
  rw [hg] at hc
  have hA := agree_any F st R hE hF hR 64 [a] [b]
  have ht1 := fun w W n => texts1e (w := w) (W := W) (a := Tp.enc a) (n := n)
  have ht2 := fun w W n => texts1e (w := w) (W := W) (a := Tp.enc b) (n := n)
  have hx : Tp.all2 R [a] [b] = R a b := by simp [Tp.all2]
  rw [hx] at hA
  clear hR hx
  have e45 := enters112
  have hsf := store_func
  generalize S (Tp.enc a) = s at *
  generalize S (Tp.enc b) = t at *
  go_enter Tryz.func56, Tryz.ntmps56
  go_wp2_with (first | (go_at_call 111; refine (hc _ _ rfl _ (by simp)).mono ?_; rintro e w' ⟨rfl, hw'⟩; replace hw' := hw'.symm; subst hw'))
  refine (hA _ _ _ _ _ rfl (by simp) (by simp; exact ha) (by simp; exact hb) ?_ ?_ (by simp; try omega) (by simp; try omega) ?_ ?_).mono ?_
  · exact (ht1 _ _ _ rfl (by simp)).below (below_alloc _ _)
  · exact ht2 _ _ _ rfl (by simp)
  · exact cell_old rfl (by simp; omega) (cell_old rfl (by simp; omega) (cell_old rfl (by simp; omega) (cell_old rfl (by simp) (cell_new rfl rfl))))
  · exact cell_old rfl (by simp) (cell_old rfl (by simp) (cell_new rfl (by simp)))
  rintro e w' ⟨rfl, hB⟩
  go_wp2_with fail
  go_ret
  refine ⟨rfl, Below.trans ?_ (hB.mono (by simp; omega))⟩
  exact (((((Below.refl _ _).alloc (Nat.le_refl _) _).alloc (by simp) _).alloc (by simp; omega) _).alloc (by simp; omega) _).alloc (by simp; omega) _

theorem enters57 : ∀ args w, (callFunc 57 args).run Tryz.prog w = .ok (.enter 57 args) w := enters_of Tryz.func57 (by kernel_rfl) rfl
namespace Tp
theorem cns_eq : ∀ a b : Ty, cns a b = ((isq a || isq b) || (decide (hd a = hd b) && all2 cns (kids a) (kids b))) := by
  intro a b
  cases a <;> cases b <;> simp [cns, isq, hd, kids, all2]
end Tp

set_option maxHeartbeats 1000000 in
theorem consistent_yes (a b : Tp.Ty) (ha : (Tp.enc a).length ≤ 64) (hb : (Tp.enc b).length ≤ 64) (w : World) :
    Calls Tryz.prog 21 #[.string (S (Tp.enc a)), .string (S (Tp.enc b))] w fun e w' => e = .returned (.bool (Tp.cns a b)) ∧ Below w.heap.size w w' := by
  have h := together_yes 57 _ Tp.cns enters57 cons1_any Tp.cns_eq a b ha hb
  generalize S (Tp.enc a) = s at *
  generalize S (Tp.enc b) = t at *
  go_enter Tryz.func21, Tryz.ntmps21
  go_wp2_with (go_at_call 56; refine (h _).mono ?_; rintro e w' ⟨rfl, hB⟩)
  go_ret
  exact ⟨rfl, hB⟩
end Go.Proofs.YthdlfeejeboboaaGreatDoor.T3
namespace Go.Proofs.YthdlfeejeboboaaGreatDoor.T3
set_option maxRecDepth 100000
open Go.RowKit

theorem set_at {w : World} {g : Nat} {cur : Array Value} {T : TypeId} (h : w.heap[g]? = some (.cells cur T (0, 0))) (k : Nat) (x : Value) : (w.setCell ⟨g, k, none⟩ x).heap[g]? = some (.cells (cur.setIfInBounds k x) T (0, 0)) := by
  simp [World.setCell, Array.getElem?_modify, h]
theorem own_set {w : World} {base e n B k : Nat} {v : Value} {xs : List Value} (h : w.ownsRow base e 1 v n xs) (hb : v.ownBlock ≠ some B) (x : Value) : (w.setCell ⟨B, k, none⟩ x).ownsRow base e 1 v n xs := by
  obtain ⟨h1, h2 | ⟨g, cap, cur, rfl, hg, hh, hr⟩⟩ := h
  · exact ⟨h1, .inl h2⟩
  · refine ⟨h1, .inr ⟨g, cap, cur, rfl, hg, ?_, hr⟩⟩
    rw [Below.heap_setCell _ _ _ _ (by intro e; exact hb (by simp [Value.ownBlock, e]))]
    exact hh
theorem own_put {w : World} {base e n c b k : Nat} {xs : List Value} (h : w.ownsRow base e 1 (.slice (some ⟨b, 0, none⟩) n c) n xs) (x : Value) : (w.setCell ⟨b, k, none⟩ x).ownsRow base e 1 (.slice (some ⟨b, 0, none⟩) n c) n (xs.set k x) := by
  obtain ⟨hl, ⟨h0, _⟩ | ⟨g', cap, cur, e1, hg, hh, hr1, hr2, hr3, hr4⟩⟩ := h
  · cases h0
  · obtain ⟨rfl, rfl⟩ : b = g' ∧ c = cap := by simpa using e1
    refine ⟨by simpa using hl, .inr ⟨b, c, cur.setIfInBounds k x, rfl, hg, set_at hh _ _, hr1, hr2, by simpa using hr3, ?_⟩⟩
    rw [Array.toList_setIfInBounds, List.take_set, hr4]
theorem own_below {w w' : World} {H e n : Nat} {v : Value} {xs : List Value} (h : w.ownsRow H e 1 v n xs) (hB : Below w.heap.size w w') : w'.ownsRow H e 1 v n xs := by
  obtain ⟨h1, h2 | ⟨g, cap, cur, rfl, hg, hh, hr⟩⟩ := h
  · exact ⟨h1, .inl h2⟩
  · exact ⟨h1, .inr ⟨g, cap, cur, rfl, hg, (hB.block g (Array.getElem?_eq_some_iff.1 hh).1).trans hh, hr⟩⟩
theorem own_lt {w : World} {H e n : Nat} {v : Value} {xs : List Value} (h : w.ownsRow H e 1 v n xs) {b : Nat} (hb : v.ownBlock = some b) : H ≤ b ∧ b < w.heap.size := by
  obtain ⟨h1, ⟨rfl, _⟩ | ⟨g, cap, cur, rfl, hg, hh, hr⟩⟩ := h
  · simp [Value.ownBlock] at hb
  · obtain rfl : g = b := by simpa [Value.ownBlock] using hb
    exact ⟨hg, (Array.getElem?_eq_some_iff.1 hh).1⟩
theorem own_cell {w : World} {H e n c : Nat} {a : Option Addr} {xs : List Value} (h : w.ownsRow H e 1 (.slice a n c) n xs) {k : Nat} {x : Value} (hx : xs[k]? = some x) : ∃ b, a = some ⟨b, 0, none⟩ ∧ H ≤ b ∧ b < w.heap.size ∧ n ≤ c ∧ w.cell? ⟨b, k, none⟩ = some x ∧ w.frozen? ⟨b, k, none⟩ = false := by
  obtain ⟨hl, ⟨h0, h1⟩ | ⟨b, cap, cur, h0, hg, hh, hc, _, hs, ht⟩⟩ := h
  · have := (List.getElem?_eq_some_iff.1 hx).1
    omega
  · obtain ⟨rfl, rfl⟩ : a = some ⟨b, 0, none⟩ ∧ c = cap := by simpa using h0
    have hk : k < n * 1 := by have := (List.getElem?_eq_some_iff.1 hx).1; omega
    refine ⟨b, rfl, hg, (Array.getElem?_eq_some_iff.1 hh).1, hc, ?_, (block_cells hh).2 k⟩
    rw [(block_cells hh).1 k, ← Array.getElem?_toList]
    rw [← ht, List.getElem?_take, if_pos hk] at hx
    exact hx

namespace Tp
def merr (t : Ty) : Nat := if (enc t).length ≤ 64 then 0 else 21
theorem mk_merr (t : Ty) (h : ∀ u ∈ kids t, (enc u).length ≤ 64) : mkF (hd t) ((kids t).map enc) = (merr t, val t) := by
  by_cases h64 : (enc t).length ≤ 64
  · rw [mk_parts t h64]; simp [merr, val, h64]
  · have e : enc t = hd t :: ((kids t).map enc).flatten := enc_eq t
    rw [mk_large (by rw [List.length_map]; exact ar_hd t) (firstBad_encs _ h)]
    · simp [merr, val, h64]
    · rw [e] at h64; simp at h64 ⊢; omega
theorem merr_kid {t u : Ty} (hu : u ∈ kids t) (h : merr u ≠ 0) : merr t = 21 ∧ merr u = 21 ∧ val t = [] := by
  have := kid_len t u hu
  unfold merr at *
  by_cases h1 : (enc u).length ≤ 64
  · simp [h1] at h
  · have : ¬ (enc t).length ≤ 64 := by omega
    simp [h1, this, val]
end Tp

def Settle2 (F : Nat) (sv : Tp.Ty → Tp.Ty → Tp.Ty) (sb : Tp.Ty → Tp.Ty → Bool) : Prop := ∀ (a b : Tp.Ty) (w : World), (Tp.enc a).length ≤ 64 → (Tp.enc b).length ≤ 64 → Calls Tryz.prog F #[.string (S (Tp.enc a)), .string (S (Tp.enc b))] w fun e w' => e = .returned (.tuple #[.string (S (Tp.enc (sv a b))), .bool (sb a b)]) ∧ w' = w
structure Merges (sv : Tp.Ty → Tp.Ty → Tp.Ty) (sb : Tp.Ty → Tp.Ty → Bool) (M : Tp.Ty → Tp.Ty → Tp.Ty) (D : Tp.Ty → Tp.Ty → Prop) : Prop where
  set : ∀ a b, D a b → sb a b = true → M a b = sv a b
  small : ∀ a b, (Tp.enc a).length ≤ 64 → (Tp.enc b).length ≤ 64 → (Tp.enc (sv a b)).length ≤ 64
  head : ∀ a b, D a b → sb a b = false → Tp.hd a = Tp.hd b ∧ Tp.hd (M a b) = Tp.hd a
  kids : ∀ a b, D a b → sb a b = false → Tp.kids (M a b) = List.zipWith M (Tp.kids a) (Tp.kids b)
  down : ∀ a b, D a b → sb a b = false → ∀ (k : Nat) (x y : Tp.Ty), (Tp.kids a)[k]? = some x → (Tp.kids b)[k]? = some y → D x y

theorem mix_set (L ka : List Tp.Ty) (k : Nat) (x m : Tp.Ty) (hx : ka[k]? = some x) (hm : L[k]? = some m) :
    (tcells ((L.take k).map Tp.enc ++ (ka.drop k).map Tp.enc)).set k (.string (S (Tp.enc m))) = tcells ((L.take (k + 1)).map Tp.enc ++ (ka.drop (k + 1)).map Tp.enc) := by
  obtain ⟨h1, h1'⟩ := List.getElem?_eq_some_iff.1 hx
  obtain ⟨h2, h2'⟩ := List.getElem?_eq_some_iff.1 hm
  rw [List.drop_eq_getElem_cons h1, List.take_succ_eq_append_getElem h2, h2']
  unfold tcells
  rw [List.map_append, List.set_append, if_neg (by simp; omega)]
  simp only [List.map_append, List.map_cons, List.map_nil, List.append_assoc, List.length_map, List.length_take, show k - min k L.length = 0 by omega, List.set_cons_zero, List.cons_append, List.nil_append]
theorem zip_at {M : Tp.Ty → Tp.Ty → Tp.Ty} {ka kb : List Tp.Ty} {k : Nat} {x y : Tp.Ty} (hx : ka[k]? = some x) (hy : kb[k]? = some y) : (List.zipWith M ka kb)[k]? = some (M x y) := by
  rw [List.getElem?_zipWith, hx, hy]

theorem enters217 : ∀ args w, (callFunc 217 args).run Tryz.prog w = .ok (.enter 217 args) w := enters_of Tryz.func217 (by kernel_rfl) rfl

set_option maxHeartbeats 4000000 in
theorem put_any (F : Nat) (sv : Tp.Ty → Tp.Ty → Tp.Ty) (sb : Tp.Ty → Tp.Ty → Bool) (M : Tp.Ty → Tp.Ty → Tp.Ty) (D : Tp.Ty → Tp.Ty → Prop) (hE : ∀ args w, (callFunc F args).run Tryz.prog w = .ok (.enter F args) w) (hF : Settle2 F sv sb) (hM : Merges sv sb M D) (n : Nat) :
    ∀ (a b : Tp.Ty) (w : World) (P A : Nat), D a b → (Tp.enc a).length ≤ n → (Tp.enc a).length ≤ 64 → (Tp.enc b).length ≤ 64 →
      P < w.heap.size → A < w.heap.size → w.cell? ⟨P, 0, none⟩ = some (.func (.func F) #[] #[]) → w.cell? ⟨A, 0, none⟩ = some (.func (.func 217) #[] #[.pointer (some ⟨P, 0, none⟩), .pointer (some ⟨A, 0, none⟩)]) →
      Calls Tryz.prog 217 #[.string (S (Tp.enc a)), .string (S (Tp.enc b)), .pointer (some ⟨P, 0, none⟩), .pointer (some ⟨A, 0, none⟩)] w fun e w' => e = .returned (.tuple #[.string (S (Tp.val (M a b))), .int .i64 (Tp.merr (M a b))]) ∧ Below w.heap.size w w' := by
  induction n with
  | zero => intro a b w P A _ h0 _ _ _ _ _ _; have := Tp.enc_pos a; omega
  | succ n ih =>
    intro a b w P A hD hn ha hb hPl hAl hP hA
    have hst := hF a b w ha hb
    cases hsb : sb a b with
    | true =>
      have HM : Aside (M a b = sv a b) := hM.set a b hD hsb
      have hs := hM.small a b ha hb
      have HV : Aside (Tp.val (M a b) = Tp.enc (sv a b) ∧ Tp.merr (M a b) = 0) := by
        show _ ∧ _
        rw [HM.out]; simp [Tp.val, Tp.merr, hs]
      rw [hsb] at hst
      clear ih hM hF
      generalize S (Tp.enc a) = s at *
      generalize S (Tp.enc b) = t at *
      go_enter Tryz.func217, Tryz.ntmps217
      go_wp2_with fail
      refine hst.mono ?_
      rintro e w1 ⟨rfl, hw1⟩
      replace hw1 := hw1.symm; subst hw1
      go_wp2_with fail
      go_ret2
      rw [HV.out.1, HV.out.2]
      exact ⟨rfl, Below.refl _ _⟩
    | false =>
      rw [hsb] at hst
      obtain ⟨hh, hhM⟩ := hM.head a b hD hsb
      have HK : Aside (Tp.kids (M a b) = List.zipWith M (Tp.kids a) (Tp.kids b)) := hM.kids a b hD hsb
      have HD := hM.down a b hD hsb
      have HH : Aside (Tp.hd (M a b) = Tp.hd a) := hhM
      have HL : Aside ((Tp.kids a).length = (Tp.kids b).length) := Tp.hd_kids hh
      have h1 := head_yes a ha
      have p1 := parts_yes a ha
      have p2 := parts_yes b hb
      have hkl := Tp.kid_len a
      have hklb := Tp.kid_len b
      have hk2 : (Tp.kids a).length ≤ 2 := by cases a <;> simp [Tp.kids]
      clear hM hF hh hhM
      generalize S (Tp.enc a) = s at *
      generalize S (Tp.enc b) = t at *
      go_enter Tryz.func217, Tryz.ntmps217
      go_wp2_with fail
      refine hst.mono ?_
      rintro e w1 ⟨rfl, hw1⟩
      replace hw1 := hw1.symm; subst hw1
      go_wp2_with (first | (go_at_call_of 114 s; refine (p1 _).mono ?_; rintro e w1 ⟨v1, rfl, O1, B1⟩; obtain ⟨a1, c1, rfl⟩ := own_len O1) | (go_at_call_of 114 t; refine (p2 _).mono ?_; rintro e w2 ⟨v2, rfl, O2, B2⟩; obtain ⟨a2, c2, rfl⟩ := own_len O2))
      have hs1 := B1.size
      have hs2 := B2.size
      have O1' := own_below O1 B2
      have hP2 := (B2.cell (p := ⟨P, 0, none⟩) (show P < w1.heap.size by omega)).trans ((B1.cell (p := ⟨P, 0, none⟩) hPl).trans hP)
      have hA2 := (B2.cell (p := ⟨A, 0, none⟩) (show A < w1.heap.size by omega)).trans ((B1.cell (p := ⟨A, 0, none⟩) hAl).trans hA)
      have hB0 : Below w.heap.size w w2 := B1.trans (B2.mono hs1)
      have hne : ∀ g, Value.ownBlock (.slice a1 (Tp.kids a).length c1) = some g → Value.ownBlock (.slice a2 (Tp.kids b).length c2) ≠ some g := by
        intro g hg hg2
        have q1 := (own_lt O1 hg).2
        have q2 := (own_lt O2 hg2).1
        omega
      clear hP hA O1 B1 B2 p1 p2 hst
      go_loopg [31] (Tp.kids a).length (fun g t wr => ∃ k : Nat, k + g = (Tp.kids a).length ∧ t = .int .i64 k ∧ Below w.heap.size w wr ∧ Below w.heap.size w w2 ∧ wr.cell? ⟨P, 0, none⟩ = some (.func (.func F) #[] #[]) ∧ wr.cell? ⟨A, 0, none⟩ = some (.func (.func 217) #[] #[.pointer (some ⟨P, 0, none⟩), .pointer (some ⟨A, 0, none⟩)]) ∧ w2.heap.size ≤ wr.heap.size
        ∧ wr.ownsRow w.heap.size 9 1 (.slice a1 (Tp.kids a).length c1) (Tp.kids a).length (tcells (((List.zipWith M (Tp.kids a) (Tp.kids b)).take k).map Tp.enc ++ ((Tp.kids a).drop k).map Tp.enc)) ∧ wr.ownsRow w1.heap.size 9 1 (.slice a2 (Tp.kids b).length c2) (Tp.kids b).length (tcells ((Tp.kids b).map Tp.enc)) ∧ Aside (∀ u ∈ (List.zipWith M (Tp.kids a) (Tp.kids b)).take k, (Tp.enc u).length ≤ 64))
      case atStart => exact ⟨0, by omega, rfl, hB0, hB0, hP2, hA2, Nat.le_refl _, by simpa using O1', O2, by intro u hu; simp at hu⟩
      case round =>
        obtain ⟨k, hkg, rfl, hB, -, hPr, hAr, hsr, R1, R2, HS⟩ := hrel
        by_cases hk : k < (Tp.kids a).length
        · have hk' : (k : Int) < ((Tp.kids a).length : Int) := by omega
          have hk0 : (0 : Int) ≤ (k : Int) := by omega
          have hkb : k < (Tp.kids b).length := by rw [← HL.out]; exact hk
          have hkb' : (k : Int) < ((Tp.kids b).length : Int) := by omega
          have ga := List.getElem?_eq_getElem hk
          have gb := List.getElem?_eq_getElem hkb
          have ma := hkl _ (List.getElem_mem hk)
          have mb := hklb _ (List.getElem_mem hkb)
          generalize (Tp.kids a)[k] = x at *
          generalize (Tp.kids b)[k] = y at *
          have hDxy := HD k x y ga gb
          have gz : (List.zipWith M (Tp.kids a) (Tp.kids b))[k]? = some (M x y) := zip_at ga gb
          have hzl : (List.zipWith M (Tp.kids a) (Tp.kids b)).length = (Tp.kids a).length := by rw [List.length_zipWith, ← HL.out]; simp
          have hlen : (((List.zipWith M (Tp.kids a) (Tp.kids b)).take k).map Tp.enc).length = k := by rw [List.length_map, List.length_take, hzl]; omega
          obtain ⟨b1, rfl, hb1, hb1l, hc1, hcx, hfx⟩ := own_cell R1 (k := k) (x := .string (S (Tp.enc x))) (by
            unfold tcells
            rw [List.getElem?_map, List.getElem?_append_right (by omega), hlen, Nat.sub_self, List.getElem?_map, List.getElem?_drop, Nat.add_zero, ga]
            rfl)
          obtain ⟨b2, rfl, hb2, hb2l, hc2, hcy, -⟩ := own_cell R2 (k := k) (x := .string (S (Tp.enc y))) (by
            unfold tcells
            rw [List.getElem?_map, List.getElem?_map, gb]; rfl)
          have hbb : b2 ≠ b1 := by
            intro e
            exact hne b1 rfl (by simp [Value.ownBlock, e])
          have hrec := fun w => ih x y w P A hDxy (by omega) (by omega) (by omega)
          have hmem : M x y ∈ Tp.kids (M a b) := by rw [HK.out]; exact List.mem_of_getElem? gz
          have HX : Aside (Tp.merr (M x y) ≠ 0 → Tp.merr (M a b) = 21 ∧ Tp.merr (M x y) = 21 ∧ Tp.val (M a b) = []) := Tp.merr_kid hmem
          have GZ : Aside ((List.zipWith M (Tp.kids a) (Tp.kids b))[k]? = some (M x y)) := gz
          have GA : Aside ((Tp.kids a)[k]? = some x) := ga
          have hsw := hB.size
          clear ga gb gz hzl hlen ih HD hmem
          have hrl : ((Tp.kids b).length : Int) = (Tp.kids b).length := rfl
          by_cases hm : Tp.merr (M x y) = 0
          · have hm' : ((Tp.merr (M x y) : Int) != 0) = false := by simpa using hm
            have HV : Aside (Tp.val (M x y) = Tp.enc (M x y) ∧ (Tp.enc (M x y)).length ≤ 64) := by
              show _ ∧ _
              unfold Tp.merr at hm
              by_cases q : (Tp.enc (M x y)).length ≤ 64
              · simp [Tp.val, q]
              · simp [q] at hm
            generalize hsx : S (Tp.enc x) = sx at *
            generalize hsy : S (Tp.enc y) = sy at *
            go_wp2_with fail
            go_region_with (go_at_call 217; refine (hrec _ (by show P < wr.heap.size; omega) (by show A < wr.heap.size; omega) (by exact hPr) (by exact hAr)).mono ?_; rintro e w3 ⟨rfl, hB3⟩)
            all_goals
              have q1 := (hB3.cell (p := ⟨b1, k, none⟩) hb1l).trans hcx
              have q2 := (hB3.frozen (p := ⟨b1, k, none⟩) hb1l).trans hfx
              go_wp2_with fail
              go_roundg (gk - 1)
              case measure => omega
              case rel =>
                have hB' := hB.drew.trans (hB3.mono hsw)
                have hs3 : wr.heap.size ≤ w3.heap.size := hB3.size
                have hPb : P ≠ b1 := by omega
                have hAb : A ≠ b1 := by omega
                have st : ∀ q o, q ≠ b1 → ∀ u, (w3.setCell ⟨b1, k, none⟩ u).cell? ⟨q, o, none⟩ = w3.cell? ⟨q, o, none⟩ := fun q o hq u => World.cell?_of_block (Below.heap_setCell _ _ _ _ (by intro e; exact hq e))
                refine ⟨k + 1, by omega, by go_num, hB'.setCell hb1 _, hB0, (st P 0 hPb _).trans ((hB3.cell (p := ⟨P, 0, none⟩) (show P < wr.heap.size by omega)).trans hPr), (st A 0 hAb _).trans ((hB3.cell (p := ⟨A, 0, none⟩) (show A < wr.heap.size by omega)).trans hAr), by simp [World.setCell]; omega, ?_, own_set (own_below (by exact R2) hB3) (by simp [Value.ownBlock]; exact hbb) _, ?_⟩
                · rw [HV.out.1]
                  have := own_put (k := k) (own_below (by exact R1) hB3) (.string (S (Tp.enc (M x y))))
                  rw [mix_set _ _ k x _ GA.out GZ.out] at this
                  exact this
                · intro u hu
                  rw [List.take_succ_eq_append_getElem (List.getElem?_eq_some_iff.1 GZ.out).1, (List.getElem?_eq_some_iff.1 GZ.out).2] at hu
                  rcases List.mem_append.1 hu with hu | hu
                  · exact HS.out u hu
                  · simp at hu; subst hu; exact HV.out.2
          · have hm' : ((Tp.merr (M x y) : Int) != 0) = true := by simpa using hm
            generalize hsx : S (Tp.enc x) = sx at *
            generalize hsy : S (Tp.enc y) = sy at *
            go_wp2_with fail
            go_region_with (go_at_call 217; refine (hrec _ (by show P < wr.heap.size; omega) (by show A < wr.heap.size; omega) (by exact hPr) (by exact hAr)).mono ?_; rintro e w3 ⟨rfl, hB3⟩)
            all_goals
              go_wp2_with fail
              go_ret2
              obtain ⟨q1, q2, q3⟩ := HX.out hm
              rw [q1, q2, q3]
              exact ⟨rfl, hB.drew.trans (hB3.mono hsw)⟩
        · have hk' : decide ((k : Int) < ((Tp.kids a).length : Int)) = false := by simp; omega
          obtain rfl : k = (Tp.kids a).length := by omega
          have hzl : (List.zipWith M (Tp.kids a) (Tp.kids b)).length = (Tp.kids a).length := by rw [List.length_zipWith, ← HL.out]; simp
          rw [List.drop_length, List.map_nil, List.append_nil, ← hzl, List.take_length, hzl, ← HK.out] at R1
          rw [← hzl, List.take_length, ← HK.out] at HS
          have hkM : (Tp.kids a).length = ((Tp.kids (M a b)).map Tp.enc).length := by rw [List.length_map, HK.out, hzl]
          have hT := own_at R1 hkM
          have hm := make_any (Tp.hd a) _ _ wr hT (by rw [← hkM]; omega)
          rw [← HH.out, Tp.mk_merr _ HS.out] at hm
          rw [← HH.out] at h1
          clear hzl hkM
          go_wp2_with (first | (go_at_call 113; refine (h1 _).mono ?_; rintro e w' ⟨rfl, hw'⟩; replace hw' := hw'.symm; subst hw') | (go_at_call 139; refine hm.mono ?_; rintro e w' ⟨rfl, hB4⟩))
          go_ret2
          exact ⟨rfl, hB.trans (hB4.mono hB.size)⟩
end Go.Proofs.YthdlfeejeboboaaGreatDoor.T3
