/- The document's checker: head. The document's checker: a row of kids; each. The document's checker: meets. -/
import Derived.Test.YthihnkgjkmaplaaGreatDoorUal
import Derived.Test.YthihnkgjkmaplaaGreatDoorUam
import Derived.Deep.RegionHeld3
namespace Go.Proofs.YthihnkgjkmaplaaGreatDoor
open Go.RowKit Ck
open T3.Tp (Ty enc cns met)
set_option maxRecDepth 100000
set_option linter.unusedSimpArgs false

theorem texts_get {w : World} {v : Value} {ps : List (List UInt8)} (h : T3.IsTexts w v ps) {k : Nat} {p : List UInt8} (hp : ps[k]? = some p) : ∃ b o c, v = .slice (some ⟨b, o, none⟩) ps.length c ∧ ps.length ≤ c ∧ w.cell? ⟨b, o + k, none⟩ = some (.string (S p)) := by
  rcases h with ⟨h, _⟩ | ⟨b, o, c, h1, h2, _, h4⟩
  · subst h; simp at hp
  · exact ⟨b, o, c, h1, h2, h4 k p hp⟩

theorem khead_old (w : World) (cb tb n : Nat) {nV : Value} (e0 a0 : Int) (he : e0 ≠ 0) (sm : Bool) (k h i : Int) (hk : KC w cb tb n nV e0 a0 sm) :
    Calls Tryz.prog 115 #[.pointer (some ⟨cb, 0, none⟩), .int .i64 k, .int .u8 h, .int .i64 i] w fun en w' => en = .returned (.string (S (enc .tq))) ∧ w' = w := by
  have hE := hk.er
  have he' : (e0 != 0) = true := by simpa using he
  clear hk
  go_enter Tryz.func115, Tryz.ntmps115
  go_wp2_with fail
  go_ret
  exact ⟨rfl, rfl⟩

set_option maxHeartbeats 2000000 in
theorem khead_no (w : World) (cb tb n : Nat) {nV : Value} (a0 : Int) (sm : Bool) (k : Nat) (h : UInt8) (i : Int) (hh : h = 62 ∨ h = 44 ∨ h = 108 ∨ h = 120) (t : Ty) (hk : KC w cb tb n nV 0 a0 sm) (hkn : k < n) (ht : w.cell? ⟨tb, k, none⟩ = some (.string (S (enc t)))) (h64 : (enc t).length ≤ 64) (hm : Ck.mt t h = none) :
    Calls Tryz.prog 115 #[.pointer (some ⟨cb, 0, none⟩), .int .i64 (k : Int), .int .u8 (h.toNat : Int), .int .i64 i] w fun en w' => en = .returned (.string (S (enc .tq))) ∧ KC w' cb tb n nV 24 k sm ∧ Two cb cb w w' := by
  have hh' : (h.toNat : Int) = 62 ∨ (h.toNat : Int) = 44 ∨ (h.toNat : Int) = 108 ∨ (h.toNat : Int) = 120 := by rcases hh with rfl | rfl | rfl | rfl <;> simp
  have hM : ∀ w, Calls Tryz.prog 135 #[.string (S (enc t)), .int .u8 (h.toNat : Int)] w fun e w' => ∃ v, e = .returned (.tuple #[v, .bool (T3.mtB t h.toNat)]) ∧ Below w.heap.size w w' := fun w => (T3.kmatch_any t h.toNat hh' h64 w).mono fun e w' ⟨v, h1, _, h3⟩ => ⟨v, h1, h3⟩
  rw [mt_no hh hm] at hM
  have hno : ∀ w', Below w.heap.size w w' → Calls Tryz.prog 90 #[.pointer (some ⟨cb, 0, none⟩), .int .i64 24, .int .i64 (k : Int)] w' fun en w2 => en = .returned (.tuple #[]) ∧ KC w2 cb tb n nV 24 k sm ∧ Two cb cb w w2 := fun w' hB => (kno_set w' cb tb n a0 sm 24 k (hk.below hB)).mono fun en w2 ⟨h1, h2, h3⟩ => ⟨h1, h2, (below_two hB cb cb).trans h3⟩
  have hE := hk.er
  have hT := hk.ty
  unfold HasT at hT
  have hk' : (k : Int) < (n : Int) := by omega
  have hk0 : (0 : Int) ≤ (k : Int) := by omega
  clear hk hh hh' hm
  generalize S (T3.Tp.enc t) = ss at *
  generalize (h.toNat : Int) = hc at *
  go_enter Tryz.func115, Tryz.ntmps115
  go_wp2_with (first | (go_at_call 135; refine (hM _).mono ?_; rintro e w1 ⟨v, rfl, hB1⟩) | (go_at_call 90; refine (hno _ hB1).mono ?_; rintro e w2 ⟨rfl, hK2, hT2⟩))
  go_ret
  exact ⟨rfl, hK2, hT2⟩

set_option maxHeartbeats 2000000 in
theorem khead_yes (w : World) (cb tb n : Nat) {nV : Value} (a0 : Int) (sm : Bool) (k : Nat) (h : UInt8) (i : Nat) (hh : h = 62 ∨ h = 44 ∨ h = 108 ∨ h = 120) (hi : i ≤ 1) (t A B : Ty) (hk : KC w cb tb n nV 0 a0 sm) (hkn : k < n) (ht : w.cell? ⟨tb, k, none⟩ = some (.string (S (enc t)))) (h64 : (enc t).length ≤ 64) (hm : Ck.mt t h = some (A, B)) (hi2 : i = 1 → h = 62 ∨ h = 44) :
    Calls Tryz.prog 115 #[.pointer (some ⟨cb, 0, none⟩), .int .i64 (k : Int), .int .u8 (h.toNat : Int), .int .i64 (i : Int)] w fun en w' => en = .returned (.string (S (enc (if i = 0 then A else B)))) ∧ Below w.heap.size w w' := by
  have hh' : (h.toNat : Int) = 62 ∨ (h.toNat : Int) = 44 ∨ (h.toNat : Int) = 108 ∨ (h.toNat : Int) = 120 := by rcases hh with rfl | rfl | rfl | rfl <;> simp
  have hL : ∃ p, (T3.mtL t h.toNat)[i]? = some p ∧ p = enc (if i = 0 then A else B) := by
    obtain ⟨-, h2, -, -⟩ := mt_yes hh hm
    rcases h2 with h2 | ⟨h2, rfl⟩
    · rw [h2]
      match i, hi with
      | 0, _ => exact ⟨_, rfl, rfl⟩
      | 1, _ => exact ⟨_, rfl, rfl⟩
    · match i, hi with
      | 0, _ => rw [h2]; exact ⟨_, rfl, rfl⟩
      | 1, _ =>
        exfalso
        rcases hi2 rfl with rfl | rfl
        · cases t <;> simp [Ck.mt, T3.mtL, T3.Tp.hd, T3.Tp.kids, T3.Tp.ar, List.replicate] at hm h2
        · cases t <;> simp [Ck.mt, T3.mtL, T3.Tp.hd, T3.Tp.kids, T3.Tp.ar, List.replicate] at hm h2
  obtain ⟨p, hp, hpe⟩ := hL
  rw [← hpe]
  have hM : ∀ w, Calls Tryz.prog 135 #[.string (S (enc t)), .int .u8 (h.toNat : Int)] w fun e w' => ∃ v, e = .returned (.tuple #[v, .bool true]) ∧ T3.IsTexts w' v (T3.mtL t h.toNat) ∧ Below w.heap.size w w' := fun w => (T3.kmatch_any t h.toNat hh' h64 w).mono fun e w' ⟨v, h1, h2, h3⟩ => ⟨v, by rw [h1, (mt_yes hh hm).1], T3.IsTexts.own (h2 (mt_yes hh hm).1), h3⟩
  have hE := hk.er
  have hT := hk.ty
  unfold HasT at hT
  have hk' : (k : Int) < (n : Int) := by omega
  have hk0 : (0 : Int) ≤ (k : Int) := by omega
  have hil := (List.getElem?_eq_some_iff.1 hp).1
  clear hk hh hh' hm hi2 hpe
  generalize S (T3.Tp.enc t) = ss at *
  generalize T3.mtL t h.toNat = P at *
  generalize (h.toNat : Int) = hc at *
  have hi0 : (0 : Int) ≤ (i : Int) := by omega
  go_enter Tryz.func115, Tryz.ntmps115
  go_wp2_with (go_at_call 135; refine (hM _).mono ?_; rintro e w1 ⟨v, rfl, hX, hB1⟩; obtain ⟨b, o, c, rfl, hc1, hcx⟩ := texts_get hX hp; have hil' : (i : Int) < (P.length : Int) := by omega)
  go_ret
  exact ⟨rfl, hB1⟩
end Go.Proofs.YthihnkgjkmaplaaGreatDoor
namespace Go.Proofs.YthihnkgjkmaplaaGreatDoor
open Go.RowKit Ck
open T3.Tp (Ty enc cns met)
set_option maxRecDepth 100000
set_option linter.unusedSimpArgs false

/-- The kids' places in a row, their types in the types' row; neither lies in the checker's block. -/
structure KD (w : World) (cb tb n : Nat) (v : Value) (ks : List (Nat × Ty)) : Prop where
  form : (ks = [] ∧ ∃ a c, v = .slice a 0 c) ∨ ∃ kb o c, v = .slice (some ⟨kb, o, none⟩) ks.length c ∧ ks.length ≤ c ∧ kb ≠ cb ∧ kb < w.heap.size ∧ ∀ (j : Nat) (k : Nat × Ty), ks[j]? = some k → w.cell? ⟨kb, o + j, none⟩ = some (.int .i64 (k.1 : Int))
  len : ks.length ≤ 4096
  ne : tb ≠ cb
  ty : ∀ k ∈ ks, k.1 < n ∧ w.cell? ⟨tb, k.1, none⟩ = some (.string (S (enc k.2))) ∧ (enc k.2).length ≤ 64
theorem KD.two {w w' : World} {cb tb n : Nat} {v : Value} {ks : List (Nat × Ty)} (h : KD w cb tb n v ks) (k : Two cb cb w w') : KD w' cb tb n v ks := by
  refine ⟨?_, h.len, h.ne, fun x hx => ?_⟩
  · rcases h.form with h1 | ⟨kb, o, c, h1, h2, h3, h4, h5⟩
    · exact .inl h1
    · exact .inr ⟨kb, o, c, h1, h2, h3, Nat.lt_of_lt_of_le h4 k.size, fun j y hy => (k.cell (p := ⟨kb, o + j, none⟩) h4 h3 h3).trans (h5 j y hy)⟩
  · obtain ⟨h1, h2, h3⟩ := h.ty x hx
    exact ⟨h1, (k.cell (p := ⟨tb, x.1, none⟩) (World.block_lt_of_cell? _ _ h2) h.ne h.ne).trans h2, h3⟩
theorem KD.len_form {w : World} {cb tb n : Nat} {v : Value} {ks : List (Nat × Ty)} (h : KD w cb tb n v ks) : ∃ a c, v = .slice a ks.length c := by
  rcases h.form with ⟨h0, a, c, h1⟩ | ⟨kb, o, c, h1, _⟩
  · exact ⟨a, c, by rw [h0]; exact h1⟩
  · exact ⟨_, c, h1⟩
theorem KD.at {w : World} {cb tb n : Nat} {a : Option Addr} {c : Nat} {ks : List (Nat × Ty)} (h : KD w cb tb n (.slice a ks.length c) ks) {j : Nat} {k : Nat × Ty} (hk : ks[j]? = some k) :
    ∃ kb o, a = some ⟨kb, o, none⟩ ∧ ks.length ≤ c ∧ w.cell? ⟨kb, o + j, none⟩ = some (.int .i64 (k.1 : Int)) ∧ k.1 < n ∧ w.cell? ⟨tb, k.1, none⟩ = some (.string (S (enc k.2))) ∧ (enc k.2).length ≤ 64 := by
  rcases h.form with ⟨h0, _⟩ | ⟨kb, o, c', h1, h2, h3, h4, h5⟩
  · subst h0; simp at hk
  · injection h1 with e1 e2 e3
    subst e1 e3
    exact ⟨kb, o, rfl, h2, h5 j k hk, h.ty k (List.mem_of_getElem? hk)⟩

/-- The code and the place of a refusal. -/
def cdE {α : Type} (R : Rs α) : Int := match R with | .ok _ => 0 | .error e => e.1
def cdA {α : Type} (a0 : Int) (R : Rs α) : Int := match R with | .ok _ => a0 | .error e => (e.2 : Int)

/-- Each kid is asked; consistent, or the same. -/
def asksS (sm : Bool) (u : Ty) : List (Nat × Ty) → Rs Unit
  | [] => .ok ()
  | (p, t) :: r => if cn sm t u then asksS sm u r else .error (23, p)
theorem asksS_take {sm : Bool} {u : Ty} : ∀ {ks : List (Nat × Ty)} {j : Nat} {k : Nat × Ty}, ks[j]? = some k →
    asksS sm u (ks.take (j + 1)) = match asksS sm u (ks.take j) with | .error e => .error e | .ok _ => if cn sm k.2 u then .ok () else .error (23, k.1)
  | [], _, _, h => by simp at h
  | (p, t) :: r, 0, k, h => by obtain rfl : (p, t) = k := by simpa using h
                               simp [asksS]
  | (p, t) :: r, j + 1, k, h => by
    have := asksS_take (sm := sm) (u := u) (ks := r) (j := j) (k := k) (by simpa using h)
    rw [List.take_succ_cons, List.take_succ_cons, asksS, asksS]
    cases cn sm t u
    · simp
    · simp only [if_true]; exact this
theorem asksS_code {sm : Bool} {u : Ty} : ∀ {ks : List (Nat × Ty)} {e : Int × Nat}, asksS sm u ks = .error e → e.1 = 23
  | [], e, h => by simp [asksS] at h
  | (p, t) :: r, e, h => by
    rw [asksS] at h
    split at h
    · exact asksS_code h
    · obtain rfl := Except.error.inj h; rfl
theorem KC.drew {w : World} {cb tb n : Nat} {nV : Value} {e a : Int} {sm : Bool} (h : KC w cb tb n nV e a sm) : KC w.drew cb tb n nV e a sm := h.same rfl
theorem Two.drewL {a b : Nat} {w w' : World} (h : Two a b w.drew w') : Two a b w w' := ⟨h.os, h.tape, h.output, h.size, h.block⟩

set_option maxHeartbeats 4000000 in
theorem keach_any (w : World) (cb tb n : Nat) {nV : Value} (a0 : Int) (sm : Bool) (v : Value) (ks : List (Nat × Ty)) (u : Ty) (hu : (enc u).length ≤ 64) (hC : KC w cb tb n nV 0 a0 sm) (hD : KD w cb tb n v ks) :
    Calls Tryz.prog 117 #[.pointer (some ⟨cb, 0, none⟩), v, .string (S (enc u))] w fun en w' => en = .returned (.tuple #[]) ∧ KC w' cb tb n nV (cdE (asksS sm u ks)) (cdA a0 (asksS sm u ks)) sm ∧ Two cb cb w w' := by
  obtain ⟨ka, kc, rfl⟩ := hD.len_form
  have hlen := hD.len
  have HD : Aside (∀ w', Two cb cb w w' → KD w' cb tb n (.slice ka ks.length kc) ks) := fun w' h => hD.two h
  clear hD
  go_enter Tryz.func117, Tryz.ntmps117
  go_wp2_with fail
  go_loopg [6] ks.length (fun g t wr => ∃ j : Nat, j + g = ks.length ∧ t = .int .i64 (j : Int) ∧ Two cb cb w wr ∧ Aside (KC wr cb tb n nV (cdE (asksS sm u (ks.take j))) (cdA a0 (asksS sm u (ks.take j))) sm))
  case atStart => exact ⟨0, by omega, rfl, Two.refl _ _ _, hC⟩
  case round =>
    clear hC
    obtain ⟨j, hjg, rfl, hT, HK⟩ := hrel
    by_cases hj : j < ks.length
    · have hj' : (j : Int) < (ks.length : Int) := by omega
      have hj0 : (0 : Int) ≤ (j : Int) := by omega
      obtain ⟨k, hk⟩ : ∃ k, ks[j]? = some k := ⟨_, List.getElem?_eq_getElem hj⟩
      obtain ⟨kb, o, rfl, hlc, hc1, hkn, hc2, h64⟩ := (HD.out wr hT).at hk
      have HS := asksS_take (sm := sm) (u := u) hk
      have hty := HK.out.ty
      unfold HasT at hty
      have hkn' : (k.1 : Int) < (n : Int) := by omega
      have hk0 : (0 : Int) ≤ (k.1 : Int) := by omega
      have hF : ∀ W, W.heap = wr.heap → W.os = wr.os → W.tape = wr.tape → W.output = wr.output → Calls Tryz.prog 114 #[.pointer (some ⟨cb, 0, none⟩), .string (S (enc k.2)), .string (S (enc u)), .int .i64 23, .int .i64 (k.1 : Int)] W fun en w' => en = .returned (.tuple #[]) ∧ Aside (KC w' cb tb n nV (cdE (asksS sm u (ks.take (j + 1)))) (cdA a0 (asksS sm u (ks.take (j + 1)))) sm) ∧ Two cb cb w w' := by
        intro W e1 e2 e3 e4
        have hKW : KC W cb tb n nV (cdE (asksS sm u (ks.take j))) (cdA a0 (asksS sm u (ks.take j))) sm := HK.out.same (by rw [e1])
        have hTW : Two cb cb w W := ⟨e2.trans hT.os, e3.trans hT.tape, e4.trans hT.output, by rw [e1]; exact hT.size, fun q hq ha hb => by rw [e1]; exact hT.block q hq ha hb⟩
        cases hR : asksS sm u (ks.take j) with
        | error e =>
          rw [hR] at HS hKW
          have he : cdE (Except.error e : Rs Unit) ≠ 0 := by show e.1 ≠ 0; rw [asksS_code hR]; decide
          refine (kfits_old W cb tb n _ _ he sm _ _ _ _ hKW).mono ?_
          rintro en w' ⟨rfl, rfl⟩
          rw [HS]
          exact ⟨rfl, hKW, hTW⟩
        | ok x =>
          rw [hR] at HS hKW
          refine (kfits_any W cb tb n a0 sm k.2 u h64 hu 23 k.1 hKW).mono ?_
          rintro en w' ⟨rfl, h1, h2⟩
          rw [HS]
          refine ⟨rfl, ?_, hTW.trans h2⟩
          show KC _ _ _ _ _ _ _ _
          cases hq : cn sm k.2 u
          · rw [hq] at h1; exact h1
          · rw [hq] at h1; exact h1
      have hF1 := hF wr.drew rfl rfl rfl rfl
      clear HS HK HD hF
      generalize S (T3.Tp.enc k.2) = sk at *
      generalize S (T3.Tp.enc u) = su at *
      go_wp2_with fail
      go_region_with (go_at_call 114; refine hF1.mono ?_; rintro e w1 ⟨rfl, HK1, hT1⟩)
      all_goals
        go_wp2_with fail
        go_roundg (gk - 1)
        case measure => omega
        case rel => exact ⟨j + 1, by omega, by go_num, hT1, HK1⟩
    · have hj' : decide ((j : Int) < (ks.length : Int)) = false := by simp; omega
      obtain rfl : j = ks.length := by omega
      have hK := HK.out
      rw [List.take_length] at hK
      have HK' : Aside _ := hK
      clear hK HK
      go_wp2_with fail
      go_end0
      exact ⟨rfl, HK'.out, hT⟩
end Go.Proofs.YthihnkgjkmaplaaGreatDoor
namespace Go.Proofs.YthihnkgjkmaplaaGreatDoor
open Go.RowKit Ck
open T3.Tp (Ty enc cns met)
set_option maxRecDepth 100000
set_option linter.unusedSimpArgs false

def meetKS (sm : Bool) (i : Nat) (all : Ty) (k : Nat × Ty) : Rs Ty := if cn sm all k.2 then (if sz (met all k.2) ≤ 64 then .ok (met all k.2) else .error (21, i)) else .error (25, k.1)
def meetsS (sm : Bool) (i : Nat) : Ty → List (Nat × Ty) → Rs Ty
  | all, [] => .ok all
  | all, k :: r => match meetKS sm i all k with
    | .error e => .error e
    | .ok b => meetsS sm i b r
theorem meetsS_drop {sm : Bool} {i : Nat} {a : Ty} {ks : List (Nat × Ty)} {j : Nat} {k : Nat × Ty} (h : ks[j]? = some k) : meetsS sm i a (ks.drop j) = match meetKS sm i a k with | .error e => .error e | .ok b => meetsS sm i b (ks.drop (j + 1)) := by
  obtain ⟨hj, rfl⟩ := List.getElem?_eq_some_iff.1 h
  rw [List.drop_eq_getElem_cons hj, meetsS]
theorem meetsS_len {sm : Bool} {i : Nat} : ∀ {ks : List (Nat × Ty)} {a b : Ty}, (enc a).length ≤ 64 → meetsS sm i a ks = .ok b → (enc b).length ≤ 64
  | [], a, b, h, e => by obtain rfl := Except.ok.inj e; exact h
  | k :: r, a, b, h, e => by
    rw [meetsS] at e
    unfold meetKS at e
    split at e
    · simp at e
    · rename_i c hc
      refine meetsS_len (ks := r) (a := c) ?_ e
      split at hc
      · split at hc
        · obtain rfl := Except.ok.inj hc; assumption
        · simp at hc
      · simp at hc
/-- What is handed back: of a refusal ?. -/
def okT (R : Rs Ty) : Ty := match R with | .ok t => t | .error _ => .tq
theorem cn_cns {sm : Bool} {a b : Ty} (h : cn sm a b = true) : cns a b = true := by unfold cn at h; simp at h; exact h.2

set_option maxHeartbeats 4000000 in
theorem kmeets_any (w : World) (cb tb n : Nat) {nV : Value} (a0 : Int) (sm : Bool) (v : Value) (k0 : Nat × Ty) (kr : List (Nat × Ty)) (i : Nat) (hC : KC w cb tb n nV 0 a0 sm) (hD : KD w cb tb n v (k0 :: kr)) :
    Calls Tryz.prog 116 #[.pointer (some ⟨cb, 0, none⟩), v, .int .i64 (i : Int)] w fun en w' => en = .returned (.string (S (enc (okT (meetsS sm i k0.2 kr))))) ∧ KC w' cb tb n nV (cdE (meetsS sm i k0.2 kr)) (cdA a0 (meetsS sm i k0.2 kr)) sm ∧ Two cb cb w w' := by
  obtain ⟨ks, hks⟩ : ∃ ks, ks = k0 :: kr := ⟨_, rfl⟩
  have HX : Aside (kr = ks.drop 1) := by show _ = _; rw [hks]; rfl
  have hk0 : ks[0]? = some k0 := by rw [hks]; rfl
  have hl1 : 1 ≤ ks.length := by rw [hks]; simp
  rw [← hks] at hD
  clear hks
  obtain ⟨ka, kc, rfl⟩ := hD.len_form
  have hlen := hD.len
  have HD : Aside (∀ w', Two cb cb w w' → KD w' cb tb n (.slice ka ks.length kc) ks) := fun w' h => hD.two h
  obtain ⟨kb, o, rfl, hlc, hc1, hkn, hc2, h64⟩ := hD.at hk0
  have hty := hC.ty
  unfold HasT at hty
  have hl0 : (0 : Int) < (ks.length : Int) := by omega
  have hkn' : (k0.1 : Int) < (n : Int) := by omega
  have hk00 : (0 : Int) ≤ (k0.1 : Int) := by omega
  obtain ⟨R, hR⟩ : ∃ R, R = meetsS sm i k0.2 kr := ⟨_, rfl⟩
  rw [← hR]
  have HR : Aside (R = meetsS sm i k0.2 (ks.drop 1)) := by show _ = _; rw [hR, HX.out]
  have HC : Aside (KC w cb tb n nV 0 a0 sm) := hC
  rw [Nat.add_zero] at hc1
  clear hD hR HX hC hk0
  obtain ⟨s0, hs0⟩ : ∃ s, s = S (enc k0.2) := ⟨_, rfl⟩
  rw [← hs0] at hc2
  go_enter Tryz.func116, Tryz.ntmps116
  go_wp2_with fail
  go_quiet (fail)
  go_wp2_with fail
  go_loopg [7, 8] (ks.length - 1) (fun g s t wr => ∃ (j : Nat) (a : Ty), j + g = ks.length ∧ 1 ≤ j ∧ s = .string (S (enc a)) ∧ t = .int .i64 (j : Int) ∧ (enc a).length ≤ 64 ∧ Two cb cb w wr ∧ Aside (KC wr cb tb n nV 0 a0 sm) ∧ Aside (R = meetsS sm i a (ks.drop j)))
  case atStart => exact ⟨1, k0.2, by omega, by omega, rfl, rfl, h64, ⟨rfl, rfl, rfl, Nat.le_refl _, fun _ _ _ _ => rfl⟩, HC.out.same rfl, HR.out⟩
  case round =>
    obtain ⟨j, a, hjg, hj1, rfl, rfl, ha, hT, HK, HM⟩ := hrel
    clear HC HR hc1 hc2 hty
    by_cases hj : j < ks.length
    · have hj' : (j : Int) < (ks.length : Int) := by omega
      have hj0 : (0 : Int) ≤ (j : Int) := by omega
      obtain ⟨k, hk⟩ : ∃ k, ks[j]? = some k := ⟨_, List.getElem?_eq_getElem hj⟩
      obtain ⟨kb', o', he, -, hc1, hkn1, hc2, hq64⟩ := (HD.out wr hT).at hk
      obtain ⟨rfl, rfl⟩ : kb = kb' ∧ o = o' := by simpa using he
      have HS : Aside (R = match meetKS sm i a k with | .error e => .error e | .ok b => meetsS sm i b (ks.drop (j + 1))) := by show _ = _; rw [HM.out, meetsS_drop hk]
      have hty := HK.out.ty
      unfold HasT at hty
      have hkn1' : (k.1 : Int) < (n : Int) := by omega
      have hk10 : (0 : Int) ≤ (k.1 : Int) := by omega
      have hF : Calls Tryz.prog 114 #[.pointer (some ⟨cb, 0, none⟩), .string (S (enc a)), .string (S (enc k.2)), .int .i64 25, .int .i64 (k.1 : Int)] wr.drew fun en w' => en = .returned (.tuple #[]) ∧ Aside (KC w' cb tb n nV (if cn sm a k.2 then 0 else 25) (if cn sm a k.2 then a0 else k.1) sm) ∧ Two cb cb w w' := by
        refine (kfits_any wr.drew cb tb n a0 sm a k.2 ha hq64 25 k.1 (HK.out.same rfl)).mono ?_
        rintro en w' ⟨rfl, h1, h2⟩
        exact ⟨rfl, h1, hT.trans h2.drewL⟩
      clear HK HM he
      go_upto_region 5 with fail
      go_cut [] from 24 to 40 (fun wc => Aside (KC wc cb tb n nV (if cn sm a k.2 then 0 else 25) (if cn sm a k.2 then a0 else k.1) sm) ∧ Two cb cb w wc)
      case first =>
        clear HD HS
        generalize S (T3.Tp.enc k.2) = sk at *
        generalize S (T3.Tp.enc a) = su at *
        go_region_with (go_at_call 114; refine hF.mono ?_; rintro e w1 ⟨rfl, HK1, hT1⟩)
        all_goals
          go_wp2_with fail
          go_meet
          case rel => exact ⟨HK1, hT1⟩
      case rest =>
        obtain ⟨HK1, hT1⟩ := hcut
        clear hF hc1 hc2 hty hT
        cases hq : cn sm a k.2 with
        | false =>
          rw [hq] at HK1
          have hE : wc.cell? ⟨cb, 2, none⟩ = some (.int .i64 25) := HK1.out.er
          have HR2 : Aside (R = .error (25, k.1)) := by show _ = _; rw [HS.out]; unfold meetKS; rw [hq]; rfl
          clear HD HS
          go_wp2_with fail
          go_ret
          rw [HR2.out]
          exact ⟨rfl, HK1.out, hT1⟩
        | true =>
          rw [hq] at HK1
          have HK2 : Aside (KC wc cb tb n nV 0 a0 sm) := HK1.out
          clear HK1
          have hE : wc.cell? ⟨cb, 2, none⟩ = some (.int .i64 0) := HK2.out.er
          obtain ⟨kb', o', he, -, hc1, -, hc2, -⟩ := (HD.out wc hT1).at hk
          obtain ⟨rfl, rfl⟩ : kb = kb' ∧ o = o' := by simpa using he
          have hty := HK2.out.ty
          unfold HasT at hty
          have hN : ∀ W, Calls Tryz.prog 136 #[.string (S (enc a)), .string (S (enc k.2))] W fun e w' => e = .returned (.string (S (enc (met a k.2)))) ∧ Below W.heap.size W w' := fun W => T3.kmeet_yes 64 a k.2 W (cn_cns hq) ha ha hq64
          clear he
          go_upto_region 8 with fail
          go_cut [7] from 46 to 57 (fun s7 wx => s7 = .string (S (enc (met a k.2))) ∧ Below wc.heap.size wc wx)
          case first =>
            clear HD HS HK2
            generalize S (T3.Tp.enc k.2) = sk at *
            generalize S (T3.Tp.enc a) = su at *
            generalize S (T3.Tp.enc (T3.Tp.met a k.2)) = sm2 at *
            go_region_with (go_at_call 136; refine (hN _).mono ?_; rintro e w1 ⟨rfl, hB1⟩)
            all_goals
              go_wp2_with fail
              go_meet
              case rel => exact ⟨rfl, ⟨hB1.os, hB1.tape, hB1.output, hB1.size, hB1.block⟩⟩
          case rest =>
            obtain ⟨rfl, hBx⟩ := hcut
            have HK3 : Aside (KC wc cb tb n nV 0 a0 sm) := HK2.out.below hBx
            have hT3 : Two cb cb w wc := hT1.trans (below_two hBx cb cb)
            have hsz : (S (enc (met a k.2))).size = (enc (met a k.2)).length := T3.S_size _
            by_cases h65 : (enc (met a k.2)).length ≤ 64
            · have HR2 : Aside (R = meetsS sm i (met a k.2) (ks.drop (j + 1))) := by show _ = _; rw [HS.out]; unfold meetKS; rw [hq]; simp only [if_true, h65]
              have hl : decide ((64 : Int) < ((S (enc (met a k.2))).size : Int)) = false := by rw [hsz]; simp; omega
              clear HD HS HK2 hN hc1 hc2 hty hE hsz hT1
              go_wp2_with fail
              go_roundg (gk - 1)
              case measure => omega
              case rel => exact ⟨j + 1, met a k.2, by omega, by omega, rfl, by go_num, h65, hT3, HK3, HR2⟩
            · have HR2 : Aside (R = .error (21, i)) := by show _ = _; rw [HS.out]; unfold meetKS; rw [hq]; simp only [if_true, h65, if_false]
              have hl : (64 : Int) < ((S (enc (met a k.2))).size : Int) := by rw [hsz]; omega
              have hno := kno_set wc cb tb n a0 sm 21 i HK3.out
              clear HD HS HK2 HK3 hN hc1 hc2 hty hE hsz hT1
              go_wp2_with (go_at_call 90; refine hno.mono ?_; rintro e w2 ⟨rfl, hK4, hT4⟩)
              go_ret
              rw [HR2.out]
              exact ⟨rfl, hK4, hT3.trans hT4⟩
    · have hj' : decide ((j : Int) < (ks.length : Int)) = false := by simp; omega
      obtain rfl : j = ks.length := by omega
      have HR2 : Aside (R = .ok a) := by show _ = _; rw [HM.out, List.drop_length]; rfl
      clear HD HM
      go_wp2_with fail
      go_ret
      rw [HR2.out]
      exact ⟨rfl, HK.out, hT⟩
end Go.Proofs.YthihnkgjkmaplaaGreatDoor
