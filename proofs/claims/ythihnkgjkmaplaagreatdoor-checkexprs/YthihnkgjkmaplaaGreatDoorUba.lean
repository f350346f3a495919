/- The document's rules: Var. The document's rule, of any node that may be. The document's reckoning: no refusal has the code 0. The document's inner: Fn. -/
import Derived.Test.YthihnkgjkmaplaaGreatDoorUav
import Derived.Test.YthihnkgjkmaplaaGreatDoorUaz
import Derived.Test.YthihnkgjkmaplaaGreatDoorUaw
import Derived.Test.YthihnkgjkmaplaaGreatDoorUax
import Derived.Test.YthihnkgjkmaplaaGreatDoorUay
import Derived.Test.YthihnkgjkmaplaaGreatDoorUar
import Derived.Deep.AppendLies
import Derived.Deep.RegionLaw
import Derived.BigRegion
import Derived.Deep.RegionHeld3
namespace Go.Proofs.YthihnkgjkmaplaaGreatDoor
open Go.RowKit Ck
open T3.Tp (Ty enc cns met)
open Tr (T Nd nm)
set_option maxRecDepth 100000
set_option linter.unusedSimpArgs false
set_option linter.unusedVariables false

theorem flat2_at {α : Type} (f : α → Value) (g : α → Value) : ∀ {L : List α} {q : Nat} {p : α}, L[q]? = some p → (L.flatMap fun p => [f p, g p])[q * 2]? = some (f p) ∧ (L.flatMap fun p => [f p, g p])[q * 2 + 1]? = some (g p)
  | [], q, p, h => by simp at h
  | y :: L, 0, p, h => by
    simp only [List.getElem?_cons_zero, Option.some.injEq] at h
    subst h
    simp
  | y :: L, q + 1, p, h => by
    rw [List.getElem?_cons_succ] at h
    have := flat2_at f g h
    have e : ((y :: L).flatMap fun p => [f p, g p]) = [f y, g y] ++ L.flatMap fun p => [f p, g p] := by simp
    rw [e, show (q + 1) * 2 = 2 + q * 2 by omega]
    refine ⟨?_, ?_⟩
    · rw [List.getElem?_append_right (by simp)]; simpa using this.1
    · rw [List.getElem?_append_right (by simp; omega)]; simpa [Nat.add_assoc] using this.2
theorem ecells_at {env : Env} {k q : Nat} {p : List UInt8 × Ty} (h : env[k]? = some p) (hq : q + 1 + k = env.length) : (ecells env)[q * 2]? = some (.string (S p.1)) ∧ (ecells env)[q * 2 + 1]? = some (.string (S (enc p.2))) := by
  unfold ecells
  refine flat2_at (fun p : List UInt8 × Ty => Value.string (S p.1)) (fun p => Value.string (S (enc p.2))) ?_
  rw [List.getElem?_reverse (by omega), ← h]
  congr 1
  omega
structure Sm8 (w w' : World) : Prop where
  os : w'.os = w.os
  tape : w'.tape = w.tape
  output : w'.output = w.output
  heap : w'.heap = w.heap
theorem Sm8.refl (w : World) : Sm8 w w := ⟨rfl, rfl, rfl, rfl⟩
theorem Sm8.drewN {w w' : World} (h : Sm8 w w') (n : Nat) : Sm8 w (w'.drewN n) := ⟨h.os, h.tape, h.output, h.heap⟩
theorem Sm8.drew {w w' : World} (h : Sm8 w w') : Sm8 w w'.drew := ⟨h.os, h.tape, h.output, h.heap⟩
theorem Sm8.two {w w' : World} (h : Sm8 w w') (a b : Nat) : Two a b w w' := ⟨h.os, h.tape, h.output, by rw [h.heap]; exact Nat.le_refl _, fun k _ _ _ => by rw [h.heap]⟩
theorem Sm8.cell {w w' : World} (h : Sm8 w w') (p : Addr) : w'.cell? p = w.cell? p := by unfold World.cell?; rw [h.heap]
theorem Sm8.kc {w w' : World} (h : Sm8 w w') {cb tb n : Nat} {nV : Value} {e a : Int} {sm : Bool} (k : KC w cb tb n nV e a sm) : KC w' cb tb n nV e a sm := k.same (by rw [h.heap])
theorem look_at {env : Env} {k : Nat} {p : List UInt8 × Ty} {a : List UInt8} (h : env[k]? = some p) : Ck.look (env.drop k) a = if a = p.1 then some p.2 else Ck.look (env.drop (k + 1)) a := by
  obtain ⟨hk, rfl⟩ := List.getElem?_eq_some_iff.1 h
  rw [List.drop_eq_getElem_cons hk]
  rfl

set_option maxHeartbeats 4000000 in
theorem kda4 {w : World} {cb tb n : Nat} {nV : Value} {a0 : Int} {sm : Bool} {v ev : Value} (x : Tr.Nd) (i : Nat) (env : Env) (hC : KC w cb tb n nV 0 a0 sm) (hev : IsEnv w ev env) (hcp0 : ∀ a m c, ev = .slice a m c → m ≤ c) (hl : env.length ≤ 5000) (hκ : x.kind = 4) :
    Calls Tryz.prog 93 #[.pointer (some ⟨cb, 0, none⟩), .int .i64 (i : Int), .agg (ndA8 x), v, ev] w (KrEnd w cb tb n nV a0 sm (ruleD sm env x i [])) := by
  obtain ⟨ea, ec, rfl, hcell⟩ := hev
  obtain ⟨W1, hW1⟩ : ∃ W1, W1 = w.alloc (.cells (ndA8 x) 64) := ⟨_, rfl⟩
  have hB1 : Below w.heap.size w W1 := by rw [hW1]; exact (Below.refl _ _).alloc (Nat.le_refl _) _
  have hT1 : Two cb cb w W1 := below_two hB1 cb cb
  have hC1 := hC.below hB1
  have hx1 : W1.heap[w.heap.size]? = some (.cells (ndA8 x) 64) := by rw [hW1]; exact heap_alloc_new _ _
  have q0 : W1.cell? ⟨w.heap.size, 0, none⟩ = some (.int .i8 x.kind) := (block_cells hx1).1 0
  have q3 : W1.cell? ⟨w.heap.size, 3, none⟩ = some (.string x.s) := (block_cells hx1).1 3
  rw [hκ] at q0
  have hr : ruleD sm env x i [] = match Ck.look env (nm x) with | none => .error (22, i) | some t => .ok t := by
    unfold ruleD
    simp [hκ]
    cases Ck.look env (nm x) <;> rfl
  have HR : Aside _ := hr
  have HC1 : Aside (KC W1 cb tb n nV 0 a0 sm ∧ Two cb cb w W1) := ⟨hC1, hT1⟩
  have HEL : Aside (∀ k q p, env[k]? = some p → q + 1 + k = env.length → ∃ b o, ea = some ⟨b, o, none⟩ ∧ W1.cell? ⟨b, o + q * 2, none⟩ = some (.string (S p.1)) ∧ W1.cell? ⟨b, o + q * 2 + 1, none⟩ = some (.string (S (enc p.2)))) := fun k q p hp hq => by
    obtain ⟨b, o, rfl, hb, hc⟩ := hcell (fun e => by rw [e] at hp; simp at hp)
    obtain ⟨e1, e2⟩ := ecells_at hp hq
    refine ⟨b, o, rfl, (hB1.cell (p := ⟨b, o + q * 2, none⟩) hb).trans (hc _ _ e1), ?_⟩
    have := (hB1.cell (p := ⟨b, o + (q * 2 + 1), none⟩) hb).trans (hc _ _ e2)
    rwa [← Nat.add_assoc] at this
  have HQ3 : Aside (W1.cell? ⟨w.heap.size, 3, none⟩ = some (.string x.s)) := q3
  have HCap : Aside (env.length ≤ ec ∨ env = []) := by
    by_cases h : env = []
    · exact .inr h
    · exact .inl (hcp0 _ _ _ rfl)
  have hwr : IntKind.i64.wrap ((env.length : Int) - 1) = (env.length : Int) - 1 := IntWalk.i64_in _ (by omega)
  clear hr hC hC1 hT1 hB1 hx1 hκ hcell
  go_enter Tryz.func93, Tryz.ntmps93
  go_upto_region 1 with fail
  try rw [← hW1]
  clear hW1
  go_wp2_with fail
  clear hwr q0 q3
  go_loopg [11] env.length (fun g t wr => ∃ k : Nat, k + g = env.length ∧ t = .int .i64 ((env.length : Int) - 1 - (k : Int)) ∧ Sm8 W1 wr ∧ Aside (Ck.look env (nm x) = Ck.look (env.drop k) (nm x)))
  case atStart => exact ⟨0, by omega, by simp, Sm8.refl _, rfl⟩
  case round =>
    obtain ⟨k, hkg, rfl, hSm, HL⟩ := hrel
    by_cases hk : k < env.length
    · obtain ⟨p, hp⟩ : ∃ p, env[k]? = some p := ⟨_, List.getElem?_eq_getElem hk⟩
      obtain ⟨q, hq⟩ : ∃ q, q + 1 + k = env.length := ⟨env.length - 1 - k, by omega⟩
      have hqi : (env.length : Int) - 1 - (k : Int) = (q : Int) := by omega
      obtain ⟨b, o, rfl, e1, e2⟩ := HEL.out k q p hp hq
      rw [← hSm.cell] at e1 e2
      have q3 := HQ3.out
      rw [← hSm.cell] at q3
      have hq0 : (0 : Int) ≤ (q : Int) := by omega
      have hq1 : (q : Int) < (env.length : Int) := by omega
      have hcp : env.length ≤ ec := by
        rcases HCap.out with h | h
        · exact h
        · rw [h] at hk; simp at hk
      have hw2 : IntKind.i64.wrap ((q : Int) - 1) = (q : Int) - 1 := IntWalk.i64_in _ (by omega)
      have hla := look_at (a := nm x) hp
      have hcmp : ((S p.1).toList == x.s.toList) = decide (nm x = p.1) := by
        rw [show (S p.1).toList = p.1 from T3.toList_S _, show x.s.toList = nm x from ByteArray.toList_eq _]
        rw [Bool.eq_iff_iff]
        simp only [beq_iff_eq, decide_eq_true_eq]
        exact eq_comm
      rw [hqi]
      by_cases he : nm x = p.1
      · rw [show decide (nm x = p.1) = true by simpa using he] at hcmp
        rw [if_pos he] at hla
        have HE : Aside (∀ m, KrEnd w cb tb n nV a0 sm (ruleD sm env x i []) (.returned (.string (S (enc p.2)))) (wr.drewN m)) := fun m => by
          rw [HR.out, HL.out, hla]
          exact KrEnd.ok (HC1.out.2.trans ((hSm.two cb cb).drewN8 m)) ((hSm.kc HC1.out.1).drewN8 m) rfl rfl
        clear HL hla hp he HR HC1 HEL HQ3 HCap hqi hSm
        generalize S p.1 = s1 at *
        generalize S (enc p.2) = s2 at *
        go_wp2_with fail
        go_quiet (fail)
        go_wp2_with fail
        go_ret
        exact HE.out _
      · rw [show decide (nm x = p.1) = false by simpa using he] at hcmp
        rw [if_neg he] at hla
        have HL2 : Aside (Ck.look env (nm x) = Ck.look (env.drop (k + 1)) (nm x)) := HL.out.trans hla
        clear HL hla hp he HR HC1 HEL HQ3 HCap
        generalize S p.1 = s1 at *
        generalize S (enc p.2) = s2 at *
        go_wp2_with fail
        go_quiet (fail)
        go_wp2_with fail
        go_roundg (gk - 1)
        case measure => omega
        case rel => exact ⟨k + 1, by omega, by rw [show (env.length : Int) - 1 - ((k + 1 : Nat) : Int) = (q : Int) - 1 by omega], hSm.drewN _, HL2⟩
    · obtain rfl : k = env.length := by omega
      rw [show (env.length : Int) - 1 - (env.length : Int) = -1 by omega]
      have hlk : Ck.look env (nm x) = none := by rw [HL.out, List.drop_length]; rfl
      have hno := kno_set wr cb tb n a0 sm 22 (i : Int) (hSm.kc HC1.out.1)
      have HE : Aside (∀ w2, KC w2 cb tb n nV 22 (i : Int) sm → Two cb cb wr w2 → ∀ s, KrEnd w cb tb n nV a0 sm (ruleD sm env x i []) (.returned (.string s)) w2) := fun w2 h1 h2 s => KrEnd.bad (q := (22, i)) (HC1.out.2.trans ((hSm.two cb cb).trans h2)) h1 (by rw [HR.out, hlk]) s
      clear HL hlk HR HC1 HEL HQ3 HCap hSm
      go_wp2_with fail
      refine hno.mono ?_
      rintro e w2 ⟨rfl, h1, h2⟩
      have hE := HE.out w2 h1 h2
      clear hno h1 h2 HE
      go_wp2_with fail
      go_ret
      exact hE _
end Go.Proofs.YthihnkgjkmaplaaGreatDoor
namespace Go.Proofs.YthihnkgjkmaplaaGreatDoor
open Go.RowKit Ck
open T3.Tp (Ty enc cns met)
open Tr (T Nd nm)
set_option maxRecDepth 100000
set_option linter.unusedSimpArgs false
set_option linter.unusedVariables false

theorem note8 {s : ByteArray} (h : noteB s.data.toList = true) : (s = ⟨#[]⟩ ∨ s = S (enc (wr s))) ∧ (enc (wr s)).length ≤ 64 := by
  obtain ⟨h1, h2⟩ := wr_note h
  refine ⟨?_, h2⟩
  by_cases hz : s.size = 0
  · left
    obtain ⟨⟨l⟩⟩ := s
    simp [ByteArray.size] at hz
    simp [hz]
  · right
    rw [if_neg hz] at h1
    exact h1
theorem len8_0 {ks : List (Nat × Ty)} (h : ((ks.length : Nat) : Int) = 0) : ks = [] := List.length_eq_zero_iff.1 (by omega)
theorem len8_1 {ks : List (Nat × Ty)} (h : ((ks.length : Nat) : Int) = 1) : ∃ a, ks = [a] := by
  match ks, (show ks.length = 1 by omega) with
  | [a], _ => exact ⟨a, rfl⟩
theorem len8_2 {ks : List (Nat × Ty)} (h : ((ks.length : Nat) : Int) = 2) : ∃ a b, ks = [a, b] := by
  match ks, (show ks.length = 2 by omega) with
  | [a, b], _ => exact ⟨a, b, rfl⟩
theorem len8_3 {ks : List (Nat × Ty)} (h : ((ks.length : Nat) : Int) = 3) : ∃ a b c, ks = [a, b, c] := by
  match ks, (show ks.length = 3 by omega) with
  | [a, b, c], _ => exact ⟨a, b, c, rfl⟩
set_option maxHeartbeats 4000000 in
theorem krule_any {w : World} {cb tb n : Nat} {nV : Value} {a0 : Int} {sm : Bool} {v ev : Value} (x : Tr.Nd) (κ i : Nat) (env : Env) (ks : List (Nat × Ty)) (hN : Nod x κ) (hlen : x.kids = (ks.length : Int)) (hC : KC w cb tb n nV 0 a0 sm) (hD : KD w cb tb n v ks) (hev : IsEnv w ev env) (hcp : ∀ a m c, ev = .slice a m c → m ≤ c) (hl : env.length ≤ 5000) :
    Calls Tryz.prog 93 #[.pointer (some ⟨cb, 0, none⟩), .int .i64 (i : Int), .agg (ndA8 x), v, ev] w (KrEnd w cb tb n nV a0 sm (ruleD sm env x i ks)) := by
  have hd : κ = 1 ∨ κ = 2 ∨ κ = 3 ∨ κ = 4 ∨ κ = 5 ∨ κ = 6 ∨ κ = 7 ∨ κ = 8 ∨ κ = 9 ∨ κ = 10 ∨ κ = 11 ∨ κ = 12 ∨ κ = 13 ∨ κ = 14 ∨ κ = 15 ∨ κ = 16 ∨ κ = 17 ∨ κ = 18 ∨ κ = 19 ∨ κ = 20 ∨ κ = 21 ∨ κ = 22 ∨ κ = 23 ∨ κ = 24 ∨ κ = 25 ∨ κ = 26 ∨ κ = 27 ∨ κ = 28 ∨ κ = 29 := by have := hN.lo; have := hN.hi; omega
  have hDb : ∀ W, Below w.heap.size w W → KC W cb tb n nV 0 a0 sm ∧ KD W cb tb n v ks := fun W hB => ⟨hC.below hB, hD.two (below_two hB cb cb)⟩
  rcases hd with rfl | rfl | rfl | rfl | rfl | rfl | rfl | rfl | rfl | rfl | rfl | rfl | rfl | rfl | rfl | rfl | rfl | rfl | rfl | rfl | rfl | rfl | rfl | rfl | rfl | rfl | rfl | rfl | rfl
  · have hκ : x.kind = 1 := hN.kind
    have hk := hN.kids (by decide)
    rw [hlen, show Tr.arK ((1 : Nat) : Int) = 0 by decide] at hk
    obtain rfl := len8_0 hk
    exact kda1 x i env  hC hD hκ
  · have hκ : x.kind = 2 := hN.kind
    have hk := hN.kids (by decide)
    rw [hlen, show Tr.arK ((2 : Nat) : Int) = 0 by decide] at hk
    obtain rfl := len8_0 hk
    exact kda2 x i env  hC hD hκ
  · have hκ : x.kind = 3 := hN.kind
    have hk := hN.kids (by decide)
    rw [hlen, show Tr.arK ((3 : Nat) : Int) = 0 by decide] at hk
    obtain rfl := len8_0 hk
    exact kda3 x i env  hC hD hκ
  · have hκ : x.kind = 4 := hN.kind
    have hk := hN.kids (by decide)
    rw [hlen, show Tr.arK ((4 : Nat) : Int) = 0 by decide] at hk
    obtain rfl := len8_0 hk
    exact kda4 x i env hC hev hcp hl hκ
  · have hκ : x.kind = 5 := hN.kind
    have hk := hN.kids (by decide)
    rw [hlen, show Tr.arK ((5 : Nat) : Int) = 1 by decide] at hk
    obtain ⟨k0, rfl⟩ := len8_1 hk
    obtain ⟨t1, t2⟩ := note8 (hN.t (by simp))
    obtain ⟨u1, u2⟩ := note8 (hN.u (by simp))
    exact kda5 x i env k0 hC hD hκ t1 t2 u1 u2
  · have hκ : x.kind = 6 := hN.kind
    have hk := hN.kids (by decide)
    rw [hlen, show Tr.arK ((6 : Nat) : Int) = 1 by decide] at hk
    obtain ⟨k0, rfl⟩ := len8_1 hk
    obtain ⟨t1, t2⟩ := note8 (hN.t (by simp))
    obtain ⟨u1, u2⟩ := note8 (hN.u (by simp))
    exact kda6 x i env k0 hC hD hκ t1 t2 u1 u2
  · have hκ : x.kind = 7 := hN.kind
    have hk := hN.kids (by decide)
    rw [hlen, show Tr.arK ((7 : Nat) : Int) = 2 by decide] at hk
    obtain ⟨k0, k1, rfl⟩ := len8_2 hk
    exact kda7 x i env k0 k1 hC hD hκ
  · have hκ : x.kind = 8 := hN.kind
    have hk := hN.kids (by decide)
    rw [hlen, show Tr.arK ((8 : Nat) : Int) = 2 by decide] at hk
    obtain ⟨k0, k1, rfl⟩ := len8_2 hk
    obtain ⟨t1, t2⟩ := note8 (hN.t (by simp))
    exact kda8 x i env k0 k1 hC hD hκ t1 t2
  · have hκ : x.kind = 9 := hN.kind
    have hk := hN.kids (by decide)
    rw [hlen, show Tr.arK ((9 : Nat) : Int) = 3 by decide] at hk
    obtain ⟨k0, k1, k2, rfl⟩ := len8_3 hk
    exact kda9 x i env k0 k1 k2 hC hD hκ
  · have hκ : x.kind = 10 := hN.kind
    have hk := hN.kids (by decide)
    rw [hlen, show Tr.arK ((10 : Nat) : Int) = 2 by decide] at hk
    obtain ⟨k0, k1, rfl⟩ := len8_2 hk
    exact kda10 x i env k0 k1 hC hD hκ
  · have hκ : x.kind = 11 := hN.kind
    have hk := hN.kids (by decide)
    rw [hlen, show Tr.arK ((11 : Nat) : Int) = 2 by decide] at hk
    obtain ⟨k0, k1, rfl⟩ := len8_2 hk
    exact kda11 x i env k0 k1 hC hD hκ
  · have hκ : x.kind = 12 := hN.kind
    have hk := hN.kids (by decide)
    rw [hlen, show Tr.arK ((12 : Nat) : Int) = 2 by decide] at hk
    obtain ⟨k0, k1, rfl⟩ := len8_2 hk
    exact kda12 x i env k0 k1 hC hD hκ
  · have hκ : x.kind = 13 := hN.kind
    have hk := hN.kids (by decide)
    rw [hlen, show Tr.arK ((13 : Nat) : Int) = 2 by decide] at hk
    obtain ⟨k0, k1, rfl⟩ := len8_2 hk
    exact kda13 x i env k0 k1 hC hD hκ
  · have hκ : x.kind = 14 := hN.kind
    have hk := hN.kids (by decide)
    rw [hlen, show Tr.arK ((14 : Nat) : Int) = 2 by decide] at hk
    obtain ⟨k0, k1, rfl⟩ := len8_2 hk
    exact kda14 x i env k0 k1 hC hD hκ
  · have hκ : x.kind = 15 := hN.kind
    have hk := hN.kids (by decide)
    rw [hlen, show Tr.arK ((15 : Nat) : Int) = 2 by decide] at hk
    obtain ⟨k0, k1, rfl⟩ := len8_2 hk
    exact kda15 x i env k0 k1 hC hD hκ
  · have hκ : x.kind = 16 := hN.kind
    have hk := hN.kids (by decide)
    rw [hlen, show Tr.arK ((16 : Nat) : Int) = 1 by decide] at hk
    obtain ⟨k0, rfl⟩ := len8_1 hk
    exact kda16 x i env k0 hC hD hκ
  · have hκ : x.kind = 17 := hN.kind
    have hk := hN.kids (by decide)
    rw [hlen, show Tr.arK ((17 : Nat) : Int) = 1 by decide] at hk
    obtain ⟨k0, rfl⟩ := len8_1 hk
    exact kda17 x i env k0 hC hD hκ
  · have hκ : x.kind = 18 := hN.kind
    have hk := hN.kids (by decide)
    rw [hlen, show Tr.arK ((18 : Nat) : Int) = 2 by decide] at hk
    obtain ⟨k0, k1, rfl⟩ := len8_2 hk
    exact kru_data x i env _ hC (by omega) fun W hB => kda18 x i env k0 k1 (hDb W hB).1 (hDb W hB).2 hκ
  · have hκ : x.kind = 19 := hN.kind
    have hk := hN.kids (by decide)
    rw [hlen, show Tr.arK ((19 : Nat) : Int) = 1 by decide] at hk
    obtain ⟨k0, rfl⟩ := len8_1 hk
    exact kru_data x i env _ hC (by omega) fun W hB => kda19 x i env k0 (hDb W hB).1 (hDb W hB).2 hκ
  · have hκ : x.kind = 20 := hN.kind
    have hk := hN.kids (by decide)
    rw [hlen, show Tr.arK ((20 : Nat) : Int) = 1 by decide] at hk
    obtain ⟨k0, rfl⟩ := len8_1 hk
    exact kru_data x i env _ hC (by omega) fun W hB => kda20 x i env k0 (hDb W hB).1 (hDb W hB).2 hκ
  · have hκ : x.kind = 21 := hN.kind
    exact kru_data x i env ks hC (by omega) fun W hB => kda21 x i env ks (hDb W hB).1 (hDb W hB).2 hκ
  · have hκ : x.kind = 22 := hN.kind
    have hk := hN.kids (by decide)
    rw [hlen, show Tr.arK ((22 : Nat) : Int) = 1 by decide] at hk
    obtain ⟨k0, rfl⟩ := len8_1 hk
    exact kru_data x i env _ hC (by omega) fun W hB => kda22 x i env k0 (hDb W hB).1 (hDb W hB).2 hκ
  · have hκ : x.kind = 23 := hN.kind
    have hk := hN.kids (by decide)
    rw [hlen, show Tr.arK ((23 : Nat) : Int) = 1 by decide] at hk
    obtain ⟨k0, rfl⟩ := len8_1 hk
    exact kru_data x i env _ hC (by omega) fun W hB => kda23 x i env k0 (hDb W hB).1 (hDb W hB).2 hκ
  · have hκ : x.kind = 24 := hN.kind
    have hk := hN.kids (by decide)
    rw [hlen, show Tr.arK ((24 : Nat) : Int) = 1 by decide] at hk
    obtain ⟨k0, rfl⟩ := len8_1 hk
    exact kru_data x i env _ hC (by omega) fun W hB => kda24 x i env k0 (hDb W hB).1 (hDb W hB).2 hκ
  · have hκ : x.kind = 25 := hN.kind
    have hk := hN.kids (by decide)
    rw [hlen, show Tr.arK ((25 : Nat) : Int) = 2 by decide] at hk
    obtain ⟨k0, k1, rfl⟩ := len8_2 hk
    exact kru_data x i env _ hC (by omega) fun W hB => kda25 x i env k0 k1 (hDb W hB).1 (hDb W hB).2 hκ
  · have hκ : x.kind = 26 := hN.kind
    have hk := hN.kids (by decide)
    rw [hlen, show Tr.arK ((26 : Nat) : Int) = 1 by decide] at hk
    obtain ⟨k0, rfl⟩ := len8_1 hk
    exact kru_data x i env _ hC (by omega) fun W hB => kda26 x i env k0 (hDb W hB).1 (hDb W hB).2 hκ
  · have hκ : x.kind = 27 := hN.kind
    have hk := hN.kids (by decide)
    rw [hlen, show Tr.arK ((27 : Nat) : Int) = 1 by decide] at hk
    obtain ⟨k0, rfl⟩ := len8_1 hk
    exact kru_data x i env _ hC (by omega) fun W hB => kda27 x i env k0 (hDb W hB).1 (hDb W hB).2 hκ
  · have hκ : x.kind = 28 := hN.kind
    have hk := hN.kids (by decide)
    rw [hlen, show Tr.arK ((28 : Nat) : Int) = 2 by decide] at hk
    obtain ⟨k0, k1, rfl⟩ := len8_2 hk
    exact kru_data x i env _ hC (by omega) fun W hB => kda28 x i env k0 k1 (hDb W hB).1 (hDb W hB).2 hκ
  · have hκ : x.kind = 29 := hN.kind
    have hk := hN.kids (by decide)
    rw [hlen, show Tr.arK ((29 : Nat) : Int) = 1 by decide] at hk
    obtain ⟨k0, rfl⟩ := len8_1 hk
    obtain ⟨t1, t2⟩ := wr_typ (hN.a rfl)
    exact kru_data x i env _ hC (by omega) fun W hB => kda29 x i env k0 (hDb W hB).1 (hDb W hB).2 hκ t1 t2
end Go.Proofs.YthihnkgjkmaplaaGreatDoor
namespace Go.Proofs.YthihnkgjkmaplaaGreatDoor
open Ck
open T3.Tp (Ty enc cns met)
open Tr (T Nd nm flat flats)
set_option maxRecDepth 100000
set_option linter.unusedSimpArgs false

theorem meetsS_pos {sm : Bool} {i : Nat} : ∀ {ks : List (Nat × Ty)} {a : Ty} {q : Int × Nat}, meetsS sm i a ks = .error q → q.1 ≠ 0
  | [], a, q, h => by cases h
  | k :: r, a, q, h => by
    rw [meetsS] at h
    unfold meetKS at h
    split at h
    · rename_i e he
      split at he
      · split at he
        · cases he
        · cases he; cases h; show (21 : Int) ≠ 0; decide
      · cases he; cases h; show (25 : Int) ≠ 0; decide
    · exact meetsS_pos h
theorem othersS_pos {sm : Bool} {A : Ty} {kid : Nat} : ∀ {ks : List (Nat × Ty)} {j : Nat} {q : Int × Nat}, othersS sm A kid j ks = .error q → q.1 ≠ 0
  | [], j, q, h => by cases h
  | (p, t) :: r, j, q, h => by
    rw [othersS] at h
    split at h
    · exact othersS_pos h
    · split at h
      · exact othersS_pos h
      · cases h; show (23 : Int) ≠ 0; decide
theorem useS_pos {sm : Bool} {u : Nat × UInt8 × Nat} {ks : List (Nat × Ty)} {q : Int × Nat} (hu : u.1 < ks.length) (h : useS sm u ks = .error q) : q.1 ≠ 0 := by
  unfold useS at h
  rw [List.getElem?_eq_getElem hu] at h
  simp only at h
  split at h
  · cases h; show (24 : Int) ≠ 0; decide
  · split at h
    · rename_i e he
      cases h
      exact othersS_pos he
    · cases h
theorem ruleD_pos {sm : Bool} {env : Env} {x : Nd} {κ i : Nat} {kk : List (Nat × Ty)} {q : Int × Nat} (hN : Nod x κ) (hlen : x.kids = (kk.length : Int)) (h : ruleD sm env x i kk = .error q) : q.1 ≠ 0 := by
  have hκ := hN.kind
  have hkids : κ ≠ 21 → ((kk.length : Nat) : Int) = Tr.arK κ := fun h => by rw [← hlen]; exact hN.kids h
  have hk1 : ∀ {n : Nat}, κ ≠ 21 → Tr.arK κ = (n : Int) → kk.length = n := fun h1 h2 => by have := hkids h1; omega
  unfold ruleD at h
  split at h
  · split at h
    · cases h; show (22 : Int) ≠ 0; decide
    · cases h
  split at h
  · rename_i h56
    have hl := hk1 (n := 1) (by omega) (by rcases h56 with e | e <;> (rw [← hκ, e]; decide))
    match kk, hl with
    | [k], _ =>
      simp only at h
      split at h
      · cases h
      · cases h; show (23 : Int) ≠ 0; decide
  split at h
  · rename_i h8
    have hl := hk1 (n := 2) (by omega) (by rw [← hκ, h8]; decide)
    match kk, hl with
    | [k, b], _ =>
      simp only at h
      split at h
      · cases h
      · cases h; show (23 : Int) ≠ 0; decide
  split at h
  · rename_i h29
    have hl := hk1 (n := 1) (by omega) (by rw [← hκ, h29]; decide)
    match kk, hl with
    | [k], _ =>
      simp only at h
      split at h
      · cases h
      · cases h; show (23 : Int) ≠ 0; decide
  split at h
  · rename_i h9
    have hl := hk1 (n := 3) (by omega) (by rw [← hκ, h9]; decide)
    match kk, hl with
    | [c, a, b], _ =>
      simp only at h
      split at h
      · exact meetsS_pos h
      · cases h; show (23 : Int) ≠ 0; decide
  split at h
  · rename_i h18
    have hl := hk1 (n := 2) (by omega) (by rw [← hκ, h18]; decide)
    match kk, hl with
    | [a, b], _ => cases h
  split at h
  · rename_i h26
    have hl := hk1 (n := 1) (by omega) (by rw [← hκ, h26]; decide)
    match kk, hl with
    | [a], _ => cases h
  split at h
  · split at h
    · cases h
    · split at h
      · rename_i e he
        cases h
        exact meetsS_pos he
      · cases h
  split at h
  · rename_i u hu
    refine useS_pos ?_ h
    unfold useT at hu
    have key : ∀ (k : Int) (n m : Nat), x.kind = k → k ≠ 21 → Tr.arK k = (n : Int) → m < n → m < kk.length := fun k n m e1 e2 e3 e4 => by
      have := hk1 (n := n) (by omega) (by rw [← hκ, e1]; exact e3)
      omega
    split at hu
    · rename_i e; cases hu; exact key 7 2 0 e (by decide) (by decide) (by decide)
    split at hu
    · rename_i e; cases hu; exact key 19 1 0 e (by decide) (by decide) (by decide)
    split at hu
    · rename_i e; cases hu; exact key 20 1 0 e (by decide) (by decide) (by decide)
    split at hu
    · rename_i e; cases hu; exact key 22 1 0 e (by decide) (by decide) (by decide)
    split at hu
    · rename_i e; cases hu; exact key 23 1 0 e (by decide) (by decide) (by decide)
    split at hu
    · rename_i e; cases hu; exact key 24 1 0 e (by decide) (by decide) (by decide)
    split at hu
    · rename_i e; cases hu; exact key 25 2 1 e (by decide) (by decide) (by decide)
    split at hu
    · rename_i e; cases hu; exact key 27 1 0 e (by decide) (by decide) (by decide)
    split at hu
    · rename_i e; cases hu; exact key 28 2 0 e (by decide) (by decide) (by decide)
    · cases hu
  · unfold oprS at h
    split at h
    · rename_i e he
      cases h
      rw [asksS_code he]
      decide
    · cases h
mutual
theorem kdT_pos {sm : Bool} : ∀ (t : T) (env : Env) (i : Nat) (q : Int × Nat), Tr.wf t → (∀ x ∈ flat t, Tr.mayB x = true) → kdT sm env t i = .error q → q.1 ≠ 0
  | .nd x ks, env, i, q, hw, hm, h => by
    obtain ⟨κ, hN⟩ := nod_of (hm x (by simp [flat]))
    have hwf := hw
    rw [Tr.wf] at hwf
    rw [kdT] at h
    split at h
    · cases h; show (21 : Int) ≠ 0; decide
    · cases hL : kdL sm env x 0 ks (i + 1) with
      | error e =>
        rw [hL] at h
        cases h
        exact kdL_pos ks env x 0 (i + 1) _ hwf.2 (fun y hy => hm y (by simp [flat, hy])) hL
      | ok rs =>
        rw [hL] at h
        simp only at h
        split at h
        · rename_i e he
          cases h
          refine ruleD_pos hN ?_ he
          rw [List.length_map, kdL_count ks env x 0 (i + 1) rs hL]
          exact hwf.1
        · rename_i u hu
          cases hM : made i u with
          | error e =>
            rw [hM] at h
            cases h
            unfold made at hM
            split at hM
            · cases hM
            · cases hM; show (21 : Int) ≠ 0; decide
          | ok v => rw [hM] at h; cases h
theorem kdL_pos {sm : Bool} : ∀ (ks : List T) (env : Env) (x : Nd) (j i : Nat) (q : Int × Nat), Tr.wfs ks → (∀ y ∈ flats ks, Tr.mayB y = true) → kdL sm env x j ks i = .error q → q.1 ≠ 0
  | [], env, x, j, i, q, hw, hm, h => by rw [kdL] at h; cases h
  | t :: r, env, x, j, i, q, hw, hm, h => by
    rw [Tr.wfs] at hw
    rw [kdL] at h
    cases hT : kdT sm (Ck.inner x j env) t i with
    | error e =>
      rw [hT] at h
      cases h
      exact kdT_pos t _ _ _ hw.1 (fun y hy => hm y (by simp [flats, hy])) hT
    | ok a =>
      rw [hT] at h
      cases hL : kdL sm env x (j + 1) r (i + (flat t).length) with
      | error e =>
        rw [hL] at h
        cases h
        exact kdL_pos r _ _ _ _ _ hw.2 (fun y hy => hm y (by simp [flats, hy])) hL
      | ok b => rw [hL] at h; cases h
theorem kdL_count {sm : Bool} : ∀ (ks : List T) (env : Env) (x : Nd) (j i : Nat) (rs : List (Nat × List Ty)), kdL sm env x j ks i = .ok rs → rs.length = ks.length
  | [], env, x, j, i, rs, h => by rw [kdL] at h; cases h; rfl
  | t :: r, env, x, j, i, rs, h => by
    rw [kdL] at h
    cases hT : kdT sm (Ck.inner x j env) t i with
    | error e => rw [hT] at h; cases h
    | ok a =>
      rw [hT] at h
      cases hL : kdL sm env x (j + 1) r (i + (flat t).length) with
      | error e => rw [hL] at h; cases h
      | ok b =>
        rw [hL] at h
        cases h
        simp [kdL_count r _ _ _ _ b hL]
end
end Go.Proofs.YthihnkgjkmaplaaGreatDoor
namespace Go.Proofs.YthihnkgjkmaplaaGreatDoor
open Go.RowKit Ck
open T3.Tp (Ty enc cns met)
open Tr (T Nd nm)
set_option maxRecDepth 100000
set_option linter.unusedSimpArgs false
set_option linter.unusedVariables false

set_option maxHeartbeats 4000000 in
theorem inner_fn (w : World) (cb : Nat) (x : Tr.Nd) (k : Int) (v : Value) (env : Env) (hl : env.length ≤ 5000) (hv : IsEnv w v env) (hκ : x.kind = 5) (hxt : x.t = ⟨#[]⟩ ∨ x.t = S (enc (wr x.t))) :
    Calls Tryz.prog 92 #[.pointer (some ⟨cb, 0, none⟩), .agg #[.int .i8 x.kind, .int .i64 x.kids, .int .i64 x.n, .string x.s, .string x.t, .string x.u, .int .i64 x.ln, .int .i64 x.co], .int .i64 k, v] w fun e w' => ∃ g c, e = .returned (.slice (some ⟨g, 0, none⟩) (env.length + 1) c) ∧ env.length + 1 ≤ c ∧ w.heap.size ≤ g ∧ IsEnv w' (.slice (some ⟨g, 0, none⟩) (env.length + 1) c) ((nm x, wr x.t) :: env) ∧ Below w.heap.size w w' := by
  obtain ⟨i0, hi, hz0, hz1, hz2⟩ := info_parts infoB
  obtain ⟨a, c, rfl, hv⟩ := hv
  have hmk := make_env env.length hl
  obtain ⟨n, hn⟩ : ∃ n, n = env.length := ⟨_, rfl⟩
  obtain ⟨cs, hcs⟩ : ∃ cs, cs = ecells env := ⟨_, rfl⟩
  have hcl : cs.length = n * 2 := by rw [hcs, hn]; exact ecells_len env
  have hc1 : ∀ v ∈ cs, v.oneCell' = true := by rw [hcs]; exact ecells_one env
  have HE : Aside (n = env.length ∧ cs = ecells env) := ⟨hn, hcs⟩
  have hsrc : 0 < n → ∃ b o, a = some ⟨b, o, none⟩ ∧ b < w.heap.size ∧ ∀ j u, cs[j]? = some u → w.cell? ⟨b, o + j, none⟩ = some u := by
    intro h0
    rw [hcs]
    exact hv (fun e => by rw [e] at hn; simp at hn; omega)
  rw [← hn] at hmk
  show Calls _ _ #[_, _, _, .slice a env.length c] _ _
  rw [← hn]
  have hnl : n ≤ 5000 := by rw [hn]; exact hl
  clear hv hn hcs hl
  obtain ⟨W1, hW1⟩ : ∃ W1, W1 = w.alloc (.cells #[.int .i8 x.kind, .int .i64 x.kids, .int .i64 x.n, .string x.s, .string x.t, .string x.u, .int .i64 x.ln, .int .i64 x.co] 64) := ⟨_, rfl⟩
  obtain ⟨W2, hW2⟩ : ∃ W2, W2 = W1.alloc (.cells (madeCells #[.string ⟨#[]⟩, .string ⟨#[]⟩] (n * 2)) 98) := ⟨_, rfl⟩
  have z1 : W1.heap.size = w.heap.size + 1 := by rw [hW1]; simp
  have hB2 : Below w.heap.size w W2 := by rw [hW2, hW1]; exact ((Below.refl _ _).alloc (Nat.le_refl _) _).alloc (by simp) _
  have hx2 : W2.heap[w.heap.size]? = some (.cells #[.int .i8 x.kind, .int .i64 x.kids, .int .i64 x.n, .string x.s, .string x.t, .string x.u, .int .i64 x.ln, .int .i64 x.co] 64) := by rw [hW2, hW1]; exact (Below.heap_alloc _ _ _ (by simp)).trans (heap_alloc_new _ _)
  have hm2 : W2.heap[w.heap.size + 1]? = some (.cells (madeCells #[.string ⟨#[]⟩, .string ⟨#[]⟩] (n * 2)).toList.toArray 98 (0, 0)) := by rw [hW2, ← z1]; simpa using heap_alloc_new W1 _
  have HK : Aside (x.kind = 5) := hκ
  have hnt := fun w => knote_any hxt w
  have HZ1 : Aside (W1.heap.size = w.heap.size + 1) := z1
  clear hκ hxt z1
  go_enter Tryz.func92, Tryz.ntmps92
  go_upto_region 2 with fail
  rw [← hW1]
  rw [← hW2]
  clear hmk hW1 hW2
  obtain ⟨w3, hrun, hg3, hB3⟩ := copy_env W2 (w.heap.size + 1) n c a _ cs hm2 hcl (by simp [size_madeCells]) hc1 (fun h0 => by
    obtain ⟨b, o, rfl, hb, hc⟩ := hsrc h0
    exact ⟨b, o, rfl, fun j u hu => (hB2.cell (p := ⟨b, o + j, none⟩) hb).trans (hc j u hu)⟩)
  have hx3 := (hB3.block _ (by omega)).trans hx2
  have p0 : w3.cell? ⟨w.heap.size, 0, none⟩ = some (.int .i8 x.kind) := (block_cells hx3).1 0
  rw [HK.out] at p0
  have p3 : w3.cell? ⟨w.heap.size, 3, none⟩ = some (.string x.s) := (block_cells hx3).1 3
  have p4 : w3.cell? ⟨w.heap.size, 4, none⟩ = some (.string x.t) := (block_cells hx3).1 4
  have p5 : w3.cell? ⟨w.heap.size, 5, none⟩ = some (.string x.u) := (block_cells hx3).1 5
  have hown : w3.ownsRow w.heap.size 98 2 (.slice (some ⟨w.heap.size + 1, 0, none⟩) n n) n cs :=
    ⟨hcl, .inr ⟨w.heap.size + 1, n, cs.toArray, rfl, by omega, hg3, Nat.le_refl _, by unfold maxLen; omega, by rw [List.size_toArray]; exact hcl, by rw [← hcl]; simp⟩⟩
  have hBw : Below w.heap.size w w3 := hB2.trans (hB3.mono (by omega))
  have hz3 : w.heap.size + 1 < w3.heap.size := (Array.getElem?_eq_some_iff.1 hg3).1
  clear hsrc hg3 hm2 hx2 hx3 hB3 hB2 hc1 hcl
  have HFin : Aside (∀ w4 g cap (p : List UInt8 × Ty), w4.ownsRow w.heap.size 98 2 (.slice (some ⟨g, 0, none⟩) (n + 1) cap) (n + 1) (cs ++ [.string (S p.1), .string (S (enc p.2))]) → w3.grownBy w4 (some (w.heap.size + 1)) → n + 1 ≤ cap ∧ w.heap.size ≤ g ∧ IsEnv w4 (.slice (some ⟨g, 0, none⟩) (n + 1) cap) (p :: env) ∧ Below w.heap.size w w4) := fun w4 g cap p ho hg => by
    obtain ⟨o0, ⟨o1, _⟩ | ⟨g', cap', cur, o1, o2, o3, o4, o5, o6, o7⟩⟩ := ho
    · cases o1
    · cases o1
      refine ⟨o4, o2, ⟨_, cap, by rw [List.length_cons, ← HE.out.1], fun _ => ⟨g, 0, rfl, (Array.getElem?_eq_some_iff.1 o3).1, fun j u hu => ?_⟩⟩, ?_⟩
      · rw [ecells_cons, ← HE.out.2, ← o7] at hu
        rw [Nat.zero_add, (block_cells o3).1 j]
        rw [List.getElem?_take] at hu
        split at hu
        · simpa using hu
        · cases hu
      · exact hBw.grown hg (by omega) (fun q e => by cases e; omega)
  have HNM : Aside (S (nm x) = x.s) := by show _ = _; unfold nm; cases x.s; simp [S]
  have HS : ∀ W, w3.drew.grownBy W (some (w.heap.size + 1)) → W.cell? ⟨w.heap.size, 3, none⟩ = some (.string x.s) ∧ W.cell? ⟨w.heap.size, 4, none⟩ = some (.string x.t) := fun W hg => ⟨hg.cell p3 (by simp), hg.cell p4 (by simp)⟩
  clear HK HE
  generalize hsn : S (enc (wr x.t)) = sn at *
  go_upto_region 5 with fail
  go_region_held3 (fun W => W.cell? ⟨w.heap.size, 3, none⟩ = some (.string x.s) ∧ W.cell? ⟨w.heap.size, 4, none⟩ = some (.string x.t)) (first | go_keep | exact HS _ (grownBy_alloc_pre hg2)) (first | (refine step_append_lies _ (by rfl) _ _ _ (by rfl) w.heap.size 98 i0 (.agg #[.string ⟨#[]⟩, .string ⟨#[]⟩]) 2 32 tyBinds hi hz0 hz1 hz2 rfl (by decide) (.slice (some ⟨w.heap.size + 1, 0, none⟩) n n) _ _ (by rfl) (World.ownsRow.alloc (w := w3.drew) hown _) ⟨w3.heap.size, 0, none⟩ 1 1 [.string x.s, .string sn] (by rfl) rfl (cells_list_new w3.drew [.string x.s, .string sn] 98) (fun u hu => by simp at hu; rcases hu with rfl | rfl <;> rfl) (by omega) (by unfold maxLen; omega) (by omega) (by simp; omega) (w3.heap.size + 1) (by simp) ?_; intro g2 cap2 w2 hown2 hg2 hat hlt) | (go_at_call 89; refine (hnt _).mono ?_; rintro e w9 ⟨rfl, hw9⟩; replace hw9 := hw9.symm; subst hw9))
  all_goals
    rw [← HNM.out, ← hsn] at hown2
    obtain ⟨f1, f2, f3, f4⟩ := HFin.out w2 g2 cap2 (nm x, wr x.t) hown2 (grownBy_alloc_pre (show (w3.alloc _).grownBy w2 (some (w.heap.size + 1)) from ⟨hg2.os, hg2.tape, hg2.output, hg2.size, hg2.block⟩))
    clear hown2 hg2 hat hown HFin
    go_wp2_with fail
    go_ret
    exact ⟨g2, cap2, rfl, f1, f2, f3, f4⟩
end Go.Proofs.YthihnkgjkmaplaaGreatDoor
