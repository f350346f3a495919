/- Plain functions on types: what layer 3 of the document says of two types, and of a step looser. Nothing of the program is named here. The rules of layer 8 as plain functions on trees. Nothing of the program is named here. What the program's and the document's questions about one byte answer. -/
import Derived.Test.YthihnkgjkmaplaaDoorUab
import Derived.Test.YthihnkgjkmaplaaDoorUaa
import Derived.Test.YthihnkgjkmaplaaDoorRows
import Derived.WalkKit
import Derived.WalkSpells
import Derived.WalkLawsBesides
namespace Go.Proofs.YthihnkgjkmaplaaDoor.T3
namespace Tp


/-- Consistent: agree wherever both are known. -/
def cns : Ty → Ty → Bool
  | .tq, _ => true
  | _, .tq => true
  | .ti, .ti => true | .tb, .tb => true | .tt, .tt => true
  | .tl a, .tl c => cns a c
  | .tx a, .tx c => cns a c
  | .tf a b, .tf c d => cns a c && cns b d
  | .tp a b, .tp c d => cns a c && cns b d
  | _, _ => false
/-- The first is at least as precise as the second. -/
def prc : Ty → Ty → Bool
  | _, .tq => true
  | .ti, .ti => true | .tb, .tb => true | .tt, .tt => true
  | .tl a, .tl c => prc a c
  | .tx a, .tx c => prc a c
  | .tf a b, .tf c d => prc a c && prc b d
  | .tp a b, .tp c d => prc a c && prc b d
  | _, _ => false
/-- The meet of consistent types. -/
def met : Ty → Ty → Ty
  | .tq, t => t
  | s, .tq => s
  | .tl a, .tl c => .tl (met a c)
  | .tx a, .tx c => .tx (met a c)
  | .tf a b, .tf c d => .tf (met a c) (met b d)
  | .tp a b, .tp c d => .tp (met a c) (met b d)
  | s, _ => s
def joi : Ty → Ty → Ty
  | .ti, .ti => .ti | .tb, .tb => .tb | .tt, .tt => .tt
  | .tl a, .tl c => .tl (joi a c)
  | .tx a, .tx c => .tx (joi a c)
  | .tf a b, .tf c d => .tf (joi a c) (joi b d)
  | .tp a b, .tp c d => .tp (joi a c) (joi b d)
  | _, _ => .tq

theorem cns_qr (s : Ty) : cns s .tq = true := by cases s <;> rfl
theorem cns_ql (s : Ty) : cns .tq s = true := by cases s <;> rfl
theorem prc_q (s : Ty) : prc s .tq = true := by cases s <;> rfl
theorem q_prc {s : Ty} (h : prc .tq s = true) : s = .tq := by cases s <;> simp [prc] at h ⊢
theorem prc_refl : ∀ s : Ty, prc s s = true
  | .ti | .tb | .tt | .tq => rfl
  | .tl a | .tx a => by simpa [prc] using prc_refl a
  | .tf a b | .tp a b => by simp [prc, prc_refl a, prc_refl b]
theorem prc_anti : ∀ {s t : Ty}, prc s t = true → prc t s = true → s = t := by
  intro s
  induction s with
  | ti | tb | tt | tq => intro t h k; cases t <;> simp [prc] at h k ⊢
  | tl a ih | tx a ih => intro t h k; cases t <;> simp [prc] at h k ⊢; exact ih h k
  | tf a b iha ihb | tp a b iha ihb => intro t h k; cases t <;> simp [prc] at h k ⊢; exact ⟨iha h.1 k.1, ihb h.2 k.2⟩
theorem prc_trans : ∀ {s t u : Ty}, prc s t = true → prc t u = true → prc s u = true := by
  intro s
  induction s with
  | ti | tb | tt | tq => intro t u h k; cases t <;> cases u <;> simp [prc] at h k ⊢
  | tl a ih | tx a ih => intro t u h k; cases t <;> cases u <;> simp [prc] at h k ⊢; exact ih h k
  | tf a b iha ihb | tp a b iha ihb => intro t u h k; cases t <;> cases u <;> simp [prc] at h k ⊢; exact ⟨iha h.1 k.1, ihb h.2 k.2⟩
theorem cns_symm : ∀ (s t : Ty), cns s t = cns t s := by
  intro s
  induction s with
  | ti | tb | tt | tq => intro t; cases t <;> rfl
  | tl a ih | tx a ih => intro t; cases t <;> simp [cns]; exact ih _
  | tf a b iha ihb | tp a b iha ihb => intro t; cases t <;> simp [cns]; rw [iha, ihb]
theorem prc_cns : ∀ {s t : Ty}, prc s t = true → cns s t = true := by
  intro s
  induction s with
  | ti | tb | tt | tq => intro t h; cases t <;> simp [prc, cns] at h ⊢
  | tl a ih | tx a ih => intro t h; cases t <;> simp [prc, cns] at h ⊢; exact ih h
  | tf a b iha ihb | tp a b iha ihb => intro t h; cases t <;> simp [prc, cns] at h ⊢; exact ⟨iha h.1, ihb h.2⟩
def sta : Ty → Bool
  | .ti | .tb | .tt => true
  | .tq => false
  | .tl a | .tx a => sta a
  | .tf a b | .tp a b => sta a && sta b
theorem cns_sta : ∀ {s t : Ty}, sta s = true → sta t = true → cns s t = decide (s = t) := by
  intro s
  induction s with
  | ti | tb | tt | tq => intro t h k; cases t <;> simp [sta, cns] at h k ⊢
  | tl a ih | tx a ih => intro t h k; cases t <;> simp [sta, cns] at h k ⊢; exact ih h k
  | tf a b iha ihb | tp a b iha ihb =>
    intro t h k
    cases t <;> simp [sta, cns] at h k ⊢
    rw [iha h.1 k.1, ihb h.2 k.2]
theorem met_symm : ∀ {s t : Ty}, cns s t = true → met s t = met t s := by
  intro s
  induction s with
  | ti | tb | tt | tq => intro t h; cases t <;> simp [cns, met] at h ⊢
  | tl a ih | tx a ih => intro t h; cases t <;> simp [cns, met] at h ⊢; exact ih h
  | tf a b iha ihb | tp a b iha ihb => intro t h; cases t <;> simp [cns, met] at h ⊢; exact ⟨iha h.1, ihb h.2⟩
theorem met_l : ∀ {s t : Ty}, cns s t = true → prc (met s t) s = true := by
  intro s
  induction s with
  | ti | tb | tt | tq => intro t h; cases t <;> simp [cns, met, prc, prc_refl] at h ⊢
  | tl a ih | tx a ih => intro t h; cases t <;> simp [cns, met, prc, prc_refl] at h ⊢; exact ih h
  | tf a b iha ihb | tp a b iha ihb => intro t h; cases t <;> simp [cns, met, prc, prc_refl] at h ⊢; exact ⟨iha h.1, ihb h.2⟩
theorem met_r {s t : Ty} (h : cns s t = true) : prc (met s t) t = true := by
  rw [met_symm h]; exact met_l (by rw [cns_symm]; exact h)
theorem met_best : ∀ {u s t : Ty}, prc u s = true → prc u t = true → cns s t = true ∧ prc u (met s t) = true := by
  intro u
  induction u with
  | ti | tb | tt | tq => intro s t h k; cases s <;> cases t <;> simp [cns, met, prc] at h k ⊢
  | tl a ih | tx a ih => intro s t h k; cases s <;> cases t <;> simp [cns, met, prc] at h k ⊢ <;> first | exact h | exact k | exact ih h k
  | tf a b iha ihb | tp a b iha ihb =>
    intro s t h k
    cases s <;> cases t <;> simp [cns, met, prc] at h k ⊢ <;> first | exact h | exact k | exact ⟨⟨(iha h.1 k.1).1, (ihb h.2 k.2).1⟩, (iha h.1 k.1).2, (ihb h.2 k.2).2⟩
theorem joi_symm : ∀ (s t : Ty), joi s t = joi t s := by
  intro s
  induction s with
  | ti | tb | tt | tq => intro t; cases t <;> rfl
  | tl a ih | tx a ih => intro t; cases t <;> simp [joi]; exact ih _
  | tf a b iha ihb | tp a b iha ihb => intro t; cases t <;> simp [joi]; exact ⟨iha _, ihb _⟩
theorem joi_l : ∀ (s t : Ty), prc s (joi s t) = true := by
  intro s
  induction s with
  | ti | tb | tt | tq => intro t; cases t <;> rfl
  | tl a ih | tx a ih => intro t; cases t <;> simp [joi, prc]; exact ih _
  | tf a b iha ihb | tp a b iha ihb => intro t; cases t <;> simp [joi, prc]; exact ⟨iha _, ihb _⟩
theorem joi_r (s t : Ty) : prc t (joi s t) = true := by rw [joi_symm]; exact joi_l t s
theorem joi_best : ∀ {s t u : Ty}, prc s u = true → prc t u = true → prc (joi s t) u = true := by
  intro s
  induction s with
  | ti | tb | tt | tq => intro t u h k; cases t <;> cases u <;> simp [joi, prc] at h k ⊢
  | tl a ih | tx a ih => intro t u h k; cases t <;> cases u <;> simp [joi, prc] at h k ⊢; exact ih h k
  | tf a b iha ihb | tp a b iha ihb => intro t u h k; cases t <;> cases u <;> simp [joi, prc] at h k ⊢; exact ⟨iha h.1 k.1, ihb h.2 k.2⟩
theorem prc_len : ∀ {s t : Ty}, prc s t = true → (enc t).length ≤ (enc s).length := by
  intro s
  induction s with
  | ti | tb | tt | tq => intro t h; cases t <;> simp [prc, enc] at h ⊢
  | tl a ih | tx a ih => intro t h; cases t <;> simp [prc, enc] at h ⊢; exact ih h
  | tf a b iha ihb | tp a b iha ihb =>
    intro t h; cases t <;> simp [prc, enc] at h ⊢
    have := iha h.1; have := ihb h.2; omega
theorem joi_len (s t : Ty) : (enc (joi s t)).length ≤ (enc s).length := prc_len (joi_l s t)

/-- All steps looser, by their place, from the left. -/
def loo : Ty → List Ty
  | .ti | .tb | .tt => [.tq]
  | .tq => []
  | .tl a => if a = .tq then [.tq] else (loo a).map .tl
  | .tx a => if a = .tq then [.tq] else (loo a).map .tx
  | .tf a b => if a = .tq ∧ b = .tq then [.tq] else (loo a).map (.tf · b) ++ (loo b).map (.tf a ·)
  | .tp a b => if a = .tq ∧ b = .tq then [.tq] else (loo a).map (.tp · b) ++ (loo b).map (.tp a ·)
/-- How much is known. -/
def kno : Ty → Nat
  | .ti | .tb | .tt => 1
  | .tq => 0
  | .tl a | .tx a => kno a + 1
  | .tf a b | .tp a b => kno a + kno b + 1
theorem kno_q {t : Ty} (h : kno t = 0) : t = .tq := by cases t <;> simp [kno] at h ⊢
theorem kno_len : ∀ t : Ty, kno t ≤ (enc t).length
  | .ti | .tb | .tt | .tq => by decide
  | .tl a | .tx a => by have := kno_len a; simp [kno, enc]; omega
  | .tf a b | .tp a b => by have := kno_len a; have := kno_len b; simp [kno, enc]; omega
theorem loo_kno : ∀ {t u : Ty}, u ∈ loo t → kno u + 1 = kno t := by
  intro t
  induction t with
  | ti | tb | tt | tq => intro u h; simp [loo] at h <;> subst h <;> rfl
  | tl a ih | tx a ih =>
    intro u h
    unfold loo at h
    split at h
    · rename_i e; subst e; simp at h; subst h; rfl
    · obtain ⟨x, hx, rfl⟩ := List.mem_map.1 h
      have := ih hx; simp [kno]; omega
  | tf a b iha ihb | tp a b iha ihb =>
    intro u h
    unfold loo at h
    split at h
    · rename_i e; obtain ⟨rfl, rfl⟩ := e; simp at h; subst h; rfl
    · rcases List.mem_append.1 h with h | h
      · obtain ⟨x, hx, rfl⟩ := List.mem_map.1 h
        have := iha hx; simp [kno]; omega
      · obtain ⟨x, hx, rfl⟩ := List.mem_map.1 h
        have := ihb hx; simp [kno]; omega
theorem loo_prc : ∀ {t u : Ty}, u ∈ loo t → prc t u = true := by
  intro t
  induction t with
  | ti | tb | tt | tq => intro u h; simp [loo] at h <;> subst h <;> rfl
  | tl a ih | tx a ih =>
    intro u h
    unfold loo at h
    split at h
    · rename_i e; subst e; simp at h; subst h; rfl
    · obtain ⟨x, hx, rfl⟩ := List.mem_map.1 h
      simpa [prc] using ih hx
  | tf a b iha ihb | tp a b iha ihb =>
    intro u h
    unfold loo at h
    split at h
    · rename_i e; obtain ⟨rfl, rfl⟩ := e; simp at h; subst h; rfl
    · rcases List.mem_append.1 h with h | h
      · obtain ⟨x, hx, rfl⟩ := List.mem_map.1 h
        simp [prc, iha hx, prc_refl]
      · obtain ⟨x, hx, rfl⟩ := List.mem_map.1 h
        simp [prc, ihb hx, prc_refl]
theorem prc_kno : ∀ {s t : Ty}, prc s t = true → kno t ≤ kno s := by
  intro s
  induction s with
  | ti | tb | tt | tq => intro t h; cases t <;> simp [prc, kno] at h ⊢
  | tl a ih | tx a ih => intro t h; cases t <;> simp [prc, kno] at h ⊢; exact ih h
  | tf a b iha ihb | tp a b iha ihb =>
    intro t h; cases t <;> simp [prc, kno] at h ⊢
    have := iha h.1; have := ihb h.2; omega
theorem loo_strict {t u : Ty} (h : u ∈ loo t) : prc u t = false := by
  cases e : prc u t with
  | false => rfl
  | true => have := prc_kno e; have := loo_kno h; omega
theorem prc_high : ∀ {s t : Ty}, prc s t = true → high t ≤ high s := by
  intro s
  induction s with
  | ti | tb | tt | tq => intro t h; cases t <;> simp [prc, high] at h ⊢
  | tl a ih | tx a ih => intro t h; cases t <;> simp [prc, high] at h ⊢; exact ih h
  | tf a b iha ihb | tp a b iha ihb =>
    intro t h; cases t <;> simp [prc, high] at h ⊢
    have := iha h.1; have := ihb h.2; omega
/-- What is not ? has a step looser. -/
theorem loo_some : ∀ {t : Ty}, t ≠ .tq → ∃ u, u ∈ loo t := by
  intro t
  induction t with
  | ti | tb | tt => intro _; exact ⟨.tq, by simp [loo]⟩
  | tq => intro h; exact absurd rfl h
  | tl a ih =>
    intro _
    by_cases e : a = .tq
    · exact ⟨.tq, by simp [loo, e]⟩
    · obtain ⟨u, hu⟩ := ih e
      exact ⟨.tl u, by simp [loo, e]; exact hu⟩
  | tx a ih =>
    intro _
    by_cases e : a = .tq
    · exact ⟨.tq, by simp [loo, e]⟩
    · obtain ⟨u, hu⟩ := ih e
      exact ⟨.tx u, by simp [loo, e]; exact hu⟩
  | tf a b iha ihb =>
    intro _
    by_cases e : a = .tq ∧ b = .tq
    · exact ⟨.tq, by simp [loo, e]⟩
    · by_cases ea : a = .tq
      · obtain ⟨u, hu⟩ := ihb (fun eb => e ⟨ea, eb⟩)
        exact ⟨.tf a u, by unfold loo; rw [if_neg e]; exact List.mem_append_right _ (List.mem_map.2 ⟨u, hu, rfl⟩)⟩
      · obtain ⟨u, hu⟩ := iha ea
        exact ⟨.tf u b, by unfold loo; rw [if_neg e]; exact List.mem_append_left _ (List.mem_map.2 ⟨u, hu, rfl⟩)⟩
  | tp a b iha ihb =>
    intro _
    by_cases e : a = .tq ∧ b = .tq
    · exact ⟨.tq, by simp [loo, e]⟩
    · by_cases ea : a = .tq
      · obtain ⟨u, hu⟩ := ihb (fun eb => e ⟨ea, eb⟩)
        exact ⟨.tp a u, by unfold loo; rw [if_neg e]; exact List.mem_append_right _ (List.mem_map.2 ⟨u, hu, rfl⟩)⟩
      · obtain ⟨u, hu⟩ := iha ea
        exact ⟨.tp u b, by unfold loo; rw [if_neg e]; exact List.mem_append_left _ (List.mem_map.2 ⟨u, hu, rfl⟩)⟩
/-- From a type a step looser leads towards each less precise one. -/
theorem loo_near : ∀ {s t : Ty}, prc s t = true → s ≠ t → ∃ u, u ∈ loo s ∧ prc u t = true := by
  intro s
  induction s with
  | ti | tb | tt | tq => intro t h hne; cases t <;> simp [prc, loo] at h hne ⊢
  | tl a ih =>
    intro t h hne
    cases t with
    | tq => obtain ⟨u, hu⟩ := loo_some (t := .tl a) (by simp); exact ⟨u, hu, prc_q u⟩
    | tl c =>
      simp [prc] at h hne
      obtain ⟨u, hu, hp⟩ := ih h hne
      have e : a ≠ .tq := by rintro rfl; simp [loo] at hu
      exact ⟨.tl u, by simp [loo, e]; exact hu, by simpa [prc] using hp⟩
    | _ => simp [prc] at h
  | tx a ih =>
    intro t h hne
    cases t with
    | tq => obtain ⟨u, hu⟩ := loo_some (t := .tx a) (by simp); exact ⟨u, hu, prc_q u⟩
    | tx c =>
      simp [prc] at h hne
      obtain ⟨u, hu, hp⟩ := ih h hne
      have e : a ≠ .tq := by rintro rfl; simp [loo] at hu
      exact ⟨.tx u, by simp [loo, e]; exact hu, by simpa [prc] using hp⟩
    | _ => simp [prc] at h
  | tf a b iha ihb =>
    intro t h hne
    cases t with
    | tq => obtain ⟨u, hu⟩ := loo_some (t := .tf a b) (by simp); exact ⟨u, hu, prc_q u⟩
    | tf c d =>
      simp [prc] at h hne
      by_cases ea : a = c
      · obtain ⟨u, hu, hp⟩ := ihb h.2 (hne ea)
        have e : ¬ (a = .tq ∧ b = .tq) := by rintro ⟨_, rfl⟩; simp [loo] at hu
        exact ⟨.tf a u, by unfold loo; rw [if_neg e]; exact List.mem_append_right _ (List.mem_map.2 ⟨u, hu, rfl⟩), by simp [prc, h.1, hp]⟩
      · obtain ⟨u, hu, hp⟩ := iha h.1 ea
        have e : ¬ (a = .tq ∧ b = .tq) := by rintro ⟨rfl, _⟩; simp [loo] at hu
        exact ⟨.tf u b, by unfold loo; rw [if_neg e]; exact List.mem_append_left _ (List.mem_map.2 ⟨u, hu, rfl⟩), by simp [prc, h.2, hp]⟩
    | _ => simp [prc] at h
  | tp a b iha ihb =>
    intro t h hne
    cases t with
    | tq => obtain ⟨u, hu⟩ := loo_some (t := .tp a b) (by simp); exact ⟨u, hu, prc_q u⟩
    | tp c d =>
      simp [prc] at h hne
      by_cases ea : a = c
      · obtain ⟨u, hu, hp⟩ := ihb h.2 (hne ea)
        have e : ¬ (a = .tq ∧ b = .tq) := by rintro ⟨_, rfl⟩; simp [loo] at hu
        exact ⟨.tp a u, by unfold loo; rw [if_neg e]; exact List.mem_append_right _ (List.mem_map.2 ⟨u, hu, rfl⟩), by simp [prc, h.1, hp]⟩
      · obtain ⟨u, hu, hp⟩ := iha h.1 ea
        have e : ¬ (a = .tq ∧ b = .tq) := by rintro ⟨rfl, _⟩; simp [loo] at hu
        exact ⟨.tp u b, by unfold loo; rw [if_neg e]; exact List.mem_append_left _ (List.mem_map.2 ⟨u, hu, rfl⟩), by simp [prc, h.2, hp]⟩
    | _ => simp [prc] at h
end Tp
end Go.Proofs.YthihnkgjkmaplaaDoor.T3
namespace Go.Proofs.YthihnkgjkmaplaaDoor
set_option maxRecDepth 100000
namespace Ck
open T3.Tp (Ty enc cns prc met sta)
open Tr (T Nd nm cut32)

/-- A type's letters, read; what is behind them. -/
def dec1 : Nat → List UInt8 → Option (Ty × List UInt8)
  | 0, _ => none
  | _, [] => none
  | f + 1, c :: r =>
    if c = 105 then some (.ti, r) else if c = 98 then some (.tb, r) else if c = 116 then some (.tt, r) else if c = 63 then some (.tq, r)
    else if c = 108 then (dec1 f r).map fun p => (.tl p.1, p.2)
    else if c = 120 then (dec1 f r).map fun p => (.tx p.1, p.2)
    else if c = 62 then (dec1 f r).bind fun p => (dec1 f p.2).map fun q => (.tf p.1 q.1, q.2)
    else if c = 44 then (dec1 f r).bind fun p => (dec1 f p.2).map fun q => (.tp p.1 q.1, q.2)
    else none
theorem dec1_enc : ∀ (t : Ty) (f : Nat) (r : List UInt8), (enc t).length ≤ f → dec1 f (enc t ++ r) = some (t, r) := by
  intro t
  induction t with
  | ti | tb | tt | tq => intro f r h; cases f with | zero => simp [T3.Tp.enc] at h | succ f => rfl
  | tl a ih | tx a ih =>
    intro f r h
    cases f with
    | zero => simp [T3.Tp.enc] at h
    | succ f => simp [T3.Tp.enc] at h; simp [T3.Tp.enc, dec1, ih f r h]
  | tf a b iha ihb | tp a b iha ihb =>
    intro f r h
    cases f with
    | zero => simp [T3.Tp.enc] at h
    | succ f =>
      simp [T3.Tp.enc] at h
      simp [T3.Tp.enc, dec1, List.append_assoc, iha f (enc b ++ r) (by omega), ihb f r (by omega)]
def tyOf (l : List UInt8) : Ty := match dec1 l.length l with
  | some (t, _) => t
  | none => .tq
theorem tyOf_enc (t : Ty) : tyOf (enc t) = t := by
  have := dec1_enc t (enc t).length [] (Nat.le_refl _)
  rw [List.append_nil] at this
  unfold tyOf
  rw [this]
/-- An annotation as a type: absent is ?. -/
def wr (s : ByteArray) : Ty := if s.size = 0 then .tq else tyOf s.data.toList
abbrev sz (t : Ty) : Nat := (enc t).length

/-- An environment, the latest name first. -/
abbrev Env := List (List UInt8 × Ty)
def look : Env → List UInt8 → Option Ty
  | [], _ => none
  | (n, t) :: r, a => if a = n then some t else look r a
/-- The environment at a node's kid number j. -/
def inner (x : Nd) (j : Nat) (env : Env) : Env :=
  if x.kind = 5 then (nm x, wr x.t) :: env
  else if x.kind = 6 then ((cut32 (nm x)).2.1, wr x.t) :: ((cut32 (nm x)).1, .tf (wr x.t) (wr x.u)) :: env
  else if x.kind = 8 ∧ j = 1 then (nm x, wr x.t) :: env else env

abbrev Rs := Except (Int × Nat)
/-- The parts of a type of a head; of ? twice ?. -/
def mt : Ty → UInt8 → Option (Ty × Ty)
  | .tq, _ => some (.tq, .tq)
  | .tf a b, h => if h = 62 then some (a, b) else none
  | .tp a b, h => if h = 44 then some (a, b) else none
  | .tl a, h => if h = 108 then some (a, a) else none
  | .tx a, h => if h = 120 then some (a, a) else none
  | _, _ => none
def ask (t u : Ty) (e : Int × Nat) : Rs Unit := if cns t u then .ok () else .error e
/-- Operations: what is asked of each kid, and what is given. -/
def opT (k : Int) : Ty × Ty :=
  if k = 1 then (.tq, .ti) else if k = 2 then (.tq, .tt) else if k = 3 then (.tq, .tb)
  else if k = 10 ∨ k = 11 ∨ k = 12 ∨ k = 16 then (.ti, .ti) else if k = 13 then (.tt, .tt)
  else if k = 14 ∨ k = 15 then (.ti, .tb) else (.tt, .ti)
/-- Uses: the kid that is used, the head, and which of A, B, lA, b is given; none: no use. -/
def useT (k : Int) : Option (Nat × UInt8 × Nat) :=
  if k = 7 then some (0, 62, 1) else if k = 19 then some (0, 44, 0) else if k = 20 then some (0, 44, 1)
  else if k = 22 then some (0, 108, 0) else if k = 23 then some (0, 108, 2) else if k = 24 then some (0, 108, 3)
  else if k = 25 then some (1, 108, 2) else if k = 27 then some (0, 120, 0) else if k = 28 then some (0, 120, 0) else none
def giv (g : Nat) (a b : Ty) : Ty := if g = 0 then a else if g = 1 then b else if g = 2 then .tl a else .tb
def asks (u : Ty) : List (Nat × Ty) → Rs Unit
  | [] => .ok ()
  | (p, t) :: r => if cns t u then asks u r else .error (23, p)
/-- The other kids, if there are any, are asked to be an A. -/
def others (A : Ty) (kid : Nat) : Nat → List (Nat × Ty) → Rs Unit
  | _, [] => .ok ()
  | j, (p, t) :: r => if j = kid then others A kid (j + 1) r else if cns t A then others A kid (j + 1) r else .error (23, p)
def use (u : Nat × UInt8 × Nat) (ks : List (Nat × Ty)) : Rs Ty :=
  match ks[u.1]? with
  | none => .error (0, 0)
  | some (p, t) => match mt t u.2.1 with
    | none => .error (24, p)
    | some (A, B) => match others A u.1 0 ks with
      | .error e => .error e
      | .ok _ => .ok (giv u.2.2 A B)
def opr (o : Ty × Ty) (ks : List (Nat × Ty)) : Rs Ty := match asks o.1 ks with
  | .error e => .error e
  | .ok _ => .ok o.2
def meetK (i : Nat) (all : Ty) (k : Nat × Ty) : Rs Ty := if cns all k.2 then (if sz (met all k.2) ≤ 64 then .ok (met all k.2) else .error (21, i)) else .error (25, k.1)
def meets (i : Nat) : Ty → List (Nat × Ty) → Rs Ty
  | all, [] => .ok all
  | all, k :: r => match meetK i all k with
    | .error e => .error e
    | .ok b => meets i b r
def made (i : Nat) (t : Ty) : Rs Ty := if sz t ≤ 64 then .ok t else .error (21, i)
/-- A node's type, of its kids' places and types. -/
def rule (env : Env) (x : Nd) (i : Nat) (ks : List (Nat × Ty)) : Rs Ty :=
  if x.kind = 4 then (match look env (nm x) with | none => .error (22, i) | some t => .ok t)
  else if x.kind = 5 ∨ x.kind = 6 then (match ks with | k :: _ => if cns k.2 (wr x.u) then .ok (.tf (wr x.t) (wr x.u)) else .error (23, k.1) | [] => .error (0, 0))
  else if x.kind = 8 then (match ks with | k :: b :: _ => if cns k.2 (wr x.t) then .ok b.2 else .error (23, k.1) | _ => .error (0, 0))
  else if x.kind = 29 then (match ks with | k :: _ => if cns k.2 (wr x.t) then .ok (wr x.t) else .error (23, i) | [] => .error (0, 0))
  else if x.kind = 9 then (match ks with | c :: a :: b :: _ => if cns c.2 .tb then meetK i a.2 b else .error (23, c.1) | _ => .error (0, 0))
  else if x.kind = 18 then (match ks with | a :: b :: _ => made i (.tp a.2 b.2) | _ => .error (0, 0))
  else if x.kind = 26 then (match ks with | a :: _ => made i (.tx a.2) | _ => .error (0, 0))
  else if x.kind = 21 then (match meets i .tq ks with | .error e => .error e | .ok t => made i (.tl t))
  else match useT x.kind with
    | some u => use u ks
    | none => opr (opT x.kind) ks
def ahead (x : Nd) : Bool := (x.kind == 5 || x.kind == 6) && decide (64 < sz (.tf (wr x.t) (wr x.u)))
mutual
/-- The types of a part's nodes, or the first refusal. -/
def ckT (env : Env) : T → Nat → Rs (List Ty)
  | .nd x ks, i => if ahead x then .error (21, i) else
    match ckL env x 0 ks (i + 1) with
    | .error e => .error e
    | .ok rs => match rule env x i (rs.map fun r => (r.1, r.2.headD .tq)) with
      | .error e => .error e
      | .ok t => .ok (t :: (rs.map Prod.snd).flatten)
def ckL (env : Env) (x : Nd) (j : Nat) : List T → Nat → Rs (List (Nat × List Ty))
  | [], _ => .ok []
  | t :: r, i => match ckT (inner x j env) t i with
    | .error e => .error e
    | .ok a => match ckL env x (j + 1) r (i + (Tr.flat t).length) with
      | .error e => .error e
      | .ok b => .ok ((i, a) :: b)
end
end Ck
end Go.Proofs.YthihnkgjkmaplaaDoor
namespace Go.Proofs.YthihnkgjkmaplaaDoor.T3
set_option maxRecDepth 100000
open Go.RowKit

theorem ret_bool {a b : Bool} (h : a = b) : Ending.returned (.bool a) = .returned (.bool b) := by rw [h]
theorem ret_int {a b : Int} (h : a = b) : Ending.returned (.int .i64 a) = .returned (.int .i64 b) := by rw [h]

set_option maxHeartbeats 400000 in
theorem partsOf_any (c : Int) (w : World) :
    Calls Tryd.prog 45 #[.int .u8 c] w fun e w' => e = .returned (.int .i64 (Tp.ar c)) ∧ w' = w := by
  go_enter Tryd.func45, Tryd.ntmps45
  go_wp2
  all_goals
    go_ret
    refine ⟨ret_int ?_, rfl⟩
    unfold Tp.ar
    simp_all

end Go.Proofs.YthihnkgjkmaplaaDoor.T3
