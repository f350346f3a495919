/- Plain functions on types: what layer 3 of the document says of two types, and of a step looser. Nothing of the program is named here. What the program's check of texts, and its settling closures, answer. What the program's Height answers. -/
import Derived.Test.YtnhihajhhlilfaaMgaa
import Derived.Test.YtnhihajhhlilfaaMgac
import Derived.Deep.CutRange
import Derived.Deep.DeepCutAuto
namespace Go.Proofs.Ytnhihajhhlilfaa.T3
namespace Tp


/-- Consistent: agree wherever both are known. -/
def cns : Ty → Ty → Bool
  | .tq, _ => true
  | _, .tq => true
  | .ti, .ti => true | .tb, .tb => true | .tt, .tt => true
  | .tl a, .tl c => cns a c
  | .tx a, .tx c => cns a c
  | .tf a b, .tf c d => cns a c && cns b d
  | .tp a b, .tp c d => cns a c && cns b d
  | _, _ => false
/-- The first is at least as precise as the second. -/
def prc : Ty → Ty → Bool
  | _, .tq => true
  | .ti, .ti => true | .tb, .tb => true | .tt, .tt => true
  | .tl a, .tl c => prc a c
  | .tx a, .tx c => prc a c
  | .tf a b, .tf c d => prc a c && prc b d
  | .tp a b, .tp c d => prc a c && prc b d
  | _, _ => false
/-- The meet of consistent types. -/
def met : Ty → Ty → Ty
  | .tq, t => t
  | s, .tq => s
  | .tl a, .tl c => .tl (met a c)
  | .tx a, .tx c => .tx (met a c)
  | .tf a b, .tf c d => .tf (met a c) (met b d)
  | .tp a b, .tp c d => .tp (met a c) (met b d)
  | s, _ => s
def joi : Ty → Ty → Ty
  | .ti, .ti => .ti | .tb, .tb => .tb | .tt, .tt => .tt
  | .tl a, .tl c => .tl (joi a c)
  | .tx a, .tx c => .tx (joi a c)
  | .tf a b, .tf c d => .tf (joi a c) (joi b d)
  | .tp a b, .tp c d => .tp (joi a c) (joi b d)
  | _, _ => .tq

theorem cns_qr (s : Ty) : cns s .tq = true := by cases s <;> rfl
theorem cns_ql (s : Ty) : cns .tq s = true := by cases s <;> rfl
theorem prc_q (s : Ty) : prc s .tq = true := by cases s <;> rfl
theorem q_prc {s : Ty} (h : prc .tq s = true) : s = .tq := by cases s <;> simp [prc] at h ⊢
theorem prc_refl : ∀ s : Ty, prc s s = true
  | .ti | .tb | .tt | .tq => rfl
  | .tl a | .tx a => by simpa [prc] using prc_refl a
  | .tf a b | .tp a b => by simp [prc, prc_refl a, prc_refl b]
theorem prc_anti : ∀ {s t : Ty}, prc s t = true → prc t s = true → s = t := by
  intro s
  induction s with
  | ti | tb | tt | tq => intro t h k; cases t <;> simp [prc] at h k ⊢
  | tl a ih | tx a ih => intro t h k; cases t <;> simp [prc] at h k ⊢; exact ih h k
  | tf a b iha ihb | tp a b iha ihb => intro t h k; cases t <;> simp [prc] at h k ⊢; exact ⟨iha h.1 k.1, ihb h.2 k.2⟩
theorem prc_trans : ∀ {s t u : Ty}, prc s t = true → prc t u = true → prc s u = true := by
  intro s
  induction s with
  | ti | tb | tt | tq => intro t u h k; cases t <;> cases u <;> simp [prc] at h k ⊢
  | tl a ih | tx a ih => intro t u h k; cases t <;> cases u <;> simp [prc] at h k ⊢; exact ih h k
  | tf a b iha ihb | tp a b iha ihb => intro t u h k; cases t <;> cases u <;> simp [prc] at h k ⊢; exact ⟨iha h.1 k.1, ihb h.2 k.2⟩
theorem cns_symm : ∀ (s t : Ty), cns s t = cns t s := by
  intro s
  induction s with
  | ti | tb | tt | tq => intro t; cases t <;> rfl
  | tl a ih | tx a ih => intro t; cases t <;> simp [cns]; exact ih _
  | tf a b iha ihb | tp a b iha ihb => intro t; cases t <;> simp [cns]; rw [iha, ihb]
theorem prc_cns : ∀ {s t : Ty}, prc s t = true → cns s t = true := by
  intro s
  induction s with
  | ti | tb | tt | tq => intro t h; cases t <;> simp [prc, cns] at h ⊢
  | tl a ih | tx a ih => intro t h; cases t <;> simp [prc, cns] at h ⊢; exact ih h
  | tf a b iha ihb | tp a b iha ihb => intro t h; cases t <;> simp [prc, cns] at h ⊢; exact ⟨iha h.1, ihb h.2⟩
def sta : Ty → Bool
  | .ti | .tb | .tt => true
  | .tq => false
  | .tl a | .tx a => sta a
  | .tf a b | .tp a b => sta a && sta b
theorem cns_sta : ∀ {s t : Ty}, sta s = true → sta t = true → cns s t = decide (s = t) := by
  intro s
  induction s with
  | ti | tb | tt | tq => intro t h k; cases t <;> simp [sta, cns] at h k ⊢
  | tl a ih | tx a ih => intro t h k; cases t <;> simp [sta, cns] at h k ⊢; exact ih h k
  | tf a b iha ihb | tp a b iha ihb =>
    intro t h k
    cases t <;> simp [sta, cns] at h k ⊢
    rw [iha h.1 k.1, ihb h.2 k.2]
theorem met_symm : ∀ {s t : Ty}, cns s t = true → met s t = met t s := by
  intro s
  induction s with
  | ti | tb | tt | tq => intro t h; cases t <;> simp [cns, met] at h ⊢
  | tl a ih | tx a ih => intro t h; cases t <;> simp [cns, met] at h ⊢; exact ih h
  | tf a b iha ihb | tp a b iha ihb => intro t h; cases t <;> simp [cns, met] at h ⊢; exact ⟨iha h.1, ihb h.2⟩
theorem met_l : ∀ {s t : Ty}, cns s t = true → prc (met s t) s = true := by
  intro s
  induction s with
  | ti | tb | tt | tq => intro t h; cases t <;> simp [cns, met, prc, prc_refl] at h ⊢
  | tl a ih | tx a ih => intro t h; cases t <;> simp [cns, met, prc, prc_refl] at h ⊢; exact ih h
  | tf a b iha ihb | tp a b iha ihb => intro t h; cases t <;> simp [cns, met, prc, prc_refl] at h ⊢; exact ⟨iha h.1, ihb h.2⟩
theorem met_r {s t : Ty} (h : cns s t = true) : prc (met s t) t = true := by
  rw [met_symm h]; exact met_l (by rw [cns_symm]; exact h)
theorem met_best : ∀ {u s t : Ty}, prc u s = true → prc u t = true → cns s t = true ∧ prc u (met s t) = true := by
  intro u
  induction u with
  | ti | tb | tt | tq => intro s t h k; cases s <;> cases t <;> simp [cns, met, prc] at h k ⊢
  | tl a ih | tx a ih => intro s t h k; cases s <;> cases t <;> simp [cns, met, prc] at h k ⊢ <;> first | exact h | exact k | exact ih h k
  | tf a b iha ihb | tp a b iha ihb =>
    intro s t h k
    cases s <;> cases t <;> simp [cns, met, prc] at h k ⊢ <;> first | exact h | exact k | exact ⟨⟨(iha h.1 k.1).1, (ihb h.2 k.2).1⟩, (iha h.1 k.1).2, (ihb h.2 k.2).2⟩
theorem joi_symm : ∀ (s t : Ty), joi s t = joi t s := by
  intro s
  induction s with
  | ti | tb | tt | tq => intro t; cases t <;> rfl
  | tl a ih | tx a ih => intro t; cases t <;> simp [joi]; exact ih _
  | tf a b iha ihb | tp a b iha ihb => intro t; cases t <;> simp [joi]; exact ⟨iha _, ihb _⟩
theorem joi_l : ∀ (s t : Ty), prc s (joi s t) = true := by
  intro s
  induction s with
  | ti | tb | tt | tq => intro t; cases t <;> rfl
  | tl a ih | tx a ih => intro t; cases t <;> simp [joi, prc]; exact ih _
  | tf a b iha ihb | tp a b iha ihb => intro t; cases t <;> simp [joi, prc]; exact ⟨iha _, ihb _⟩
theorem joi_r (s t : Ty) : prc t (joi s t) = true := by rw [joi_symm]; exact joi_l t s
theorem joi_best : ∀ {s t u : Ty}, prc s u = true → prc t u = true → prc (joi s t) u = true := by
  intro s
  induction s with
  | ti | tb | tt | tq => intro t u h k; cases t <;> cases u <;> simp [joi, prc] at h k ⊢
  | tl a ih | tx a ih => intro t u h k; cases t <;> cases u <;> simp [joi, prc] at h k ⊢; exact ih h k
  | tf a b iha ihb | tp a b iha ihb => intro t u h k; cases t <;> cases u <;> simp [joi, prc] at h k ⊢; exact ⟨iha h.1 k.1, ihb h.2 k.2⟩
theorem prc_len : ∀ {s t : Ty}, prc s t = true → (enc t).length ≤ (enc s).length := by
  intro s
  induction s with
  | ti | tb | tt | tq => intro t h; cases t <;> simp [prc, enc] at h ⊢
  | tl a ih | tx a ih => intro t h; cases t <;> simp [prc, enc] at h ⊢; exact ih h
  | tf a b iha ihb | tp a b iha ihb =>
    intro t h; cases t <;> simp [prc, enc] at h ⊢
    have := iha h.1; have := ihb h.2; omega
theorem joi_len (s t : Ty) : (enc (joi s t)).length ≤ (enc s).length := prc_len (joi_l s t)

/-- All steps looser, by their place, from the left. -/
def loo : Ty → List Ty
  | .ti | .tb | .tt => [.tq]
  | .tq => []
  | .tl a => if a = .tq then [.tq] else (loo a).map .tl
  | .tx a => if a = .tq then [.tq] else (loo a).map .tx
  | .tf a b => if a = .tq ∧ b = .tq then [.tq] else (loo a).map (.tf · b) ++ (loo b).map (.tf a ·)
  | .tp a b => if a = .tq ∧ b = .tq then [.tq] else (loo a).map (.tp · b) ++ (loo b).map (.tp a ·)
/-- How much is known. -/
def kno : Ty → Nat
  | .ti | .tb | .tt => 1
  | .tq => 0
  | .tl a | .tx a => kno a + 1
  | .tf a b | .tp a b => kno a + kno b + 1
theorem kno_q {t : Ty} (h : kno t = 0) : t = .tq := by cases t <;> simp [kno] at h ⊢
theorem kno_len : ∀ t : Ty, kno t ≤ (enc t).length
  | .ti | .tb | .tt | .tq => by decide
  | .tl a | .tx a => by have := kno_len a; simp [kno, enc]; omega
  | .tf a b | .tp a b => by have := kno_len a; have := kno_len b; simp [kno, enc]; omega
theorem loo_kno : ∀ {t u : Ty}, u ∈ loo t → kno u + 1 = kno t := by
  intro t
  induction t with
  | ti | tb | tt | tq => intro u h; simp [loo] at h <;> subst h <;> rfl
  | tl a ih | tx a ih =>
    intro u h
    unfold loo at h
    split at h
    · rename_i e; subst e; simp at h; subst h; rfl
    · obtain ⟨x, hx, rfl⟩ := List.mem_map.1 h
      have := ih hx; simp [kno]; omega
  | tf a b iha ihb | tp a b iha ihb =>
    intro u h
    unfold loo at h
    split at h
    · rename_i e; obtain ⟨rfl, rfl⟩ := e; simp at h; subst h; rfl
    · rcases List.mem_append.1 h with h | h
      · obtain ⟨x, hx, rfl⟩ := List.mem_map.1 h
        have := iha hx; simp [kno]; omega
      · obtain ⟨x, hx, rfl⟩ := List.mem_map.1 h
        have := ihb hx; simp [kno]; omega
theorem loo_prc : ∀ {t u : Ty}, u ∈ loo t → prc t u = true := by
  intro t
  induction t with
  | ti | tb | tt | tq => intro u h; simp [loo] at h <;> subst h <;> rfl
  | tl a ih | tx a ih =>
    intro u h
    unfold loo at h
    split at h
    · rename_i e; subst e; simp at h; subst h; rfl
    · obtain ⟨x, hx, rfl⟩ := List.mem_map.1 h
      simpa [prc] using ih hx
  | tf a b iha ihb | tp a b iha ihb =>
    intro u h
    unfold loo at h
    split at h
    · rename_i e; obtain ⟨rfl, rfl⟩ := e; simp at h; subst h; rfl
    · rcases List.mem_append.1 h with h | h
      · obtain ⟨x, hx, rfl⟩ := List.mem_map.1 h
        simp [prc, iha hx, prc_refl]
      · obtain ⟨x, hx, rfl⟩ := List.mem_map.1 h
        simp [prc, ihb hx, prc_refl]
theorem prc_kno : ∀ {s t : Ty}, prc s t = true → kno t ≤ kno s := by
  intro s
  induction s with
  | ti | tb | tt | tq => intro t h; cases t <;> simp [prc, kno] at h ⊢
  | tl a ih | tx a ih => intro t h; cases t <;> simp [prc, kno] at h ⊢; exact ih h
  | tf a b iha ihb | tp a b iha ihb =>
    intro t h; cases t <;> simp [prc, kno] at h ⊢
    have := iha h.1; have := ihb h.2; omega
theorem loo_strict {t u : Ty} (h : u ∈ loo t) : prc u t = false := by
  cases e : prc u t with
  | false => rfl
  | true => have := prc_kno e; have := loo_kno h; omega
theorem prc_high : ∀ {s t : Ty}, prc s t = true → high t ≤ high s := by
  intro s
  induction s with
  | ti | tb | tt | tq => intro t h; cases t <;> simp [prc, high] at h ⊢
  | tl a ih | tx a ih => intro t h; cases t <;> simp [prc, high] at h ⊢; exact ih h
  | tf a b iha ihb | tp a b iha ihb =>
    intro t h; cases t <;> simp [prc, high] at h ⊢
    have := iha h.1; have := ihb h.2; omega
/-- What is not ? has a step looser. -/
theorem loo_some : ∀ {t : Ty}, t ≠ .tq → ∃ u, u ∈ loo t := by
  intro t
  induction t with
  | ti | tb | tt => intro _; exact ⟨.tq, by simp [loo]⟩
  | tq => intro h; exact absurd rfl h
  | tl a ih =>
    intro _
    by_cases e : a = .tq
    · exact ⟨.tq, by simp [loo, e]⟩
    · obtain ⟨u, hu⟩ := ih e
      exact ⟨.tl u, by simp [loo, e]; exact hu⟩
  | tx a ih =>
    intro _
    by_cases e : a = .tq
    · exact ⟨.tq, by simp [loo, e]⟩
    · obtain ⟨u, hu⟩ := ih e
      exact ⟨.tx u, by simp [loo, e]; exact hu⟩
  | tf a b iha ihb =>
    intro _
    by_cases e : a = .tq ∧ b = .tq
    · exact ⟨.tq, by simp [loo, e]⟩
    · by_cases ea : a = .tq
      · obtain ⟨u, hu⟩ := ihb (fun eb => e ⟨ea, eb⟩)
        exact ⟨.tf a u, by unfold loo; rw [if_neg e]; exact List.mem_append_right _ (List.mem_map.2 ⟨u, hu, rfl⟩)⟩
      · obtain ⟨u, hu⟩ := iha ea
        exact ⟨.tf u b, by unfold loo; rw [if_neg e]; exact List.mem_append_left _ (List.mem_map.2 ⟨u, hu, rfl⟩)⟩
  | tp a b iha ihb =>
    intro _
    by_cases e : a = .tq ∧ b = .tq
    · exact ⟨.tq, by simp [loo, e]⟩
    · by_cases ea : a = .tq
      · obtain ⟨u, hu⟩ := ihb (fun eb => e ⟨ea, eb⟩)
        exact ⟨.tp a u, by unfold loo; rw [if_neg e]; exact List.mem_append_right _ (List.mem_map.2 ⟨u, hu, rfl⟩)⟩
      · obtain ⟨u, hu⟩ := iha ea
        exact ⟨.tp u b, by unfold loo; rw [if_neg e]; exact List.mem_append_left _ (List.mem_map.2 ⟨u, hu, rfl⟩)⟩
/-- From a type a step looser leads towards each less precise one. -/
theorem loo_near : ∀ {s t : Ty}, prc s t = true → s ≠ t → ∃ u, u ∈ loo s ∧ prc u t = true := by
  intro s
  induction s with
  | ti | tb | tt | tq => intro t h hne; cases t <;> simp [prc, loo] at h hne ⊢
  | tl a ih =>
    intro t h hne
    cases t with
    | tq => obtain ⟨u, hu⟩ := loo_some (t := .tl a) (by simp); exact ⟨u, hu, prc_q u⟩
    | tl c =>
      simp [prc] at h hne
      obtain ⟨u, hu, hp⟩ := ih h hne
      have e : a ≠ .tq := by rintro rfl; simp [loo] at hu
      exact ⟨.tl u, by simp [loo, e]; exact hu, by simpa [prc] using hp⟩
    | _ => simp [prc] at h
  | tx a ih =>
    intro t h hne
    cases t with
    | tq => obtain ⟨u, hu⟩ := loo_some (t := .tx a) (by simp); exact ⟨u, hu, prc_q u⟩
    | tx c =>
      simp [prc] at h hne
      obtain ⟨u, hu, hp⟩ := ih h hne
      have e : a ≠ .tq := by rintro rfl; simp [loo] at hu
      exact ⟨.tx u, by simp [loo, e]; exact hu, by simpa [prc] using hp⟩
    | _ => simp [prc] at h
  | tf a b iha ihb =>
    intro t h hne
    cases t with
    | tq => obtain ⟨u, hu⟩ := loo_some (t := .tf a b) (by simp); exact ⟨u, hu, prc_q u⟩
    | tf c d =>
      simp [prc] at h hne
      by_cases ea : a = c
      · obtain ⟨u, hu, hp⟩ := ihb h.2 (hne ea)
        have e : ¬ (a = .tq ∧ b = .tq) := by rintro ⟨_, rfl⟩; simp [loo] at hu
        exact ⟨.tf a u, by unfold loo; rw [if_neg e]; exact List.mem_append_right _ (List.mem_map.2 ⟨u, hu, rfl⟩), by simp [prc, h.1, hp]⟩
      · obtain ⟨u, hu, hp⟩ := iha h.1 ea
        have e : ¬ (a = .tq ∧ b = .tq) := by rintro ⟨rfl, _⟩; simp [loo] at hu
        exact ⟨.tf u b, by unfold loo; rw [if_neg e]; exact List.mem_append_left _ (List.mem_map.2 ⟨u, hu, rfl⟩), by simp [prc, h.2, hp]⟩
    | _ => simp [prc] at h
  | tp a b iha ihb =>
    intro t h hne
    cases t with
    | tq => obtain ⟨u, hu⟩ := loo_some (t := .tp a b) (by simp); exact ⟨u, hu, prc_q u⟩
    | tp c d =>
      simp [prc] at h hne
      by_cases ea : a = c
      · obtain ⟨u, hu, hp⟩ := ihb h.2 (hne ea)
        have e : ¬ (a = .tq ∧ b = .tq) := by rintro ⟨_, rfl⟩; simp [loo] at hu
        exact ⟨.tp a u, by unfold loo; rw [if_neg e]; exact List.mem_append_right _ (List.mem_map.2 ⟨u, hu, rfl⟩), by simp [prc, h.1, hp]⟩
      · obtain ⟨u, hu, hp⟩ := iha h.1 ea
        have e : ¬ (a = .tq ∧ b = .tq) := by rintro ⟨rfl, _⟩; simp [loo] at hu
        exact ⟨.tp u b, by unfold loo; rw [if_neg e]; exact List.mem_append_left _ (List.mem_map.2 ⟨u, hu, rfl⟩), by simp [prc, h.2, hp]⟩
    | _ => simp [prc] at h
end Tp
end Go.Proofs.Ytnhihajhhlilfaa.T3
namespace Go.Proofs.Ytnhihajhhlilfaa.T3
set_option maxRecDepth 100000
open Go.RowKit

theorem toList_S (l : List UInt8) : (S l).toList = l := by rw [ByteArray.toList_eq]; rfl
namespace Tp
def isq (t : Ty) : Bool := decide (t = .tq)
theorem isq_S (t : Ty) : ((S (enc t)).toList == [63]) = isq t := by
  rw [toList_S]
  cases t <;> simp [enc, isq]
end Tp

set_option maxHeartbeats 1000000 in
theorem rcheck_any (v : Value) (ps : List (List UInt8)) (w : World) (hv : IsTexts w v ps) (hp : ps.length ≤ 2) :
    Calls Try.prog 87 #[v] w fun e w' => e = .returned (.int .i64 (Tp.firstBad ps)) ∧ w' = w := by
  obtain ⟨a, c, rfl⟩ : ∃ a c, v = .slice a ps.length c := by
    rcases hv with ⟨rfl, a, c, rfl⟩ | ⟨b, o, c, rfl, _⟩
    · exact ⟨a, c, rfl⟩
    · exact ⟨_, c, rfl⟩
  go_enter Try.func87, Try.ntmps87
  go_wp2_with fail
  go_loopg [9] ps.length (fun g t wr => w = wr ∧ ∃ k : Nat, k + g = ps.length ∧ t = .int .i64 k ∧ Aside (Tp.firstBad (ps.take k) = 0))
  case atStart => exact ⟨rfl, 0, by omega, rfl, rfl⟩
  case round =>
    obtain ⟨rfl, k, hkg, rfl, HF⟩ := hrel
    by_cases hk : k < ps.length
    · have hk' : (k : Int) < (ps.length : Int) := by omega
      obtain ⟨b, o, c, hsl, hcap, hbl, hcell⟩ : ∃ b o c', Value.slice a ps.length c = .slice (some ⟨b, o, none⟩) ps.length c' ∧ ps.length ≤ c' ∧ b < w.heap.size ∧ ∀ j p, ps[j]? = some p → w.cell? ⟨b, o + j, none⟩ = some (.string (S p)) := by
        rcases hv with ⟨rfl, _⟩ | h
        · simp at hk
        · exact h
      obtain ⟨rfl, rfl⟩ : a = some ⟨b, o, none⟩ ∧ _ := by simpa using hsl
      have hck := hcell k _ (List.getElem?_eq_getElem hk)
      have HT : Aside (ps.take (k + 1) = ps.take k ++ [ps[k]]) := List.take_succ_eq_append_getElem hk
      generalize hpk : ps[k] = q at *
      clear hcell
      by_cases hq : (Tp.chk q).1 = 0
      · have hq' : (((Tp.chk (S q).data.toList).1 : Int) != 0) = false := by rw [S_list]; simpa using hq
        have HF2 : Aside (Tp.firstBad (ps.take (k + 1)) = 0) := by
          show _ = _
          rw [HT.out, Tp.firstBad_app _ _ HF.out, Tp.firstBad, if_pos hq]; rfl
        go_wp2_with (go_at_call 73; refine (check_any _ _).mono ?_; rintro e w' ⟨rfl, hw'⟩; replace hw' := hw'.symm; subst hw')
        go_roundg (gk - 1)
        case measure => omega
        case rel => exact ⟨rfl, k + 1, by omega, by go_num, HF2⟩
      · have hq' : (((Tp.chk (S q).data.toList).1 : Int) != 0) = true := by rw [S_list]; simpa using hq
        have HN : Aside (Tp.firstBad ps = (Tp.chk q).1) := by
          show _ = _
          have h1 : ps = ps.take k ++ (q :: ps.drop (k + 1)) := by
            rw [← hpk, ← List.drop_eq_getElem_cons hk, List.take_append_drop]
          rw [h1, Tp.firstBad_app _ _ HF.out, Tp.firstBad, if_neg hq]
        go_wp2_with (go_at_call 73; refine (check_any _ _).mono ?_; rintro e w' ⟨rfl, rfl⟩)
        go_ret
        rw [HN.out]
        exact ⟨rfl, rfl⟩
    · have hk' : decide ((k : Int) < (ps.length : Int)) = false := by simp; omega
      obtain rfl : k = ps.length := by omega
      rw [List.take_length] at HF
      go_wp2_with fail
      go_ret
      rw [HF.out]
      exact ⟨rfl, rfl⟩

set_option maxHeartbeats 400000 in
theorem cons1_any (a b : Tp.Ty) (w : World) :
    Calls Try.prog 75 #[.string (S (Tp.enc a)), .string (S (Tp.enc b))] w fun e w' => e = .returned (.bool (Tp.isq a || Tp.isq b)) ∧ w' = w := by
  rw [← Tp.isq_S a, ← Tp.isq_S b]
  generalize S (Tp.enc a) = s at *
  generalize S (Tp.enc b) = t at *
  go_enter Try.func75, Try.ntmps75
  go_wp2
  all_goals
    go_ret
    refine ⟨ret_bool ?_, rfl⟩
    simp_all
end Go.Proofs.Ytnhihajhhlilfaa.T3
namespace Go.Proofs.Ytnhihajhhlilfaa.T3
set_option maxRecDepth 100000
open Go.RowKit

namespace Tp
def mx : List Ty → Nat
  | [] => 0
  | a :: r => max (high a) (mx r)
theorem mx_app : ∀ (a b : List Ty), mx (a ++ b) = max (mx a) (mx b)
  | [], b => by simp [mx]
  | x :: r, b => by rw [List.cons_append, mx, mx, mx_app r b]; omega
theorem high_mx (t : Ty) : high t = mx (kids t) + 1 := by cases t <;> simp [high, kids, mx]
theorem mx_take {ks : List Ty} {k : Nat} {u : Ty} (h : ks[k]? = some u) : mx (ks.take (k + 1)) = max (mx (ks.take k)) (high u) := by
  rw [List.take_add_one, h, mx_app]; simp [mx]
theorem high_le : ∀ t : Ty, high t ≤ (enc t).length
  | .ti | .tb | .tt | .tq => by decide
  | .tl a => by have := high_le a; simp [high, enc]; omega
  | .tx a => by have := high_le a; simp [high, enc]; omega
  | .tf a b => by have := high_le a; have := high_le b; simp [high, enc]; omega
  | .tp a b => by have := high_le a; have := high_le b; simp [high, enc]; omega
end Tp

theorem own_at {W : World} {base n : Nat} {v : Value} {ps : List (List UInt8)} (h : W.ownsRow base 9 1 v n (tcells ps)) (hn : n = ps.length) : IsTexts W v ps := by subst hn; exact IsTexts.own h

end Go.Proofs.Ytnhihajhhlilfaa.T3
