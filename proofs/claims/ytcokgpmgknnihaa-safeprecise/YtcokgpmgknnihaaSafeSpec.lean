/- Plain functions on types: what layer 4 of the document says of a cast from one type to another. Nothing of the program is named here. -/
import Derived.Test.YtcokgpmgknnihaaRelF
namespace Go.Proofs.Ytcokgpmgknnihaa
namespace Tp

def sz (t : Ty) : Nat := (enc t).length
theorem sz_pos (t : Ty) : 0 < sz t := enc_pos t
theorem sz_l (a : Ty) : sz (.tl a) = sz a + 1 := by simp [sz, enc]
theorem sz_x (a : Ty) : sz (.tx a) = sz a + 1 := by simp [sz, enc]
theorem sz_f (a b : Ty) : sz (.tf a b) = sz a + sz b + 1 := by simp [sz, enc]
theorem sz_p (a b : Ty) : sz (.tp a b) = sz a + sz b + 1 := by simp [sz, enc]
theorem sz_q : sz .tq = 1 := rfl

mutual
/-- Safe on the positive side. -/
def pls : Ty → Ty → Bool
  | _, .tq => true
  | .ti, .ti => true | .tb, .tb => true | .tt, .tt => true
  | .tf a b, .tf c d => mns c a && pls b d
  | .tp a b, .tp c d => pls a c && pls b d
  | .tl a, .tl c => pls a c
  | .tx a, .tx c => pls a c && mns c a
  | _, _ => false
termination_by s t => sz s + sz t
decreasing_by all_goals (simp only [sz_l, sz_x, sz_f, sz_p]; omega)
/-- Safe on the negative side. -/
def mns : Ty → Ty → Bool
  | .tf a b, .tq => pls .tq a && mns b .tq
  | .tp a b, .tq => mns a .tq && mns b .tq
  | .tl a, .tq => mns a .tq
  | .tx a, .tq => mns a .tq && pls .tq a
  | .tf a b, .tf c d => pls c a && mns b d
  | .tp a b, .tp c d => mns a c && mns b d
  | .tl a, .tl c => mns a c
  | .tx a, .tx c => mns a c && pls c a
  | _, _ => true
termination_by s t => sz s + sz t
decreasing_by all_goals (simp only [sz_l, sz_x, sz_f, sz_p, sz_q]; first | omega | (rename_i a b; have := sz_pos a; have := sz_pos b; omega) | (rename_i a; have := sz_pos a; omega))
end

theorem pls_q (s : Ty) : pls s .tq = true := by cases s <;> simp [pls]
theorem q_mns (t : Ty) : mns .tq t = true := by cases t <;> simp [mns]
theorem q_pls (t : Ty) : pls .tq t = isq t := by cases t <;> simp [pls, isq]

/-- No value is refused by its head alone. -/
def ask (s t : Ty) : Bool := isq t || decide (hd s = hd t)
/-- What is asked of who gives, and of who uses, the value: of a cast, or of casts both ways. -/
def wx (both : Bool) (s t : Ty) : Bool := pls s t && (!both || mns t s)
def wy (both : Bool) (s t : Ty) : Bool := mns s t && (!both || pls t s)
def grT : Ty → Ty
  | .tf _ _ => .tf .tq .tq
  | .tp _ _ => .tp .tq .tq
  | .tl _ => .tl .tq
  | .tx _ => .tx .tq
  | t => t
def up (s t : Ty) : Ty := if t = .tq then grT s else t
theorem enc_grT (s : Ty) (h : s ≠ .tq) : gr s = enc (grT s) := by cases s <;> first | rfl | exact absurd rfl h
theorem hd_grT (s : Ty) : hd (grT s) = hd s := by cases s <;> rfl

theorem w_ne {s t : Ty} (both : Bool) (h : hd s ≠ hd (up s t)) : wx both s t = ask s t ∧ wy both s t = (!both || ask t s) := by
  by_cases ht : t = .tq
  · subst ht; exact absurd (hd_grT s).symm (by simpa [up] using h)
  · rw [up, if_neg ht] at h
    cases s <;> cases t <;> simp_all [hd, wx, wy, ask, isq, pls, mns]
theorem w_leaf {s t : Ty} (both : Bool) (h : hd s = hd (up s t)) (hk : kids s = []) : wx both s t = ask s t ∧ wy both s t = (!both || ask t s) := by
  cases s <;> simp [kids] at hk <;> cases t <;> simp_all [hd, up, grT, wx, wy, ask, isq, pls, mns]
theorem w_l {a c t : Ty} (both : Bool) (h : up (.tl a) t = .tl c) : wx both (.tl a) t = (ask (.tl a) t && wx both a c) ∧ wy both (.tl a) t = ((!both || ask t (.tl a)) && wy both a c) := by
  cases t <;> simp [up, grT] at h <;> subst h
  · cases both <;> simp [wx, wy, ask, isq, pls, mns, pls_q, q_mns, hd]
  · simp [wx, wy, ask, isq, pls, mns, hd]
theorem w_x {a c t : Ty} (both : Bool) (h : up (.tx a) t = .tx c) : wx both (.tx a) t = (ask (.tx a) t && wx true a c) ∧ wy both (.tx a) t = ((!both || ask t (.tx a)) && wy true a c) := by
  cases t <;> simp [up, grT] at h <;> subst h
  · cases both <;> simp [wx, wy, ask, isq, pls, mns, pls_q, q_mns, hd]
  · cases both <;> simp [wx, wy, ask, isq, pls, mns, hd]
    constructor <;> (intro h1 h2; simp [h1, h2])
theorem w_p {a b c d t : Ty} (both : Bool) (h : up (.tp a b) t = .tp c d) : wx both (.tp a b) t = (ask (.tp a b) t && wx both a c && wx both b d) ∧ wy both (.tp a b) t = ((!both || ask t (.tp a b)) && wy both a c && wy both b d) := by
  cases t <;> simp [up, grT] at h <;> obtain ⟨rfl, rfl⟩ := h
  · cases both <;> simp [wx, wy, ask, isq, pls, mns, pls_q, q_mns, hd]
  · cases both <;> simp [wx, wy, ask, isq, pls, mns, hd]
    constructor <;> (rw [Bool.eq_iff_iff]; simp; constructor <;> (intro h; simp [h]))
theorem w_f {a b c d t : Ty} (both : Bool) (h : up (.tf a b) t = .tf c d) : wx both (.tf a b) t = (ask (.tf a b) t && wy both c a && wx both b d) ∧ wy both (.tf a b) t = ((!both || ask t (.tf a b)) && wx both c a && wy both b d) := by
  cases t <;> simp [up, grT] at h <;> obtain ⟨rfl, rfl⟩ := h
  · cases both <;> simp [wx, wy, ask, isq, pls, mns, pls_q, q_mns, hd]
  · cases both <;> simp [wx, wy, ask, isq, pls, mns, hd]
    constructor <;> (rw [Bool.eq_iff_iff]; simp; constructor <;> (intro h; simp [h]))

/-- Precision is safety on two sides. -/
theorem prc_safe : ∀ s t : Ty, prc s t = (pls s t && mns t s) := by
  intro s
  induction s with
  | ti | tb | tt | tq => intro t; cases t <;> simp [prc, pls, mns]
  | tl a ih => intro t; cases t <;> simp [prc, pls, mns, ih]
  | tx a ih =>
    intro t; cases t <;> simp [prc, pls, mns, ih]
    intro h1 h2; simp [h1, h2]
  | tf a b iha ihb | tp a b iha ihb =>
    intro t; cases t <;> simp [prc, pls, mns, iha, ihb]
    rw [Bool.eq_iff_iff]; simp; constructor <;> (intro h; simp [h])
theorem safe_refl : ∀ s : Ty, pls s s = true ∧ mns s s = true
  | .ti | .tb | .tt | .tq => by simp [pls, mns]
  | .tl a | .tx a => by simp [pls, mns, safe_refl a]
  | .tf a b | .tp a b => by simp [pls, mns, safe_refl a, safe_refl b]
theorem mns_ground (s : Ty) : mns (grT s) .tq = true ∧ mns s .tq = mns s (grT s) := by
  cases s <;> simp [grT, mns, pls]
end Tp
end Go.Proofs.Ytcokgpmgknnihaa
