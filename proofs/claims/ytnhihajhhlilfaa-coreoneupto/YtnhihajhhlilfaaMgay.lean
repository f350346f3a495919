/- Package core: askEach. -/
import Derived.Test.YtnhihajhhlilfaaMgax
namespace Go.Proofs.Ytnhihajhhlilfaa
open Go.RowKit Co
open T3.Tp (Ty enc cns)
open Tr (T flat flats)
set_option maxRecDepth 100000
set_option linter.unusedSimpArgs false

theorem texts_len {w : World} {v : Value} {ps : List (List UInt8)} (h : T3.IsTexts w v ps) : ∃ a c, v = .slice a ps.length c := h.form
theorem texts_at {w : World} {a : Option Addr} {c : Nat} {ts : List Ty} (h : T3.IsTexts w (.slice a ts.length c) (ts.map enc)) {k : Nat} {t : Ty} (ht : ts[k]? = some t) : ∃ b o, a = some ⟨b, o, none⟩ ∧ ts.length ≤ c ∧ b < w.heap.size ∧ w.cell? ⟨b, o + k, none⟩ = some (.string (S (enc t))) := by
  have := T3.IsTexts.at h (k := k) (p := enc t) (by rw [List.getElem?_map, ht]; rfl)
  exact this
/-- What askEach tells. -/
def aeR (τ : Ty) (i : Nat) : Rs (List Ty) → Rs Unit
  | .error q => .error q
  | .ok ts => if allT τ ts then .ok () else .error (23, i)
def AeEnd (B : Nat) (w : World) (cb : Nat) (nv bv : Value) (l : List Tr.Nd) (rb j : Nat) (env : List Ty) (r : Rs Unit) (e : Ending) (w' : World) : Prop := match r with
  | .error q => e = .panicked (thC q.1 q.2) ∧ Fr cb bv w w'
  | .ok _ => e = .returned (.tuple #[]) ∧ ∃ bv', Cs B w' cb nv bv' l rb j env ∧ Mv cb w bv w' bv'
theorem allT_take {τ : Ty} {ts : List Ty} {k : Nat} {t : Ty} (h : ts[k]? = some t) : allT τ (ts.take (k + 1)) = (allT τ (ts.take k) && decide (t = τ)) := by
  unfold allT
  rw [List.take_add_one, h]
  simp
theorem allT_false {τ : Ty} {ts : List Ty} {k : Nat} {t : Ty} (h : ts[k]? = some t) (hne : t ≠ τ) : allT τ ts = false := by
  unfold allT
  rw [Bool.eq_false_iff]
  intro hh
  have := List.all_eq_true.1 hh t (List.mem_of_getElem? h)
  simp at this
  exact hne this

set_option maxHeartbeats 4000000 in
theorem askEach_any (B cb : Nat) (nv : Value) (l : List Tr.Nd) (rb N : Nat) (hl : l.length ≤ 16384) (hP : PartC B cb nv l rb N) (x : Tr.Nd) (ks : List T) (i : Nat) (rest : List Tr.Nd) (env : List Ty) (bv : Value) (w : World)
    (hx : l[i]? = some x) (hk : x.kids = ks.length) (hw : wfsC ks) (hN : (flats ks).length ≤ N) (hd : l.drop (i + 1) = flats ks ++ rest) (hE : EnvOk env) (hen : env.length ≤ 2 * (i + 1)) (hC : Cs B w cb nv bv l rb (i + 1) env) (τ : Ty) :
    Calls Try.prog 63 #[.pointer (some ⟨cb, 0, none⟩), .int .i64 (i : Int), .string (S (enc τ))] w (AeEnd B w cb nv bv l rb (i + 1 + (flats ks).length) env (aeR τ i (tyL env ks (i + 1)))) := by
  have hPs := parts_any B cb nv l rb N hl hP x ks i rest env bv w hx hk hw hN hd hE hen hC
  have hil : i < l.length := (List.getElem?_eq_some_iff.1 hx).1
  have hlen : ∀ ts, tyL env ks (i + 1) = .ok ts → ts.length ≤ 16384 := by
    intro ts h
    have key : ∀ (ks : List T) (p : Nat) (ts : List Ty), tyL env ks p = .ok ts → ts.length = ks.length := by
      intro ks
      induction ks with
      | nil => intro p ts h; rw [tyL] at h; cases h; rfl
      | cons a r ih =>
        intro p ts h
        rw [tyL] at h
        split at h
        · cases h
        · split at h
          · cases h
          · rename_i b hb; cases h; simp [ih _ _ hb]
    have := key ks _ ts h
    have e1 := congrArg List.length hd
    have e2 := kids_le ks
    simp at e1; omega
  have cy := casks_yes τ
  have cn := fun t h => casks_no t τ h
  generalize (flats ks).length = m at *
  clear hP hx hk hw hN hd hE hen hC
  generalize tyL env ks (i + 1) = R at *
  cases R with
  | error q =>
    have HF : Aside (∀ e w3, PsEnd B w cb nv bv l rb (i + 1 + m) env (.error q) e w3 → e = .panicked (thC q.1 q.2) ∧ AeEnd B w cb nv bv l rb (i + 1 + m) env (aeR τ i (.error q)) e w3) := fun e w3 h => ⟨h.1, h⟩
    go_enter Try.func63, Try.ntmps63
    go_wp2_with fail
    refine hPs.mono ?_
    intro e w3 h3
    obtain ⟨rfl, h4⟩ := HF.out e w3 h3
    clear hPs HF h3
    go_wp2_with fail
    exact ⟨rfl, h4⟩
  | ok ts =>
    have hlen := hlen ts rfl
    go_enter Try.func63, Try.ntmps63
    go_wp2_with fail
    refine hPs.mono ?_
    rintro e w3 ⟨v, bv', rfl, hT, hC3, hM3⟩
    obtain ⟨va, vc, hv⟩ := texts_len hT
    rw [List.length_map] at hv
    subst hv
    have HT : Aside _ := hT
    have HY : Aside (allT τ ts = true → AeEnd B w cb nv bv l rb (i + 1 + m) env (aeR τ i (.ok ts)) (.returned (.tuple #[])) w3) := fun h => by
      simp only [aeR, h, if_true]; exact ⟨rfl, bv', hC3, hM3⟩
    have HN : Aside (allT τ ts = false → AeEnd B w cb nv bv l rb (i + 1 + m) env (aeR τ i (.ok ts)) (.panicked (thC 23 i)) w3) := fun h => by
      simp only [aeR, h, Bool.false_eq_true, if_false]; exact ⟨rfl, hM3.fr⟩
    clear hPs hC3 hM3 hT
    go_wp2_with fail
    go_loopg [12] ts.length (fun g tt wv => ∃ j : Nat, j + g = ts.length ∧ tt = .int .i64 (j : Int) ∧ wv = w3 ∧ Aside (allT τ (ts.take j) = true))
    case atStart => exact ⟨0, by omega, rfl, rfl, rfl⟩
    case round =>
      obtain ⟨j, hjg, rfl, rfl, HA⟩ := hrel
      have hj0 : (0 : Int) ≤ (j : Int) := by omega
      by_cases hj : j < ts.length
      · have hj' : (j : Int) < (ts.length : Int) := by omega
        obtain ⟨t, ht⟩ : ∃ t, ts[j]? = some t := ⟨_, List.getElem?_eq_getElem hj⟩
        obtain ⟨b, o, rfl, hc1, hb, hcell⟩ := texts_at HT.out ht
        by_cases he : t = τ
        · have HA2 : Aside (allT τ (ts.take (j + 1)) = true) := by show _ = _; rw [allT_take ht, HA.out, he]; simp
          rw [he] at hcell
          clear HA ht he cn
          generalize S (T3.Tp.enc τ) = sτ at *
          go_wp2_with (go_at_call 60; refine (cy _ _).mono ?_; rintro e w4 ⟨rfl, hw4⟩; replace hw4 := hw4.symm; subst hw4)
          go_roundg (gk - 1)
          case measure => omega
          case rel => exact ⟨j + 1, by omega, by go_num, rfl, HA2⟩
        · have h4 := HN.out (allT_false ht he)
          have hcn := cn t he
          clear HA ht he cn cy HN HY
          generalize S (T3.Tp.enc τ) = sτ at *
          generalize S (T3.Tp.enc t) = stt at *
          go_wp2_with (go_at_call 60; refine (hcn _ _).mono ?_; rintro e w4 ⟨rfl, hw4⟩; replace hw4 := hw4.symm; subst hw4)
          exact ⟨rfl, h4⟩
      · have hj' : ¬ (j : Int) < (ts.length : Int) := by omega
        have h4 := HY.out (by have := HA.out; rwa [List.take_of_length_le (by omega)] at this)
        clear HA HN HY
        go_wp2_with fail
        go_end0
        exact h4

/-- What is known where a node is told. -/
structure Kn (B cb : Nat) (nv : Value) (l : List Tr.Nd) (rb N : Nat) (x : Tr.Nd) (ks : List T) (i : Nat) (rest : List Tr.Nd) : Prop where
  hl : l.length ≤ 16384
  fit : FitC l
  hP : PartC B cb nv l rb N
  hx : l[i]? = some x
  tk : takes x = true
  hk : x.kids = ks.length
  hw : wfsC ks
  hN : (flats ks).length ≤ N
  hd : l.drop (i + 1) = flats ks ++ rest
theorem tyT_plain {env : List Ty} {x : Tr.Nd} {ks : List T} {i : Nat} (h : x.kind ≠ 2 ∧ x.kind ≠ 3 ∧ x.kind ≠ 4 ∧ x.kind ≠ 5 ∧ x.kind ≠ 6 ∧ x.kind ≠ 8 ∧ x.kind ≠ 21 ∧ x.kind ≠ 30) : tyT env (.nd x ks) i = match tyL env ks (i + 1) with | .error e => .error e | .ok ts => rul env x i ts := by
  obtain ⟨h2, h3, h4, h5, h6, h8, h21, h30⟩ := h
  have ha : ahd env.length x i = none := by unfold ahd; simp [h2, h3, h4, h5, h6, h21, h30]
  have hi : inn x env = env := by unfold inn; simp [h5, h6]
  rw [tyT, ha]
  simp only [h8, if_false, hi]
  cases tyL env ks (i + 1) <;> rfl
theorem Kn.kidN {B cb : Nat} {nv : Value} {l : List Tr.Nd} {rb N : Nat} {x : Tr.Nd} {ks : List T} {i : Nat} {rest : List Tr.Nd} (h : Kn B cb nv l rb N x ks i rest) {n : Int} (ha : ary x.kind = n) (h0 : 0 ≤ n) : (ks.length : Int) = n := by
  have ht := h.tk
  unfold takes at ht
  rw [ha, if_neg (by omega), if_neg (by omega)] at ht
  have := h.hk
  simp at ht
  omega
theorem Kn.one {B cb : Nat} {nv : Value} {l : List Tr.Nd} {rb N : Nat} {x : Tr.Nd} {ks : List T} {i : Nat} {rest : List Tr.Nd} (h : Kn B cb nv l rb N x ks i rest) (ha : ary x.kind = 1) : ∃ a, ks = [a] := by
  have := h.kidN ha (by omega)
  match ks, this with
  | [a], _ => exact ⟨a, rfl⟩
/-- The check of the only kid, under some binders. -/
theorem Kn.part {B cb : Nat} {nv : Value} {l : List Tr.Nd} {rb N : Nat} {x : Tr.Nd} {a : T} {i : Nat} {rest : List Tr.Nd} (h : Kn B cb nv l rb N x [a] i rest) {env : List Ty} {bv : Value} {w : World} (bs : List Ty) (pv : Value) (hE : EnvOk (bs.reverse ++ env)) (hen : env.length ≤ 2 * (i + 1)) (hC : Cs B w cb nv bv l rb (i + 1) env) (hb : Bd w pv bs) :
    Calls Try.prog 27 #[.pointer (some ⟨cb, 0, none⟩), pv] w (PtEnd B w cb nv bv l rb (i + 1 + (flats [a]).length) env (tyT (bs.reverse ++ env) a (i + 1))) := by
  have hf : flats [a] = flat a := by simp [flats]
  have := h.hP a (i + 1) rest env bs pv bv w (by have := h.hN; rw [hf] at this; exact this) h.hw.1 (by rw [h.hd, hf]) hE hen hC hb
  rw [hf]
  exact this
theorem tyL_one (env : List Ty) (a : T) (i : Nat) : tyL env [a] i = match tyT env a i with | .error e => .error e | .ok t => .ok [t] := by
  rw [tyL]
  cases tyT env a i with
  | error e => rfl
  | ok t => simp [tyL]
end Go.Proofs.Ytnhihajhhlilfaa
