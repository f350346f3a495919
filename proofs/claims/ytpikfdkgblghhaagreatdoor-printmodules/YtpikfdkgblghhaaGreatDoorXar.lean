/- What the program's Check answers. -/
import Derived.Test.YtpikfdkgblghhaaGreatDoorXaq
namespace Go.Proofs.YtpikfdkgblghhaaGreatDoor
open Go.RowKit
set_option maxRecDepth 100000
set_option linter.unusedSimpArgs false

theorem mayBe_any (x : Tr.Nd) (hs : x.s.size ≤ maxLen) (w : World) :
    Calls Tryz.prog 52 #[Tr.agg x] w fun e w' => e = .returned (.bool (Tr.mayB x)) ∧ Below w.heap.size w w' := by
  obtain ⟨kind, kids, n, s, t, u, ln, co⟩ := x
  by_cases h1 : kind = 1
  · subst h1; exact be_num kids n s t u ln co hs w
  by_cases h2 : kind = 2
  · subst h2; exact be_str kids n s t u ln co hs w
  by_cases h3 : kind = 3
  · subst h3; exact be_truth kids n s t u ln co hs w
  by_cases h4 : kind = 4
  · subst h4; exact be_var kids n s t u ln co hs w
  by_cases h5 : kind = 5
  · subst h5; exact be_fn kids n s t u ln co hs w
  by_cases h6 : kind = 6
  · subst h6; exact be_rec kids n s t u ln co hs w
  by_cases h8 : kind = 8
  · subst h8; exact be_let kids n s t u ln co hs w
  by_cases h29 : kind = 29
  · subst h29; exact be_as kids n s t u ln co hs w
  exact be_other kind h1 h2 h3 h4 h5 h6 h8 h29 kids n s t u ln co hs w

theorem entersCheck2 : ∀ args w, (callFunc 51 args).run Tryz.prog w = .ok (.enter 51 args) w := enters_of Tryz.func51 (by kernel_rfl) rfl

/-- A list of nodes that Go's numbers can hold. -/
structure Fits (l : List Tr.Nd) : Prop where
  len : l.length ≤ 2199023255552
  kids : ∀ x ∈ l, x.kids ≤ 9223372036854775807
  str : ∀ x ∈ l, x.s.size ≤ maxLen

/-- What Check's walk keeps. -/
def CI (l : List Tr.Nd) (v : Value) (bl bd : Nat) (k : Nat) (st : List Nat) (w : World) : Prop :=
  ∃ dp : Nat, w.cell? ⟨bl, 0, none⟩ = some v ∧ w.cell? ⟨bd, 0, none⟩ = some (.int .i64 (dp : Int)) ∧ w.frozen? ⟨bd, 0, none⟩ = false ∧ Tr.ck Tr.mayB l [1] 0 0 = Tr.ck Tr.mayB (l.drop k) st k dp
def CJ (l : List Tr.Nd) (bd : Nat) (k : Nat) (_ : List Nat) (w : World) : Prop := (∃ x : Int, w.cell? ⟨bd, 0, none⟩ = some (.int .i64 x)) ∧ Tr.ck Tr.mayB l [1] 0 0 = (18, k)
theorem drop_node {l : List Tr.Nd} {k : Nat} {x : Tr.Nd} (h : l[k]? = some x) : l.drop k = x :: l.drop (k + 1) := by
  obtain ⟨hk, rfl⟩ := List.getElem?_eq_some_iff.1 h
  exact List.drop_eq_getElem_cons hk

theorem Tr.arK_pos (k : Int) : 0 ≤ Tr.arK k ∧ Tr.arK k ≤ 3 := by unfold Tr.arK; repeat' split <;> omega
theorem Tr.mayB_kids {x : Tr.Nd} (h : Tr.mayB x = true) : 0 ≤ x.kids := by
  have hf : Tr.fitB x = true := by
    unfold Tr.mayB at h
    simp only [Bool.and_eq_true] at h
    exact h.1.1.1.1
  unfold Tr.fitB at hf
  have := Tr.arK_pos x.kind
  split at hf
  · simpa using hf
  · split at hf
    · simp at hf
    · simp at hf; omega
theorem agg_cells {w : World} {b o : Nat} {x : Tr.Nd} (h : ∀ i u, (Tr.ncells x)[i]? = some u → w.cell? ⟨b, o + i, none⟩ = some u) :
    w.cell? ⟨b, o, none⟩ = some (.int .i8 x.kind) ∧ w.cell? ⟨b, o + 1, none⟩ = some (.int .i64 x.kids) ∧ w.cell? ⟨b, o + 2, none⟩ = some (.int .i64 x.n) ∧ w.cell? ⟨b, o + 3, none⟩ = some (.string x.s) ∧
    w.cell? ⟨b, o + 4, none⟩ = some (.string x.t) ∧ w.cell? ⟨b, o + 5, none⟩ = some (.string x.u) ∧ w.cell? ⟨b, o + 6, none⟩ = some (.int .i64 x.ln) ∧ w.cell? ⟨b, o + 7, none⟩ = some (.int .i64 x.co) :=
  ⟨h 0 _ rfl, h 1 _ rfl, h 2 _ rfl, h 3 _ rfl, h 4 _ rfl, h 5 _ rfl, h 6 _ rfl, h 7 _ rfl⟩

set_option maxHeartbeats 2000000 in
theorem check2_any (l : List Tr.Nd) (hf : Fits l) (v : Value) (bl bd base : Nat) (hoff : Off v (some bd)) (hbl : bl < base) (hbd : bd < base) (hne : bl ≠ bd) :
    Visits l v 51 #[.pointer (some ⟨bl, 0, none⟩), .pointer (some ⟨bd, 0, none⟩)] (some bd) base (CI l v bl bd) (CJ l bd) := by
  intro k m st x w hx hst hl hb hI
  obtain ⟨dp, hcl, hcd, hfd, hck⟩ := hI
  obtain ⟨a, c, rfl⟩ := hl.form
  obtain ⟨b1, o1, rfl, hlc, hb1, hcx⟩ := hl.at hx
  have hxl := List.mem_of_getElem? hx
  have hklt : k < l.length := (List.getElem?_eq_some_iff.1 hx).1
  have hlen := hf.len
  obtain ⟨c0, c1, c2, c3, c4, c5, c6, c7⟩ := agg_cells (o := o1 + k * 8) hcx
  have hm := mayBe_any x (hf.str x hxl)
  rw [drop_node hx] at hck
  have hk1 : (k : Int) < (l.length : Int) := by omega
  have hk0 : (0 : Int) ≤ (k : Int) := by omega
  have HC1 : Aside (Tr.mayB x = false → Tr.ck Tr.mayB l [1] 0 0 = (18, k)) := fun h => by rw [hck, Tr.ck, if_neg (by simp [Tr.popz]), if_pos h]
  have HC2 : Aside (Tr.mayB x = true → Tr.ck Tr.mayB l [1] 0 0 = Tr.ck Tr.mayB (l.drop (k + 1)) (x.kids.toNat :: m :: st) (k + 1) (if 64 < st.length + 1 ∧ dp = 0 then k else dp)) := fun h => by
    rw [hck, Tr.ck, if_neg (by simp [Tr.popz]), if_neg (by simp [h])]; rfl
  have HK : Aside (Tr.mayB x = true → 0 ≤ x.kids) := fun h => Tr.mayB_kids h
  clear hck hcx hx hxl hf hst
  unfold Tr.agg at hm
  show Calls Tryz.prog 51 #[.int .i64 (k : Int), .int .i64 ((st.length + 1 : Nat) : Int), .pointer (some ⟨bl, 0, none⟩), .pointer (some ⟨bd, 0, none⟩)] w _
  cases hmb : Tr.mayB x
  · rw [hmb] at hm
    have H18 := HC1.out hmb
    have H18 : Aside (Tr.ck Tr.mayB l [1] 0 0 = (18, k)) := H18
    clear hmb HC1 HC2 HK
    go_enter Tryz.func51, Tryz.ntmps51
    go_wp2_with (go_at_call 52; refine (hm _).mono ?_; rintro e w1 ⟨rfl, hB1⟩)
    refine ⟨rfl, grown_of_below (grownBy_refl w _) hB1, .inr ⟨rfl, ⟨dp, ?_⟩, H18.out⟩⟩
    exact (hB1.cell (p := ⟨bd, 0, none⟩) (Nat.lt_of_lt_of_le hbd hb)).trans hcd
  · rw [hmb] at hm
    have hkp := HK.out hmb
    have H2 : Aside (_ = _) := HC2.out hmb
    clear hmb HC1 HC2 HK
    have step : Aside (∀ (w1 w2 : World) (dp' : Nat), Below w.heap.size w w1 → w1.grownBy w2 (some bd) → w2.cell? ⟨bd, 0, none⟩ = some (.int .i64 (dp' : Int)) → w2.frozen? ⟨bd, 0, none⟩ = false → (if 64 < st.length + 1 ∧ dp = 0 then k else dp) = dp' →
        w.grownBy w2 (some bd) ∧ CI l (.slice (some ⟨b1, o1, none⟩) l.length c) bl bd (k + 1) (x.kids.toNat :: m :: st) w2) := by
      show ∀ (w1 w2 : World) (dp' : Nat), Below w.heap.size w w1 → w1.grownBy w2 (some bd) → w2.cell? ⟨bd, 0, none⟩ = some (.int .i64 (dp' : Int)) → w2.frozen? ⟨bd, 0, none⟩ = false → (if 64 < st.length + 1 ∧ dp = 0 then k else dp) = dp' →
        w.grownBy w2 (some bd) ∧ CI l (.slice (some ⟨b1, o1, none⟩) l.length c) bl bd (k + 1) (x.kids.toNat :: m :: st) w2
      intro w1 w2 dp' hB hg hc hf he
      refine ⟨grown_then (grown_of_below (grownBy_refl w _) hB) hg, ⟨dp', ?_, hc, hf, ?_⟩⟩
      · refine hg.cell ?_ (by simpa using hne)
        exact (hB.cell (p := ⟨bl, 0, none⟩) (Nat.lt_of_lt_of_le hbl hb)).trans hcl
      · rw [← he]; exact H2.out
    have hbd' : bd < w.heap.size := Nat.lt_of_lt_of_le hbd hb
    by_cases hd : 64 < st.length + 1
    · have hd' : (64 : Int) < (st.length : Int) + 1 := by omega
      by_cases h0 : dp = 0
      · subst h0
        go_enter Tryz.func51, Tryz.ntmps51
        go_wp2_with (go_at_call 52; refine (hm _).mono ?_; rintro e w1 ⟨rfl, hB1⟩; have e1 := (hB1.cell (p := ⟨bd, 0, none⟩) hbd').trans hcd; have e2 := (hB1.frozen (p := ⟨bd, 0, none⟩) hbd').trans hfd)
        refine bodyPost_end (results_none rfl _ _ _) rfl ?_
        have hst := step.out w1 (w1.setCell ⟨bd, 0, none⟩ (.int .i64 (k : Int))) k hB1 (grownBy_set (grownBy_refl _ _) _) ?_ ?_ (by simp [hd])
        · exact ⟨hst.1, .inl ⟨rfl, fun _ => hst.2, fun h => absurd hkp (by omega)⟩⟩
        · simp [go_sem, e1]
        · rw [World.frozen?_setCell]; exact e2
      · have h0' : ((dp : Int) == 0) = false := by simp; omega
        go_enter Tryz.func51, Tryz.ntmps51
        go_wp2_with (go_at_call 52; refine (hm _).mono ?_; rintro e w1 ⟨rfl, hB1⟩; have e1 := (hB1.cell (p := ⟨bd, 0, none⟩) hbd').trans hcd; have e2 := (hB1.frozen (p := ⟨bd, 0, none⟩) hbd').trans hfd)
        refine bodyPost_end (results_none rfl _ _ _) rfl ?_
        have hst := step.out w1 w1 dp hB1 (grownBy_refl _ _) e1 e2 (by simp [h0])
        exact ⟨hst.1, .inl ⟨rfl, fun _ => hst.2, fun h => absurd hkp (by omega)⟩⟩
    · have hd' : decide ((64 : Int) < (st.length : Int) + 1) = false := by simp; omega
      go_enter Tryz.func51, Tryz.ntmps51
      go_wp2_with (go_at_call 52; refine (hm _).mono ?_; rintro e w1 ⟨rfl, hB1⟩; have e1 := (hB1.cell (p := ⟨bd, 0, none⟩) hbd').trans hcd; have e2 := (hB1.frozen (p := ⟨bd, 0, none⟩) hbd').trans hfd)
      refine bodyPost_end (results_none rfl _ _ _) rfl ?_
      have hst := step.out w1 w1 dp hB1 (grownBy_refl _ _) e1 e2 (by simp [hd])
      exact ⟨hst.1, .inl ⟨rfl, fun _ => hst.2, fun h => absurd hkp (by omega)⟩⟩
end Go.Proofs.YtpikfdkgblghhaaGreatDoor
