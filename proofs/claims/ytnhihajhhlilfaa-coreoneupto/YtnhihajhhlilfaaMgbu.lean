/- What is made of closed terms. -/
import Derived.Test.YtnhihajhhlilfaaMgbt
namespace Go.Proofs.Ytnhihajhhlilfaa
open Go.RowKit Co
open T3.Tp (Ty enc cns)
open Tr (T Nd flat flats high highs)
set_option maxRecDepth 100000
set_option linter.unusedSimpArgs false
set_option linter.unusedVariables false

theorem tyS_S (s : Ty) : tyS (S (enc s)) = s := by
  unfold tyS
  exact Ck.tyOf_enc s
theorem goodB_S {s : Ty} (h : sz s ≤ 64) : goodB (S (enc s)) = true := by
  unfold goodB
  have : (S (enc s)).data.toList = enc s := rfl
  rw [this, T3.Tp.chk_enc s h]
  rfl
/-- A closed term of a type, so high. -/
structure Cl (l : List Nd) (s : Ty) (h : Nat) : Prop where
  ex : ∃ t, l = flat t ∧ wfC t ∧ high t ≤ h ∧ tyT [] t 0 = .ok s
  fit : FitC l
theorem Cl.ne {l : List Nd} {s : Ty} {h : Nat} (c : Cl l s h) : l ≠ [] := by
  obtain ⟨t, rfl, _⟩ := c.ex
  exact List.length_pos_iff.1 (Tr.flat_pos t)
theorem Cl.check {l : List Nd} {s : Ty} {h : Nat} (c : Cl l s h) (hh : h ≤ 1024) (hl : l.length ≤ 16384) : Co.check l = .ok s := by
  obtain ⟨t, rfl, h1, h2, h3⟩ := c.ex
  rw [term_check h1 (by omega) hl, h3]
theorem FitC.cons {x : Nd} {l : List Nd} (hl : FitC l) (h1 : (Lit.int .i8 x.kind).wf = true) (h2 : x.kids ≤ 9223372036854775807) (h3 : -9223372036854775808 ≤ x.n ∧ x.n ≤ 9223372036854775807) (h4 : x.s.size ≤ maxLen) : FitC (x :: l) := by
  constructor <;> intro y hy <;> rcases List.mem_cons.1 hy with rfl | hy
  · exact h1
  · exact hl.kind y hy
  · exact h2
  · exact hl.kids y hy
  · exact h3
  · exact hl.num y hy
  · exact h4
  · exact hl.str y hy
theorem FitC.app {a b : List Nd} (ha : FitC a) (hb : FitC b) : FitC (a ++ b) := by
  constructor <;> intro y hy <;> rcases List.mem_append.1 hy with hy | hy
  · exact ha.kind y hy
  · exact hb.kind y hy
  · exact ha.kids y hy
  · exact hb.kids y hy
  · exact ha.num y hy
  · exact hb.num y hy
  · exact ha.str y hy
  · exact hb.str y hy
/-- A node as the statements make it: a kind, a number, two annotations. -/
abbrev N0 (k n : Int) (t u : ByteArray) : Nd := ⟨k, 0, n, ⟨#[]⟩, t, u, 0, 0⟩
theorem fitN {k n : Int} {t u : ByteArray} {m : Nat} {l : List Nd} (hl : FitC l) (hk : (Lit.int .i8 k).wf = true) (hm : m ≤ 3) (hn : -9223372036854775808 ≤ n ∧ n ≤ 9223372036854775807) : FitC (setK (N0 k n t u) m :: l) :=
  hl.cons hk (by show (m : Int) ≤ _; omega) hn (by show (0 : Nat) ≤ _; omega)
theorem tyT_plain' {env : List Ty} {x : Tr.Nd} {ks : List T} {i : Nat} (h : x.kind ≠ 2 ∧ x.kind ≠ 3 ∧ x.kind ≠ 4 ∧ x.kind ≠ 5 ∧ x.kind ≠ 6 ∧ x.kind ≠ 8 ∧ x.kind ≠ 21 ∧ x.kind ≠ 30) {ss : List Ty} (hs : tyL env ks (i + 1) = .ok ss) : tyT env (.nd x ks) i = rul env x i ss := by
  rw [tyT_plain h, hs]
theorem tyT_go {env : List Ty} {x : Tr.Nd} {ks : List T} {i : Nat} (ha : ahd env.length x i = Option.none) (h8 : x.kind ≠ 8) {ss : List Ty} (hs : tyL (inn x env) ks (i + 1) = .ok ss) : tyT env (.nd x ks) i = rul env x i ss := by
  rw [tyT, ha]
  simp only [h8, if_false, hs]
theorem tyT_let {env : List Ty} {x : Tr.Nd} {ks : List T} {i : Nat} (ha : ahd env.length x i = Option.none) (h8 : x.kind = 8) : tyT env (.nd x ks) i = tyB env ks (i + 1) := by
  rw [tyT, ha]
  simp only [h8, if_true]
/-- What is known of one, of two, of three kids. -/
theorem kid1 {l : List Nd} {s : Ty} {h : Nat} (c : Cl l s h) : ∃ t, l = flats [t] ∧ wfsC [t] ∧ highs [t] ≤ h ∧ ∀ env j, tyL env [t] j = .ok [s] := by
  obtain ⟨t, rfl, h1, h2, h3⟩ := c.ex
  refine ⟨t, by simp [flats], ⟨h1, trivial⟩, by simp [highs]; exact h2, fun env j => ?_⟩
  rw [tyL_one, closed_at h3]
theorem kid2 {l1 l2 : List Nd} {s1 s2 : Ty} {h : Nat} (c1 : Cl l1 s1 h) (c2 : Cl l2 s2 h) : ∃ t1 t2, l1 ++ l2 = flats [t1, t2] ∧ wfsC [t1, t2] ∧ highs [t1, t2] ≤ h ∧ (∀ env j, tyL env [t1, t2] j = .ok [s1, s2]) ∧ (∀ env j, tyT env t1 j = .ok s1) ∧ ∀ env j, tyT env t2 j = .ok s2 := by
  obtain ⟨t1, rfl, h1, h2, h3⟩ := c1.ex
  obtain ⟨t2, rfl, h4, h5, h6⟩ := c2.ex
  refine ⟨t1, t2, by simp [flats], ⟨h1, h4, trivial⟩, by simp [highs]; omega, fun env j => ?_, closed_at h3, closed_at h6⟩
  rw [tyL, closed_at h3, tyL_one, closed_at h6]
theorem kid3 {l1 l2 l3 : List Nd} {s1 s2 s3 : Ty} {h : Nat} (c1 : Cl l1 s1 h) (c2 : Cl l2 s2 h) (c3 : Cl l3 s3 h) : ∃ t1 t2 t3, l1 ++ (l2 ++ l3) = flats [t1, t2, t3] ∧ wfsC [t1, t2, t3] ∧ highs [t1, t2, t3] ≤ h ∧ ∀ env j, tyL env [t1, t2, t3] j = .ok [s1, s2, s3] := by
  obtain ⟨t1, rfl, h1, h2, h3⟩ := c1.ex
  obtain ⟨t2, rfl, h4, h5, h6⟩ := c2.ex
  obtain ⟨t3, rfl, h7, h8, h9⟩ := c3.ex
  refine ⟨t1, t2, t3, by simp [flats], ⟨h1, h4, h7, trivial⟩, by simp [highs]; omega, fun env j => ?_⟩
  rw [tyL, closed_at h3, tyL, closed_at h6, tyL_one, closed_at h9]
theorem mkCl {x : Nd} {ks : List T} {τ : Ty} {h : Nat} {l : List Nd} (hl : l = flats ks) (ht : takes (setK x ks.length) = true) (hw : wfsC ks) (hh : highs ks ≤ h) (hty : tyT [] (.nd (setK x ks.length) ks) 0 = .ok τ) (hf : FitC (setK x ks.length :: l)) : Cl (setK x ks.length :: l) τ (h + 1) := by
  refine ⟨⟨.nd (setK x ks.length) ks, by rw [hl, flat], ⟨ht, rfl, hw⟩, by rw [high]; omega, hty⟩, hf⟩
theorem mkErr {x : Nd} {ks : List T} {q : Int × Nat} {h : Nat} {l : List Nd} (hl : l = flats ks) (ht : takes (setK x ks.length) = true) (hw : wfsC ks) (hh : highs ks ≤ h) (hty : tyT [] (.nd (setK x ks.length) ks) 0 = .error q) (hlen : l.length ≤ 10000) (h2 : h ≤ 1000) : Co.check (setK x ks.length :: l) = .error q := by
  have hfl : setK x ks.length :: l = flat (.nd (setK x ks.length) ks) := by rw [hl, flat]
  rw [hfl, term_check (t := .nd (setK x ks.length) ks) ⟨ht, rfl, hw⟩ (by rw [high]; omega) (by rw [← hfl]; simp; omega), hty]
theorem Cl.first {l : List Nd} {A C : Ty} {h : Nat} (c : Cl l (.tp A C) h) : Cl (setK (N0 19 0 ⟨#[]⟩ ⟨#[]⟩) 1 :: l) A (h + 1) := by
  obtain ⟨t, h1, h2, h3, h4⟩ := kid1 c
  refine mkCl (ks := [t]) h1 rfl h2 h3 ?_ (fitN c.fit rfl (by simp) (by omega))
  rw [tyT_plain' (by simp [setK]) (h4 [] 1)]
  unfold rul
  simp [setK]
theorem Cl.second {l : List Nd} {A C : Ty} {h : Nat} (c : Cl l (.tp C A) h) : Cl (setK (N0 20 0 ⟨#[]⟩ ⟨#[]⟩) 1 :: l) A (h + 1) := by
  obtain ⟨t, h1, h2, h3, h4⟩ := kid1 c
  refine mkCl (ks := [t]) h1 rfl h2 h3 ?_ (fitN c.fit rfl (by simp) (by omega))
  rw [tyT_plain' (by simp [setK]) (h4 [] 1)]
  unfold rul
  simp [setK]
theorem Cl.head {l : List Nd} {A C : Ty} {h : Nat} (c : Cl l (.tl A) h) : Cl (setK (N0 22 0 ⟨#[]⟩ ⟨#[]⟩) 1 :: l) A (h + 1) := by
  obtain ⟨t, h1, h2, h3, h4⟩ := kid1 c
  refine mkCl (ks := [t]) h1 rfl h2 h3 ?_ (fitN c.fit rfl (by simp) (by omega))
  rw [tyT_plain' (by simp [setK]) (h4 [] 1)]
  unfold rul
  simp [setK]
theorem Cl.tail {l : List Nd} {A C : Ty} {h : Nat} (c : Cl l (.tl A) h) : Cl (setK (N0 23 0 ⟨#[]⟩ ⟨#[]⟩) 1 :: l) (.tl A) (h + 1) := by
  obtain ⟨t, h1, h2, h3, h4⟩ := kid1 c
  refine mkCl (ks := [t]) h1 rfl h2 h3 ?_ (fitN c.fit rfl (by simp) (by omega))
  rw [tyT_plain' (by simp [setK]) (h4 [] 1)]
  unfold rul
  simp [setK]
theorem Cl.empty {l : List Nd} {A C : Ty} {h : Nat} (c : Cl l (.tl A) h) : Cl (setK (N0 24 0 ⟨#[]⟩ ⟨#[]⟩) 1 :: l) .tb (h + 1) := by
  obtain ⟨t, h1, h2, h3, h4⟩ := kid1 c
  refine mkCl (ks := [t]) h1 rfl h2 h3 ?_ (fitN c.fit rfl (by simp) (by omega))
  rw [tyT_plain' (by simp [setK]) (h4 [] 1)]
  unfold rul
  simp [setK]
theorem Cl.get {l : List Nd} {A C : Ty} {h : Nat} (c : Cl l (.tx A) h) : Cl (setK (N0 27 0 ⟨#[]⟩ ⟨#[]⟩) 1 :: l) A (h + 1) := by
  obtain ⟨t, h1, h2, h3, h4⟩ := kid1 c
  refine mkCl (ks := [t]) h1 rfl h2 h3 ?_ (fitN c.fit rfl (by simp) (by omega))
  rw [tyT_plain' (by simp [setK]) (h4 [] 1)]
  unfold rul
  simp [setK]
theorem Cl.box {l : List Nd} {A C : Ty} {h : Nat} (c : Cl l A h) (hz : sz (.tx A) ≤ 64) : Cl (setK (N0 26 0 ⟨#[]⟩ ⟨#[]⟩) 1 :: l) (.tx A) (h + 1) := by
  obtain ⟨t, h1, h2, h3, h4⟩ := kid1 c
  refine mkCl (ks := [t]) h1 rfl h2 h3 ?_ (fitN c.fit rfl (by simp) (by omega))
  rw [tyT_plain' (by simp [setK]) (h4 [] 1)]
  unfold rul
  simp [setK, made, hz]
theorem Cl.pair {l1 l2 : List Nd} {A C : Ty} {h : Nat} (c1 : Cl l1 A h) (c2 : Cl l2 C h) (hz : sz (.tp A C) ≤ 64) : Cl (setK (N0 18 0 ⟨#[]⟩ ⟨#[]⟩) 2 :: (l1 ++ l2)) (.tp A C) (h + 1) := by
  obtain ⟨t1, t2, h1, h2, h3, h4, -, -⟩ := kid2 c1 c2
  refine mkCl (ks := [t1, t2]) h1 rfl h2 h3 ?_ (fitN (c1.fit.app c2.fit) rfl (by simp) (by omega))
  rw [tyT_plain' (by simp [setK]) (h4 [] 1)]
  unfold rul
  simp [setK, made, hz]
theorem Cl.call {l1 l2 : List Nd} {A C : Ty} {h : Nat} (c1 : Cl l1 (.tf A C) h) (c2 : Cl l2 A h) : Cl (setK (N0 7 0 ⟨#[]⟩ ⟨#[]⟩) 2 :: (l1 ++ l2)) C (h + 1) := by
  obtain ⟨t1, t2, h1, h2, h3, h4, -, -⟩ := kid2 c1 c2
  refine mkCl (ks := [t1, t2]) h1 rfl h2 h3 ?_ (fitN (c1.fit.app c2.fit) rfl (by simp) (by omega))
  rw [tyT_plain' (by simp [setK]) (h4 [] 1)]
  unfold rul
  simp [setK]
theorem Cl.cons {l1 l2 : List Nd} {A C : Ty} {h : Nat} (c1 : Cl l1 A h) (c2 : Cl l2 (.tl A) h) : Cl (setK (N0 25 0 ⟨#[]⟩ ⟨#[]⟩) 2 :: (l1 ++ l2)) (.tl A) (h + 1) := by
  obtain ⟨t1, t2, h1, h2, h3, h4, -, -⟩ := kid2 c1 c2
  refine mkCl (ks := [t1, t2]) h1 rfl h2 h3 ?_ (fitN (c1.fit.app c2.fit) rfl (by simp) (by omega))
  rw [tyT_plain' (by simp [setK]) (h4 [] 1)]
  unfold rul
  simp [setK]
theorem Cl.set {l1 l2 : List Nd} {A C : Ty} {h : Nat} (c1 : Cl l1 (.tx A) h) (c2 : Cl l2 A h) : Cl (setK (N0 28 0 ⟨#[]⟩ ⟨#[]⟩) 2 :: (l1 ++ l2)) A (h + 1) := by
  obtain ⟨t1, t2, h1, h2, h3, h4, -, -⟩ := kid2 c1 c2
  refine mkCl (ks := [t1, t2]) h1 rfl h2 h3 ?_ (fitN (c1.fit.app c2.fit) rfl (by simp) (by omega))
  rw [tyT_plain' (by simp [setK]) (h4 [] 1)]
  unfold rul
  simp [setK]
theorem Cl.choice {l1 l2 l3 : List Nd} {A : Ty} {h : Nat} (c1 : Cl l1 .tb h) (c2 : Cl l2 A h) (c3 : Cl l3 A h) : Cl (setK (N0 9 0 ⟨#[]⟩ ⟨#[]⟩) 3 :: (l1 ++ (l2 ++ l3))) A (h + 1) := by
  obtain ⟨t1, t2, t3, h1, h2, h3, h4⟩ := kid3 c1 c2 c3
  refine mkCl (ks := [t1, t2, t3]) h1 rfl h2 h3 ?_ (fitN (c1.fit.app (c2.fit.app c3.fit)) rfl (by simp) (by omega))
  rw [tyT_plain' (by simp [setK]) (h4 [] 1)]
  unfold rul
  simp [setK]
theorem Cl.list {l1 l2 : List Nd} {A : Ty} {h : Nat} (c1 : Cl l1 A h) (c2 : Cl l2 A h) (hz : sz (.tl A) ≤ 64) (hg : sz A ≤ 64) : Cl (setK (N0 21 0 (S (enc A)) ⟨#[]⟩) 2 :: (l1 ++ l2)) (.tl A) (h + 1) := by
  obtain ⟨t1, t2, h1, h2, h3, h4, -, -⟩ := kid2 c1 c2
  refine mkCl (ks := [t1, t2]) h1 rfl h2 h3 ?_ (fitN (c1.fit.app c2.fit) rfl (by simp) (by omega))
  have ha : ahd ([] : List Ty).length (setK (N0 21 0 (S (enc A)) ⟨#[]⟩) 2) 0 = Option.none := by unfold ahd; simp [setK, goodB_S hg]
  have hi : inn (setK (N0 21 0 (S (enc A)) ⟨#[]⟩) 2) ([] : List Ty) = [] := by unfold inn; simp [setK]
  refine (tyT_go ha (by simp [setK]) (by rw [hi]; exact h4 [] 1)).trans ?_
  simp [setK, rul, tyS_S, allT, made, hz]
theorem list_err {l1 l2 : List Nd} {A C : Ty} {h : Nat} (c1 : Cl l1 A h) (c2 : Cl l2 C h) (hg : sz A ≤ 64) (hne : C ≠ A) (hlen : (l1 ++ l2).length ≤ 10000) (hh : h ≤ 1000) : Co.check (setK (N0 21 0 (S (enc A)) ⟨#[]⟩) 2 :: (l1 ++ l2)) = .error (23, 0) := by
  obtain ⟨t1, t2, h1, h2, h3, h4, -, -⟩ := kid2 c1 c2
  refine mkErr (ks := [t1, t2]) h1 rfl h2 h3 ?_ hlen hh
  have ha : ahd ([] : List Ty).length (setK (N0 21 0 (S (enc A)) ⟨#[]⟩) 2) 0 = Option.none := by unfold ahd; simp [setK, goodB_S hg]
  have hi : inn (setK (N0 21 0 (S (enc A)) ⟨#[]⟩) 2) ([] : List Ty) = [] := by unfold inn; simp [setK]
  refine (tyT_go ha (by simp [setK]) (by rw [hi]; exact h4 [] 1)).trans ?_
  simp [setK, rul, tyS_S, allT, hne]
theorem cons_err {l1 l2 : List Nd} {A C D : Ty} {h : Nat} (c1 : Cl l1 C h) (c2 : Cl l2 (.tl A) h) (hne : C ≠ A) (hlen : (l1 ++ l2).length ≤ 10000) (hh : h ≤ 1000) : Co.check (setK (N0 25 0 ⟨#[]⟩ ⟨#[]⟩) 2 :: (l1 ++ l2)) = .error (23, 0) := by
  obtain ⟨t1, t2, h1, h2, h3, h4, -, -⟩ := kid2 c1 c2
  refine mkErr (ks := [t1, t2]) h1 rfl h2 h3 ?_ hlen hh
  rw [tyT_plain' (by simp [setK]) (h4 [] 1)]
  unfold rul
  simp [setK, hne]
theorem set_err {l1 l2 : List Nd} {A C D : Ty} {h : Nat} (c1 : Cl l1 (.tx A) h) (c2 : Cl l2 C h) (hne : C ≠ A) (hlen : (l1 ++ l2).length ≤ 10000) (hh : h ≤ 1000) : Co.check (setK (N0 28 0 ⟨#[]⟩ ⟨#[]⟩) 2 :: (l1 ++ l2)) = .error (23, 0) := by
  obtain ⟨t1, t2, h1, h2, h3, h4, -, -⟩ := kid2 c1 c2
  refine mkErr (ks := [t1, t2]) h1 rfl h2 h3 ?_ hlen hh
  rw [tyT_plain' (by simp [setK]) (h4 [] 1)]
  unfold rul
  simp [setK, hne]
theorem call_err {l1 l2 : List Nd} {A C D : Ty} {h : Nat} (c1 : Cl l1 (.tf A D) h) (c2 : Cl l2 C h) (hne : C ≠ A) (hlen : (l1 ++ l2).length ≤ 10000) (hh : h ≤ 1000) : Co.check (setK (N0 7 0 ⟨#[]⟩ ⟨#[]⟩) 2 :: (l1 ++ l2)) = .error (23, 0) := by
  obtain ⟨t1, t2, h1, h2, h3, h4, -, -⟩ := kid2 c1 c2
  refine mkErr (ks := [t1, t2]) h1 rfl h2 h3 ?_ hlen hh
  rw [tyT_plain' (by simp [setK]) (h4 [] 1)]
  unfold rul
  simp [setK, hne]
theorem Cl.leT {l1 l2 : List Nd} {A C : Ty} {h : Nat} (c1 : Cl l1 A h) (c2 : Cl l2 C h) : Cl (setK (N0 8 0 ⟨#[]⟩ ⟨#[]⟩) 2 :: (l1 ++ l2)) C (h + 1) := by
  obtain ⟨t1, t2, h1, h2, h3, -, h4, h5⟩ := kid2 c1 c2
  refine mkCl (ks := [t1, t2]) h1 rfl h2 h3 ?_ (fitN (c1.fit.app c2.fit) rfl (by simp) (by omega))
  have ha : ahd ([] : List Ty).length (setK (N0 8 0 ⟨#[]⟩ ⟨#[]⟩) 2) 0 = Option.none := by unfold ahd; simp [setK]
  refine (tyT_let ha rfl).trans ?_
  simp [setK, tyB, tyC, h4, h5]
/-- A variable: the nearest binder's. -/
abbrev vr (n : Int) : Nd := ⟨4, 0, n, ⟨#[]⟩, ⟨#[]⟩, ⟨#[]⟩, 0, 0⟩
theorem Cl.leV {l1 : List Nd} {A : Ty} {h : Nat} (c1 : Cl l1 A h) (hh : 1 ≤ h) : Cl (setK (N0 8 0 ⟨#[]⟩ ⟨#[]⟩) 2 :: (l1 ++ [vr 0])) A (h + 1) := by
  obtain ⟨t1, rfl, h1, h2, h3⟩ := c1.ex
  refine mkCl (ks := [t1, .nd (vr 0) []]) (by simp [flats, flat]) rfl ⟨h1, ⟨rfl, rfl, trivial⟩, trivial⟩ (by simp [highs, high]; omega) ?_ (fitN (c1.fit.app (by constructor <;> decide)) rfl (by simp) (by omega))
  have ha : ahd ([] : List Ty).length (setK (N0 8 0 ⟨#[]⟩ ⟨#[]⟩) 2) 0 = Option.none := by unfold ahd; simp [setK]
  refine (tyT_let ha rfl).trans ?_
  simp [setK, tyB, tyC, closed_at h3, tyT, ahd, rul, tyL]
theorem Cl.fn {l : List Nd} {A C : Ty} {h : Nat} (c : Cl l C h) (hA : sz A ≤ 64) (hC : sz C ≤ 64) (hz : sz (.tf A C) ≤ 64) : Cl (setK (N0 5 0 (S (enc A)) (S (enc C))) 1 :: l) (.tf A C) (h + 1) := by
  obtain ⟨t, h1, h2, h3, h4⟩ := kid1 c
  refine mkCl (ks := [t]) h1 rfl h2 h3 ?_ (fitN c.fit rfl (by simp) (by omega))
  have ha : ahd ([] : List Ty).length (setK (N0 5 0 (S (enc A)) (S (enc C))) 1) 0 = Option.none := by unfold ahd; simp [setK, goodB_S hA, goodB_S hC, tyS_S, hz]
  refine (tyT_go ha (by simp [setK]) (h4 (inn (setK (N0 5 0 (S (enc A)) (S (enc C))) 1) []) 1)).trans ?_
  simp [setK, rul, tyS_S]
theorem Cl.own {A C : Ty} (hA : sz A ≤ 64) (hC : sz C ≤ 64) (hz : sz (.tf A C) ≤ 64) : Cl (setK (N0 6 0 (S (enc A)) (S (enc C))) 1 :: (setK (N0 7 0 ⟨#[]⟩ ⟨#[]⟩) 2 :: ([vr 1] ++ [vr 0]))) (.tf A C) 3 := by
  refine mkCl (h := 2) (ks := [.nd (setK (N0 7 0 ⟨#[]⟩ ⟨#[]⟩) 2) [.nd (vr 1) [], .nd (vr 0) []]]) (by simp [flats, flat]) rfl ⟨⟨rfl, rfl, ⟨rfl, rfl, trivial⟩, ⟨rfl, rfl, trivial⟩, trivial⟩, trivial⟩ (by simp [highs, high]) ?_ (fitN (by constructor <;> decide) rfl (by simp) (by omega))
  have h1 : tyT [A, .tf A C] (.nd (setK (N0 7 0 ⟨#[]⟩ ⟨#[]⟩) 2) [.nd (vr 1) [], .nd (vr 0) []]) 1 = .ok C := by
    rw [tyT_plain' (by simp [setK]) (ss := [.tf A C, A]) (by simp [tyL, tyT, ahd, rul, setK])]
    unfold rul
    simp [setK]
  have ha : ahd ([] : List Ty).length (setK (N0 6 0 (S (enc A)) (S (enc C))) 1) 0 = Option.none := by unfold ahd; simp [setK, goodB_S hA, goodB_S hC, tyS_S, hz]
  have hi : inn (setK (N0 6 0 (S (enc A)) (S (enc C))) 1) ([] : List Ty) = [A, .tf A C] := by unfold inn; simp [setK, tyS_S]
  refine (tyT_go (ss := [C]) ha (by simp [setK]) (by rw [hi, tyL_one, h1])).trans ?_
  simp [setK, rul, tyS_S]
theorem Cl.truth : Cl [⟨3, 0, 1, ⟨#[]⟩, ⟨#[]⟩, ⟨#[]⟩, 0, 0⟩] .tb 1 := by
  refine ⟨⟨.nd ⟨3, 0, 1, ⟨#[]⟩, ⟨#[]⟩, ⟨#[]⟩, 0, 0⟩ [], by simp [flat, flats], ⟨rfl, rfl, trivial⟩, by simp [high, highs], by simp [tyT, ahd, tyL, rul]⟩, by constructor <;> decide⟩
theorem Cl.up {l : List Nd} {s : Ty} {h h' : Nat} (c : Cl l s h) (hh : h ≤ h') : Cl l s h' := by
  obtain ⟨t, h1, h2, h3, h4⟩ := c.ex
  exact ⟨⟨t, h1, h2, by omega, h4⟩, c.fit⟩
end Go.Proofs.Ytnhihajhhlilfaa
