/- What the program's Behind answers. What the program's Check answers. What the program's Check answers: as a whole. What the program's Kids and Deep answer. What the program's Deep and Equal answer. What the program's Equal answers. Lists of nodes that the call owns. The program lays a branch as a list of nodes. -/
import Derived.Test.YtohjfikjbeafiaaGreatDoorGaq
import Derived.Defers
import Derived.Recover
import Derived.Test.YtohjfikjbeafiaaGreatDoorGap
namespace Go.Proofs.YtohjfikjbeafiaaGreatDoor
open Go.RowKit
set_option maxRecDepth 100000
set_option linter.unusedSimpArgs false

theorem entersBehind2 : ∀ args w, (callFunc 200 args).run Tryz.prog w = .ok (.enter 200 args) w := enters_of Tryz.func200 (by kernel_rfl) rfl

theorem Tr.drop_kd {l : List Tr.Nd} {k : Nat} {x : Tr.Nd} (h : l[k]? = some x) : Tr.kd (l.drop k) = x.kids :: Tr.kd (l.drop (k + 1)) := by
  obtain ⟨hk, rfl⟩ := List.getElem?_eq_some_iff.1 h
  rw [List.drop_eq_getElem_cons hk]; rfl

set_option maxHeartbeats 400000 in
theorem behind2_any (k d : Int) (w : World) : Calls Tryz.prog 200 #[.int .i64 k, .int .i64 d] w fun e w' => e = .returned (.tuple #[]) ∧ w' = w := by
  go_enter Tryz.func200, Tryz.ntmps200
  go_wp2
  first
    | exact bodyPost_end rfl rfl ⟨rfl, rfl⟩
    | (go_end0; exact ⟨rfl, rfl⟩)

/-- The closure that catches, where nothing is thrown. -/
theorem bcatch_idle (p : Addr) (w : World) :
    CallsD Tryz.prog 199 #[.pointer (some p)] .returning w fun e u' w' => e = .returned (.tuple #[]) ∧ u' = .returning ∧ w' = w := by
  refine callsD_of_wpS Tryz.func199 rfl fun c₀ cs hu => ?_
  apply wpS_seq
  apply wpS_region
  simp [wpOpsS, go_sem, recoverD, hu, Tryz.ntmps199, Exit.thenS]
  refine wpS_cond (t := false) (by simp [Act.eval, Array.replicate]) ?_
  simp only [Bool.false_eq_true, if_false]
  refine wpS_of_wp (wp_skip ?_)
  cases c₀
  simp_all [bodyPostS, results, Tryz.results199]

theorem bcatch_panicking (p : Addr) (x : Int) (u : TypeId) (pv : Value) (older : List PanicEntry) (w : World) (hc : w.cell? p = some (.int .i64 x)) (hz : w.frozen? p = false) :
    CallsD Tryz.prog 199 #[.pointer (some p)] (.panicking ({ v := .iface u pv, recovered := false } :: older)) w fun e u' w' =>
      e = .returned (.tuple #[]) ∧ u' = .panicking ({ v := .iface u pv, recovered := true } :: older) ∧ w' = w.setCell p (.int .i64 0) := by
  refine callsD_of_wpS Tryz.func199 rfl fun c₀ cs hu => ?_
  apply wpS_seq
  apply wpS_region
  simp [wpOpsS, go_sem, recoverD, hu, Tryz.ntmps199, Exit.thenS]
  refine wpS_cond (t := true) (by simp [Act.eval, Array.replicate]) ?_
  simp only [if_true]
  apply wpS_region
  simp [wpOpsS, go_sem, hc, hz, bodyPostS, results, Tryz.results199]

/-- What Behind's walk keeps. -/
theorem behind_visits (l : List Tr.Nd) (v : Value) (base at0 : Nat) :
    Visits l v 200 #[] none base (fun k st _ => Tr.go (Tr.kd (l.drop at0)) [1] at0 = Tr.go (Tr.kd (l.drop k)) st k) (fun k _ _ => Tr.go (Tr.kd (l.drop at0)) [1] at0 = (false, k)) := by
  intro k m st x w hx _ _ _ hI
  refine (behind2_any _ _ w).mono ?_
  rintro e w' ⟨rfl, rfl⟩
  rw [Tr.drop_kd hx] at hI
  refine ⟨grownBy_refl _ _, .inl ⟨rfl, fun h => ?_, fun h => ?_⟩⟩
  · rw [hI, Tr.go_next (by simp [Tr.popz]) h]; rfl
  · rw [hI, Tr.go_neg (by simp [Tr.popz]) h]

/-- Where the part at a place ends; 0: there is none. -/
def bhI (l : List Tr.Nd) (at0 : Int) : Nat := if at0 < 0 then 0 else Tr.bh l at0.toNat
theorem bhI_neg {l : List Tr.Nd} {at0 : Int} (h : at0 < 0 ∨ (l.length : Int) ≤ at0) : bhI l at0 = 0 := by
  unfold bhI Tr.bh
  split
  · rfl
  · rw [if_neg]
    rintro ⟨h1, _⟩
    omega
theorem bhI_go {l : List Tr.Nd} {k : Nat} (hk : k < l.length) : bhI l k = if (Tr.go (Tr.kd (l.drop k)) [1] k).1 then (Tr.go (Tr.kd (l.drop k)) [1] k).2 else 0 := by
  unfold bhI Tr.bh
  rw [if_neg (by omega), Int.toNat_natCast, Tr.go_gs, show List.sum [1] = 1 from rfl]
  cases h : (Tr.gs (Tr.kd (l.drop k)) 1 k).1 <;> simp [h, hk]

set_option maxHeartbeats 2000000 in
theorem behind_any (l : List Tr.Nd) (hlen : l.length ≤ 2199023255552) (hwf : ∀ x ∈ l, x.kids ≤ 9223372036854775807) (v : Value) (at0 : Int) (w : World) (hl : IsNodes w v l) :
    Calls Tryz.prog 181 #[v, .int .i64 at0] w fun e w' => e = .returned (.int .i64 (bhI l at0 : Nat)) ∧ Below w.heap.size w w' := by
  have hmf : ∀ (fn : Fn) (first cap : Array Value) (w : World), (Instr.makeFunc fn first cap).run Tryz.prog w = .ok (.func fn first cap) w := fun _ _ _ _ => rfl
  have hB0 : ∀ o : Obj, Below w.heap.size w (w.alloc o) := fun o => (Below.refl _ _).alloc (Nat.le_refl _) _
  obtain ⟨a, c, rfl⟩ := hl.form
  by_cases hneg : at0 < 0
  · have HN : Aside (bhI l at0 = 0) := bhI_neg (.inl hneg)
    go_enter_defers Tryz.func181, Tryz.ntmps181
    go_wp2_with fail
    simp [bodyPostD, Leaves, settle, results, Tryz.results181, go_sem, HN.out, hB0]
  · by_cases hge : (l.length : Int) ≤ at0
    · have HN : Aside (bhI l at0 = 0) := bhI_neg (.inr hge)
      have hneg' : decide (at0 < 0) = false := by simpa using hneg
      go_enter_defers Tryz.func181, Tryz.ntmps181
      go_wp2_with fail
      simp [bodyPostD, Leaves, settle, results, Tryz.results181, go_sem, HN.out, hB0]
    · obtain ⟨k, rfl⟩ : ∃ k : Nat, at0 = k := ⟨at0.toNat, by omega⟩
      have hk : k < l.length := by omega
      have hk1 : decide ((k : Int) < 0) = false := by simp
      have hk2 : decide ((l.length : Int) ≤ (k : Int)) = false := by simp; omega
      have HG : Aside (bhI l k = if (Tr.go (Tr.kd (l.drop k)) [1] k).1 then (Tr.go (Tr.kd (l.drop k)) [1] k).2 else 0) := bhI_go hk
      have hB1 := hB0 (.cells #[.int .i64 0] 3)
      have hl1 := hl.below hB1
      have hW := walk_any l hlen hwf (.slice a l.length c) 200 #[] none k (by omega) (w.alloc (.cells #[.int .i64 0] 3)) _ _ entersBehind2 hl1 (fun b o n c h => by simp) (fun b h => by cases h) (behind_visits l _ _ k) (fun _ _ _ _ h _ => h) (fun k r w1 h => by rw [h, Tr.go_pop]) rfl
      clear hneg hge hl hl1
      go_enter_defers Tryz.func181, Tryz.ntmps181
      go_wp2_with fail
      refine hW.mono ?_
      rintro e w2 ⟨hg2, hend⟩
      have hB2 : Below w.heap.size w w2 := hB1.grown hg2 (by simp) (fun k e => by cases e)
      have c2 : w2.cell? ⟨w.heap.size, 0, none⟩ = some (.int .i64 0) := hg2.cell (by simp [go_sem]) (by simp)
      have f2 : w2.frozen? ⟨w.heap.size, 0, none⟩ = false := by
        rw [World.frozen?_of_block (w := w.alloc (.cells #[.int .i64 0] 3)) (hg2.block _ (by simp) (by simp))]; simp [go_sem]
      cases hend with
      | done j st hj hst hI =>
        have HR : Aside (bhI l k = j) := by show _ = _; rw [HG.out, hI, Tr.go_done hst]; rfl
        go_wp2_with fail
        refine leaves_cons (f := 199) (args := #[.pointer (some ⟨w.heap.size, 0, none⟩)]) (by simp) (by simp [go_sem]) ?_
        refine (bcatch_idle ⟨w.heap.size, 0, none⟩ _).mono ?_
        rintro e u' w'' ⟨rfl, rfl, rfl⟩
        simp [Leaves, settle, results, Tryz.results181, go_sem, HR.out, c2]
        exact hB2.setCell (Nat.le_refl _) _
      | short st hst hI =>
        have HR : Aside (bhI l k = 0) := by
          show _ = _
          rw [HG.out, hI, List.drop_length]
          show (if (Tr.go [] st l.length).1 then _ else _) = _
          rw [Tr.go_end hst]; rfl
        go_wp2_with fail
        refine leaves_cons (f := 199) (args := #[.pointer (some ⟨w.heap.size, 0, none⟩)]) (by simp) (by simp [go_sem]) ?_
        refine (bcatch_panicking ⟨w.heap.size, 0, none⟩ 0 _ _ [] _ c2 f2).mono ?_
        rintro e u' w'' ⟨rfl, rfl, rfl⟩
        simp [Leaves, settle, results, Tryz.results181, go_sem, HR.out, c2]
        exact hB2.setCell (Nat.le_refl _) _
      | bad j st hj hst hJ =>
        have HR : Aside (bhI l k = 0) := by show _ = _; rw [HG.out, hJ]; rfl
        go_wp2_with fail
        refine leaves_cons (f := 199) (args := #[.pointer (some ⟨w.heap.size, 0, none⟩)]) (by simp) (by simp [go_sem]) ?_
        refine (bcatch_panicking ⟨w.heap.size, 0, none⟩ 0 _ _ [] _ c2 f2).mono ?_
        rintro e u' w'' ⟨rfl, rfl, rfl⟩
        simp [Leaves, settle, results, Tryz.results181, go_sem, HR.out, c2]
        exact hB2.setCell (Nat.le_refl _) _
end Go.Proofs.YtohjfikjbeafiaaGreatDoor
namespace Go.Proofs.YtohjfikjbeafiaaGreatDoor
open Go.RowKit
set_option maxRecDepth 100000
set_option linter.unusedSimpArgs false

theorem mayBe_any (x : Tr.Nd) (hs : x.s.size ≤ maxLen) (w : World) :
    Calls Tryz.prog 69 #[Tr.agg x] w fun e w' => e = .returned (.bool (Tr.mayB x)) ∧ Below w.heap.size w w' := by
  obtain ⟨kind, kids, n, s, t, u, ln, co⟩ := x
  by_cases h1 : kind = 1
  · subst h1; exact be_num kids n s t u ln co hs w
  by_cases h2 : kind = 2
  · subst h2; exact be_str kids n s t u ln co hs w
  by_cases h3 : kind = 3
  · subst h3; exact be_truth kids n s t u ln co hs w
  by_cases h4 : kind = 4
  · subst h4; exact be_var kids n s t u ln co hs w
  by_cases h5 : kind = 5
  · subst h5; exact be_fn kids n s t u ln co hs w
  by_cases h6 : kind = 6
  · subst h6; exact be_rec kids n s t u ln co hs w
  by_cases h8 : kind = 8
  · subst h8; exact be_let kids n s t u ln co hs w
  by_cases h29 : kind = 29
  · subst h29; exact be_as kids n s t u ln co hs w
  exact be_other kind h1 h2 h3 h4 h5 h6 h8 h29 kids n s t u ln co hs w

theorem entersCheck2 : ∀ args w, (callFunc 68 args).run Tryz.prog w = .ok (.enter 68 args) w := enters_of Tryz.func68 (by kernel_rfl) rfl

/-- A list of nodes that Go's numbers can hold. -/
structure Fits (l : List Tr.Nd) : Prop where
  len : l.length ≤ 2199023255552
  kids : ∀ x ∈ l, x.kids ≤ 9223372036854775807
  str : ∀ x ∈ l, x.s.size ≤ maxLen

/-- What Check's walk keeps. -/
def CI (l : List Tr.Nd) (v : Value) (bl bd : Nat) (k : Nat) (st : List Nat) (w : World) : Prop :=
  ∃ dp : Nat, w.cell? ⟨bl, 0, none⟩ = some v ∧ w.cell? ⟨bd, 0, none⟩ = some (.int .i64 (dp : Int)) ∧ w.frozen? ⟨bd, 0, none⟩ = false ∧ Tr.ck Tr.mayB l [1] 0 0 = Tr.ck Tr.mayB (l.drop k) st k dp
def CJ (l : List Tr.Nd) (bd : Nat) (k : Nat) (_ : List Nat) (w : World) : Prop := (∃ x : Int, w.cell? ⟨bd, 0, none⟩ = some (.int .i64 x)) ∧ Tr.ck Tr.mayB l [1] 0 0 = (18, k)
theorem drop_node {l : List Tr.Nd} {k : Nat} {x : Tr.Nd} (h : l[k]? = some x) : l.drop k = x :: l.drop (k + 1) := by
  obtain ⟨hk, rfl⟩ := List.getElem?_eq_some_iff.1 h
  exact List.drop_eq_getElem_cons hk

theorem Tr.arK_pos (k : Int) : 0 ≤ Tr.arK k ∧ Tr.arK k ≤ 3 := by unfold Tr.arK; repeat' split <;> omega
theorem Tr.mayB_kids {x : Tr.Nd} (h : Tr.mayB x = true) : 0 ≤ x.kids := by
  have hf : Tr.fitB x = true := by
    unfold Tr.mayB at h
    simp only [Bool.and_eq_true] at h
    exact h.1.1.1.1
  unfold Tr.fitB at hf
  have := Tr.arK_pos x.kind
  split at hf
  · simpa using hf
  · split at hf
    · simp at hf
    · simp at hf; omega
theorem agg_cells {w : World} {b o : Nat} {x : Tr.Nd} (h : ∀ i u, (Tr.ncells x)[i]? = some u → w.cell? ⟨b, o + i, none⟩ = some u) :
    w.cell? ⟨b, o, none⟩ = some (.int .i8 x.kind) ∧ w.cell? ⟨b, o + 1, none⟩ = some (.int .i64 x.kids) ∧ w.cell? ⟨b, o + 2, none⟩ = some (.int .i64 x.n) ∧ w.cell? ⟨b, o + 3, none⟩ = some (.string x.s) ∧
    w.cell? ⟨b, o + 4, none⟩ = some (.string x.t) ∧ w.cell? ⟨b, o + 5, none⟩ = some (.string x.u) ∧ w.cell? ⟨b, o + 6, none⟩ = some (.int .i64 x.ln) ∧ w.cell? ⟨b, o + 7, none⟩ = some (.int .i64 x.co) :=
  ⟨h 0 _ rfl, h 1 _ rfl, h 2 _ rfl, h 3 _ rfl, h 4 _ rfl, h 5 _ rfl, h 6 _ rfl, h 7 _ rfl⟩

set_option maxHeartbeats 2000000 in
theorem check2_any (l : List Tr.Nd) (hf : Fits l) (v : Value) (bl bd base : Nat) (hoff : Off v (some bd)) (hbl : bl < base) (hbd : bd < base) (hne : bl ≠ bd) :
    Visits l v 68 #[.pointer (some ⟨bl, 0, none⟩), .pointer (some ⟨bd, 0, none⟩)] (some bd) base (CI l v bl bd) (CJ l bd) := by
  intro k m st x w hx hst hl hb hI
  obtain ⟨dp, hcl, hcd, hfd, hck⟩ := hI
  obtain ⟨a, c, rfl⟩ := hl.form
  obtain ⟨b1, o1, rfl, hlc, hb1, hcx⟩ := hl.at hx
  have hxl := List.mem_of_getElem? hx
  have hklt : k < l.length := (List.getElem?_eq_some_iff.1 hx).1
  have hlen := hf.len
  obtain ⟨c0, c1, c2, c3, c4, c5, c6, c7⟩ := agg_cells (o := o1 + k * 8) hcx
  have hm := mayBe_any x (hf.str x hxl)
  rw [drop_node hx] at hck
  have hk1 : (k : Int) < (l.length : Int) := by omega
  have hk0 : (0 : Int) ≤ (k : Int) := by omega
  have HC1 : Aside (Tr.mayB x = false → Tr.ck Tr.mayB l [1] 0 0 = (18, k)) := fun h => by rw [hck, Tr.ck, if_neg (by simp [Tr.popz]), if_pos h]
  have HC2 : Aside (Tr.mayB x = true → Tr.ck Tr.mayB l [1] 0 0 = Tr.ck Tr.mayB (l.drop (k + 1)) (x.kids.toNat :: m :: st) (k + 1) (if 64 < st.length + 1 ∧ dp = 0 then k else dp)) := fun h => by
    rw [hck, Tr.ck, if_neg (by simp [Tr.popz]), if_neg (by simp [h])]; rfl
  have HK : Aside (Tr.mayB x = true → 0 ≤ x.kids) := fun h => Tr.mayB_kids h
  clear hck hcx hx hxl hf hst
  unfold Tr.agg at hm
  show Calls Tryz.prog 68 #[.int .i64 (k : Int), .int .i64 ((st.length + 1 : Nat) : Int), .pointer (some ⟨bl, 0, none⟩), .pointer (some ⟨bd, 0, none⟩)] w _
  cases hmb : Tr.mayB x
  · rw [hmb] at hm
    have H18 := HC1.out hmb
    have H18 : Aside (Tr.ck Tr.mayB l [1] 0 0 = (18, k)) := H18
    clear hmb HC1 HC2 HK
    go_enter Tryz.func68, Tryz.ntmps68
    go_wp2_with (go_at_call 69; refine (hm _).mono ?_; rintro e w1 ⟨rfl, hB1⟩)
    refine ⟨rfl, grown_of_below (grownBy_refl w _) hB1, .inr ⟨rfl, ⟨dp, ?_⟩, H18.out⟩⟩
    exact (hB1.cell (p := ⟨bd, 0, none⟩) (Nat.lt_of_lt_of_le hbd hb)).trans hcd
  · rw [hmb] at hm
    have hkp := HK.out hmb
    have H2 : Aside (_ = _) := HC2.out hmb
    clear hmb HC1 HC2 HK
    have step : Aside (∀ (w1 w2 : World) (dp' : Nat), Below w.heap.size w w1 → w1.grownBy w2 (some bd) → w2.cell? ⟨bd, 0, none⟩ = some (.int .i64 (dp' : Int)) → w2.frozen? ⟨bd, 0, none⟩ = false → (if 64 < st.length + 1 ∧ dp = 0 then k else dp) = dp' →
        w.grownBy w2 (some bd) ∧ CI l (.slice (some ⟨b1, o1, none⟩) l.length c) bl bd (k + 1) (x.kids.toNat :: m :: st) w2) := by
      show ∀ (w1 w2 : World) (dp' : Nat), Below w.heap.size w w1 → w1.grownBy w2 (some bd) → w2.cell? ⟨bd, 0, none⟩ = some (.int .i64 (dp' : Int)) → w2.frozen? ⟨bd, 0, none⟩ = false → (if 64 < st.length + 1 ∧ dp = 0 then k else dp) = dp' →
        w.grownBy w2 (some bd) ∧ CI l (.slice (some ⟨b1, o1, none⟩) l.length c) bl bd (k + 1) (x.kids.toNat :: m :: st) w2
      intro w1 w2 dp' hB hg hc hf he
      refine ⟨grown_then (grown_of_below (grownBy_refl w _) hB) hg, ⟨dp', ?_, hc, hf, ?_⟩⟩
      · refine hg.cell ?_ (by simpa using hne)
        exact (hB.cell (p := ⟨bl, 0, none⟩) (Nat.lt_of_lt_of_le hbl hb)).trans hcl
      · rw [← he]; exact H2.out
    have hbd' : bd < w.heap.size := Nat.lt_of_lt_of_le hbd hb
    by_cases hd : 64 < st.length + 1
    · have hd' : (64 : Int) < (st.length : Int) + 1 := by omega
      by_cases h0 : dp = 0
      · subst h0
        go_enter Tryz.func68, Tryz.ntmps68
        go_wp2_with (go_at_call 69; refine (hm _).mono ?_; rintro e w1 ⟨rfl, hB1⟩; have e1 := (hB1.cell (p := ⟨bd, 0, none⟩) hbd').trans hcd; have e2 := (hB1.frozen (p := ⟨bd, 0, none⟩) hbd').trans hfd)
        refine bodyPost_end (results_none rfl _ _ _) rfl ?_
        have hst := step.out w1 (w1.setCell ⟨bd, 0, none⟩ (.int .i64 (k : Int))) k hB1 (grownBy_set (grownBy_refl _ _) _) ?_ ?_ (by simp [hd])
        · exact ⟨hst.1, .inl ⟨rfl, fun _ => hst.2, fun h => absurd hkp (by omega)⟩⟩
        · simp [go_sem, e1]
        · rw [World.frozen?_setCell]; exact e2
      · have h0' : ((dp : Int) == 0) = false := by simp; omega
        go_enter Tryz.func68, Tryz.ntmps68
        go_wp2_with (go_at_call 69; refine (hm _).mono ?_; rintro e w1 ⟨rfl, hB1⟩; have e1 := (hB1.cell (p := ⟨bd, 0, none⟩) hbd').trans hcd; have e2 := (hB1.frozen (p := ⟨bd, 0, none⟩) hbd').trans hfd)
        refine bodyPost_end (results_none rfl _ _ _) rfl ?_
        have hst := step.out w1 w1 dp hB1 (grownBy_refl _ _) e1 e2 (by simp [h0])
        exact ⟨hst.1, .inl ⟨rfl, fun _ => hst.2, fun h => absurd hkp (by omega)⟩⟩
    · have hd' : decide ((64 : Int) < (st.length : Int) + 1) = false := by simp; omega
      go_enter Tryz.func68, Tryz.ntmps68
      go_wp2_with (go_at_call 69; refine (hm _).mono ?_; rintro e w1 ⟨rfl, hB1⟩; have e1 := (hB1.cell (p := ⟨bd, 0, none⟩) hbd').trans hcd; have e2 := (hB1.frozen (p := ⟨bd, 0, none⟩) hbd').trans hfd)
      refine bodyPost_end (results_none rfl _ _ _) rfl ?_
      have hst := step.out w1 w1 dp hB1 (grownBy_refl _ _) e1 e2 (by simp [hd])
      exact ⟨hst.1, .inl ⟨rfl, fun _ => hst.2, fun h => absurd hkp (by omega)⟩⟩
end Go.Proofs.YtohjfikjbeafiaaGreatDoor
namespace Go.Proofs.YtohjfikjbeafiaaGreatDoor
open Go.RowKit
set_option maxRecDepth 100000
set_option linter.unusedSimpArgs false

theorem ccatch_idle (p q : Addr) (w : World) :
    CallsD Tryz.prog 66 #[.pointer (some p), .pointer (some q)] .returning w fun e u' w' => e = .returned (.tuple #[]) ∧ u' = .returning ∧ w' = w := by
  refine callsD_of_wpS Tryz.func66 rfl fun c₀ cs hu => ?_
  apply wpS_seq
  apply wpS_region
  simp [wpOpsS, go_sem, recoverD, hu, Tryz.ntmps66, Exit.thenS]
  apply wpS_seq
  apply wpS_region
  simp [wpOpsS, go_sem, Exit.thenS]
  refine wpS_cond (t := false) (by simp [Act.eval, Array.replicate]) ?_
  simp only [Bool.false_eq_true, if_false]
  refine wpS_of_wp (wp_skip ?_)
  cases c₀
  simp_all [bodyPostS, results, Tryz.results66]

set_option maxHeartbeats 1000000 in
theorem ccatch_panicking (bp bq : Nat) (x y : Int) (k : Nat) (older : List PanicEntry) (w : World) (hp : w.cell? ⟨bp, 0, none⟩ = some (.int .i64 x)) (hq : w.cell? ⟨bq, 0, none⟩ = some (.int .i64 y)) (fp : w.frozen? ⟨bp, 0, none⟩ = false) (fq : w.frozen? ⟨bq, 0, none⟩ = false) (hne : bp ≠ bq) :
    CallsD Tryz.prog 66 #[.pointer (some ⟨bp, 0, none⟩), .pointer (some ⟨bq, 0, none⟩)] (.panicking ({ v := .iface 109 (.agg #[.int .i64 (k : Int)]), recovered := false } :: older)) w fun e u' w' =>
      e = .returned (.tuple #[]) ∧ u' = .panicking ({ v := .iface 109 (.agg #[.int .i64 (k : Int)]), recovered := true } :: older) ∧ w' = ((w.setCell ⟨bp, 0, none⟩ (.int .i64 18)).setCell ⟨bq, 0, none⟩ (.int .i64 (k : Int))).drew := by
  refine callsD_of_wpS Tryz.func66 rfl fun c₀ cs hu => ?_
  apply wpS_seq
  apply wpS_region
  simp [wpOpsS, go_sem, recoverD, hu, Tryz.ntmps66, Exit.thenS]
  apply wpS_seq
  apply wpS_region
  simp [wpOpsS, go_sem, Exit.thenS]
  refine wpS_cond (t := true) (by simp [Act.eval, Array.replicate]) ?_
  simp only [if_true]
  refine wpS_of_wp ?_
  have hta : ∀ w : World, (Instr.typeAssert (.iface 109 (.agg #[.int .i64 (k : Int)])) 20 109 false).run Tryz.prog w = .ok (.agg #[.int .i64 (k : Int)]) w := fun w => by kernel_rfl
  have hfi : ∀ w : World, (Instr.field 109 (.agg #[.int .i64 (k : Int)]) 0).run Tryz.prog w = .ok (.int .i64 (k : Int)) w := fun w => by kernel_rfl
  go_region
  all_goals simp [bodyPostS, results, Tryz.results66, go_sem]

theorem Off.fresh {w : World} {v : Value} {l : List Tr.Nd} {b : Nat} (h : IsNodes w v l) (hn : 0 < l.length) (hb : w.heap.size ≤ b) : Off v (some b) := by
  rcases h with ⟨rfl, _⟩ | ⟨b1, o, c, rfl, _, h2, _⟩
  · simp at hn
  · intro b2 o2 n c2 h e
    simp at h e
    omega

theorem Tr.ck_pop (may : Tr.Nd → Bool) (l : List Tr.Nd) (r : List Nat) (i dp : Nat) : Tr.ck may l (0 :: r) i dp = Tr.ck may l r i dp := by cases l <;> rfl
/-- What Check answers, as a pair of numbers. -/
def chkN (l : List Tr.Nd) : Nat × Nat := Tr.check Tr.mayB l
theorem chkN_many {l : List Tr.Nd} (h : l.length = 0 ∨ 4096 < l.length) : chkN l = (17, 0) := by unfold chkN Tr.check; rw [if_pos h]
theorem chkN_ck {l : List Tr.Nd} (h : ¬ (l.length = 0 ∨ 4096 < l.length)) : chkN l = Tr.ck Tr.mayB l [1] 0 0 := by unfold chkN Tr.check; rw [if_neg h]

set_option maxHeartbeats 2000000 in
theorem treeCheck_any (l : List Tr.Nd) (hf : Fits l) (v : Value) (w : World) (hl : IsNodes w v l) :
    Calls Tryz.prog 27 #[v] w fun e w' => e = .returned (.tuple #[.int .i64 ((chkN l).1 : Int), .int .i64 ((chkN l).2 : Int)]) ∧ Below w.heap.size w w' := by
  have hmf : ∀ (fn : Fn) (first cap : Array Value) (w : World), (Instr.makeFunc fn first cap).run Tryz.prog w = .ok (.func fn first cap) w := fun _ _ _ _ => rfl
  obtain ⟨a, c, rfl⟩ := hl.form
  have hB0 : ∀ o1 o2 o3 o4 : Obj, Below w.heap.size w ((((w.alloc o1).alloc o2).alloc o3).alloc o4) := fun o1 o2 o3 o4 => balloc (balloc (balloc (balloc (Below.refl _ _) _) _) _) _
  by_cases h0 : l.length = 0
  · have HN : Aside (chkN l = (17, 0)) := chkN_many (.inl h0)
    have h0' : ((l.length : Int) == 0) = true := by rw [h0]; rfl
    go_enter_defers Tryz.func27, Tryz.ntmps27
    go_wp2_with fail
    simp [bodyPostD, Leaves, settle, results, Tryz.results27, go_sem, HN.out]
    exact balloc (balloc (balloc (Below.refl _ _) _) _) _
  · have hp : 0 < l.length := by omega
    have h0' : ((l.length : Int) == 0) = false := by simpa using h0
    by_cases h1 : 4096 < l.length
    · have HN : Aside (chkN l = (17, 0)) := chkN_many (.inr h1)
      have h1' : (4096 : Int) < (l.length : Int) := by omega
      go_enter_defers Tryz.func27, Tryz.ntmps27
      go_wp2_with fail
      simp [bodyPostD, Leaves, settle, results, Tryz.results27, go_sem, HN.out]
      exact balloc (balloc (balloc (Below.refl _ _) _) _) _
    · have HN : Aside (chkN l = Tr.ck Tr.mayB l [1] 0 0) := chkN_ck (by omega)
      have h1' : decide ((4096 : Int) < (l.length : Int)) = false := by simp; omega
      have hl4 : l.length ≤ 4096 := by omega
      generalize hW : (((w.alloc (.cells #[.slice a l.length c] 56)).alloc (.cells #[.int .i64 0] 26)).alloc (.cells #[.int .i64 0] 3)).alloc (.cells #[.int .i64 0] 3) = W
      have hWs : W.heap.size = w.heap.size + 4 := by rw [← hW]; simp
      have hBW : Below w.heap.size w W := by rw [← hW]; exact hB0 _ _ _ _
      have k0 : W.cell? ⟨w.heap.size, 0, none⟩ = some (.slice a l.length c) := by rw [← hW]; simp [go_sem]
      have k1 : W.cell? ⟨w.heap.size + 1, 0, none⟩ = some (.int .i64 0) := by rw [← hW]; simp [go_sem]
      have k2 : W.cell? ⟨w.heap.size + 2, 0, none⟩ = some (.int .i64 0) := by rw [← hW]; simp [go_sem]
      have k3 : W.cell? ⟨w.heap.size + 3, 0, none⟩ = some (.int .i64 0) := by rw [← hW]; simp [go_sem]
      have f1 : W.frozen? ⟨w.heap.size + 1, 0, none⟩ = false := by rw [← hW]; simp [go_sem]
      have f2 : W.frozen? ⟨w.heap.size + 2, 0, none⟩ = false := by rw [← hW]; simp [go_sem]
      have f3 : W.frozen? ⟨w.heap.size + 3, 0, none⟩ = false := by rw [← hW]; simp [go_sem]
      have hlW := hl.below hBW
      have hoff : Off (.slice a l.length c) (some (w.heap.size + 3)) := Off.fresh hl hp (by omega)
      have hI0 : CI l (.slice a l.length c) w.heap.size (w.heap.size + 3) 0 [1] W := ⟨0, k0, k3, f3, rfl⟩
      have hWk := walk_any l hf.len hf.kids (.slice a l.length c) 68 #[.pointer (some ⟨w.heap.size, 0, none⟩), .pointer (some ⟨w.heap.size + 3, 0, none⟩)] (some (w.heap.size + 3)) 0 (by omega) W (CI l (.slice a l.length c) w.heap.size (w.heap.size + 3)) (CJ l (w.heap.size + 3)) entersCheck2 hlW hoff (fun b h => by cases h; omega) (check2_any l hf _ _ _ _ hoff (by omega) (by omega) (by omega))
        (fun k st w1 w2 h hB => by
          obtain ⟨dp, a1, a2, a3, a4⟩ := h
          exact ⟨dp, (hB.cell (p := ⟨w.heap.size, 0, none⟩) (by simp; omega)).trans a1, (hB.cell (p := ⟨w.heap.size + 3, 0, none⟩) (by simp; omega)).trans a2, (hB.frozen (p := ⟨w.heap.size + 3, 0, none⟩) (by simp; omega)).trans a3, a4⟩)
        (fun k r w1 h => by
          obtain ⟨dp, a1, a2, a3, a4⟩ := h
          exact ⟨dp, a1, a2, a3, by rw [a4]; exact Tr.ck_pop _ _ _ _ _⟩) hI0
      have HW : Aside (_ = W) := hW
      clear hI0 hlW hl hoff k0 k3 f3 hB0 hW
      go_enter_defers Tryz.func27, Tryz.ntmps27
      go_wp2_with fail
      rw [HW.out]
      refine hWk.mono ?_
      rintro e w2 ⟨hg2, hend⟩
      have hB2 : Below w.heap.size w w2 := hBW.grown hg2 (by omega) (fun k e => by cases e; omega)
      have c1 : w2.cell? ⟨w.heap.size + 1, 0, none⟩ = some (.int .i64 0) := hg2.cell k1 (by simp)
      have c2 : w2.cell? ⟨w.heap.size + 2, 0, none⟩ = some (.int .i64 0) := hg2.cell k2 (by simp)
      have g1 : w2.frozen? ⟨w.heap.size + 1, 0, none⟩ = false := (World.frozen?_of_block (w := W) (hg2.block _ (by simp; omega) (by simp))).trans f1
      have g2 : w2.frozen? ⟨w.heap.size + 2, 0, none⟩ = false := (World.frozen?_of_block (w := W) (hg2.block _ (by simp; omega) (by simp))).trans f2
      cases hend with
      | done j st hj hst hI =>
        obtain ⟨dp, a1, a2, a3, a4⟩ := hI
        have hjl : j ≤ 4096 := by omega
        have hfinB : ∀ u v : Value, Below w.heap.size w ((w2.setCell ⟨w.heap.size + 1, 0, none⟩ u).setCell ⟨w.heap.size + 2, 0, none⟩ v) := fun u v => (hB2.setCell (by simp) _).setCell (by simp) _
        by_cases hjl2 : j < l.length
        · have H18 : Aside (chkN l = (18, j)) := by
            show _ = _
            rw [HN.out, a4, drop_node (List.getElem?_eq_getElem hjl2), Tr.ck, if_pos hst]
          have hj' : (j : Int) < (l.length : Int) := by omega
          clear a4
          go_wp2_with fail
          refine leaves_cons (f := 66) (args := #[.pointer (some ⟨w.heap.size + 1, 0, none⟩), .pointer (some ⟨w.heap.size + 2, 0, none⟩)]) (by simp) (by simp [go_sem]) ?_
          refine (ccatch_idle ⟨w.heap.size + 1, 0, none⟩ ⟨w.heap.size + 2, 0, none⟩ _).mono ?_
          rintro e u' w'' ⟨rfl, rfl, rfl⟩
          simp [Leaves, settle, results, Tryz.results27, go_sem, H18.out, c1, c2]
          exact hfinB _ _
        · have hjl3 : j = l.length := by omega
          have hj' : decide ((j : Int) < (l.length : Int)) = false := by simp; omega
          have H0 : Aside (chkN l = Tr.fin dp) := by
            show _ = _
            rw [HN.out, a4, hjl3, List.drop_length, Tr.ck, if_pos hst]
          clear a4 hjl3
          by_cases hdp : 0 < dp
          · have hdp' : (0 : Int) < (dp : Int) := by omega
            have H16 : Aside (chkN l = (16, dp)) := by show _ = _; rw [H0.out]; unfold Tr.fin; rw [if_pos hdp]
            go_wp2_with fail
            go_region
            all_goals
              go_wp2_with fail
              refine leaves_cons (f := 66) (args := #[.pointer (some ⟨w.heap.size + 1, 0, none⟩), .pointer (some ⟨w.heap.size + 2, 0, none⟩)]) (by simp) (by simp [go_sem]) ?_
              refine (ccatch_idle ⟨w.heap.size + 1, 0, none⟩ ⟨w.heap.size + 2, 0, none⟩ _).mono ?_
              rintro e u' w'' ⟨rfl, rfl, rfl⟩
              simp [Leaves, settle, results, Tryz.results27, go_sem, H16.out, c1, c2]
              exact below_drew (hfinB _ _)
          · have hdp' : decide ((0 : Int) < (dp : Int)) = false := by simp; omega
            have H00 : Aside (chkN l = (0, 0)) := by show _ = _; rw [H0.out]; unfold Tr.fin; rw [if_neg hdp]
            go_wp2_with fail
            refine leaves_cons (f := 66) (args := #[.pointer (some ⟨w.heap.size + 1, 0, none⟩), .pointer (some ⟨w.heap.size + 2, 0, none⟩)]) (by simp) (by simp [go_sem]) ?_
            refine (ccatch_idle ⟨w.heap.size + 1, 0, none⟩ ⟨w.heap.size + 2, 0, none⟩ _).mono ?_
            rintro e u' w'' ⟨rfl, rfl, rfl⟩
            simp [Leaves, settle, results, Tryz.results27, go_sem, H00.out, c1, c2]
            exact hfinB _ _
      | short st hst hI =>
        obtain ⟨dp, a1, a2, a3, a4⟩ := hI
        have H18 : Aside (chkN l = (18, l.length)) := by
          show _ = _
          rw [HN.out, a4, List.drop_length, Tr.ck, if_neg hst]
        clear a4
        go_wp2_with fail
        refine leaves_cons (f := 66) (args := #[.pointer (some ⟨w.heap.size + 1, 0, none⟩), .pointer (some ⟨w.heap.size + 2, 0, none⟩)]) (by simp) (by simp [go_sem]) ?_
        refine (ccatch_panicking (w.heap.size + 1) (w.heap.size + 2) 0 0 l.length [] _ c1 c2 g1 g2 (by omega)).mono ?_
        rintro e u' w'' ⟨rfl, rfl, rfl⟩
        simp [Leaves, settle, results, Tryz.results27, go_sem, H18.out, c1, c2]
        exact below_drew ((hB2.setCell (by simp) _).setCell (by simp) _)
      | bad j st hj hst hJ =>
        obtain ⟨_, a4⟩ := hJ
        have H18 : Aside (chkN l = (18, j)) := by show _ = _; rw [HN.out, a4]
        clear a4
        go_wp2_with fail
        refine leaves_cons (f := 66) (args := #[.pointer (some ⟨w.heap.size + 1, 0, none⟩), .pointer (some ⟨w.heap.size + 2, 0, none⟩)]) (by simp) (by simp [go_sem]) ?_
        refine (ccatch_panicking (w.heap.size + 1) (w.heap.size + 2) 0 0 j [] _ c1 c2 g1 g2 (by omega)).mono ?_
        rintro e u' w'' ⟨rfl, rfl, rfl⟩
        simp [Leaves, settle, results, Tryz.results27, go_sem, H18.out, c1, c2]
        exact below_drew ((hB2.setCell (by simp) _).setCell (by simp) _)
end Go.Proofs.YtohjfikjbeafiaaGreatDoor
namespace Go.Proofs.YtohjfikjbeafiaaGreatDoor
open Go.RowKit
set_option maxRecDepth 100000
set_option linter.unusedSimpArgs false

theorem own_below {w w' : World} {base e size n : Nat} {v : Value} {xs : List Value} (h : w.ownsRow base e size v n xs) (hB : Below w.heap.size w w') : w'.ownsRow base e size v n xs :=
  h.kept (row := none) (grown_of_below (grownBy_refl _ _) hB) (by by_cases h : v.ownBlock = none; · exact .inl h
                                                                  exact .inr h)
/-- Where the kids of a node begin. -/
def kidsN (l : List Tr.Nd) (at0 : Int) : List Nat := if bhI l at0 = 0 then [] else (List.range ((l[at0.toNat]?.map Tr.Nd.kids).getD 0).toNat).map (Tr.kidAt l at0.toNat)
def icells (ks : List Nat) : List Value := ks.map fun (k : Nat) => Value.int .i64 (k : Int)
theorem icells_append (a b : List Nat) : icells (a ++ b) = icells a ++ icells b := by simp [icells]

/-- Of a part that is there: the node, how many kids, where they begin and where it ends. -/
theorem part_facts {l : List Tr.Nd} {p : Nat} (h : bhI l p ≠ 0) : ∃ (x : Tr.Nd) (n : Nat), l[p]? = some x ∧ x.kids = n ∧ kidsN l p = (List.range n).map (Tr.kidAt l p) ∧ Tr.kidAt l p n = bhI l p ∧ bhI l p ≤ l.length ∧ Tr.kidAt l p 0 = p + 1 ∧
    (∀ k, k < n → Tr.kidAt l p k < Tr.kidAt l p (k + 1) ∧ Tr.kidAt l p (k + 1) ≤ bhI l p ∧ Tr.kidAt l p (k + 1) = bhI l (Tr.kidAt l p k)) := by
  have hb : bhI l p = Tr.bh l p := by unfold bhI; rw [if_neg (by omega), Int.toNat_natCast]
  rw [hb] at h ⊢
  obtain ⟨t, rest, hw, hd⟩ := Tr.bh_some h
  obtain ⟨x, ks⟩ := t
  have hbt := Tr.bh_tree hd hw
  have hw' := hw
  rw [Tr.wf] at hw'
  have hx : l[p]? = some x := by have := Tr.at_drop (q := 0) hd; simpa [Tr.flat] using this
  have hk := fun k hk => Tr.kidAt_tree hw'.2 hd k hk
  have hfl : (Tr.flat (.nd x ks)).length = 1 + (Tr.flats ks).length := by simp [Tr.flat]; omega
  refine ⟨x, ks.length, hx, hw'.1, ?_, ?_, ?_, rfl, ?_⟩
  · unfold kidsN
    rw [hb, if_neg h, Int.toNat_natCast, hx]
    simp [hw'.1]
  · rw [hk _ (Nat.le_refl _), List.take_length, hbt, hfl]; omega
  · rw [hbt]
    have := congrArg List.length hd
    have := Tr.flat_pos (.nd x ks)
    simp at *
    omega
  · intro k hkl
    have e1 := hk k (by omega)
    have e2 := hk (k + 1) (by omega)
    have e3 : (Tr.flats (ks.take (k + 1))).length = (Tr.flats (ks.take k)).length + (Tr.flat ks[k]).length := by
      rw [List.take_add_one, List.getElem?_eq_getElem hkl, Tr.flats_append]; simp [Tr.flats]
    have e4 := Tr.flat_pos ks[k]
    have e5 : (Tr.flats (ks.take (k + 1))).length ≤ (Tr.flats ks).length := by
      have : Tr.flats ks = Tr.flats (ks.take (k + 1)) ++ Tr.flats (ks.drop (k + 1)) := by rw [← Tr.flats_append, List.take_append_drop]
      rw [this]; simp
    refine ⟨by omega, by rw [hbt, hfl]; omega, ?_⟩
    rw [Tr.kidAt]
    unfold bhI
    rw [if_neg (by omega), Int.toNat_natCast]

end Go.Proofs.YtohjfikjbeafiaaGreatDoor
namespace Go.Proofs.YtohjfikjbeafiaaGreatDoor
open Go.RowKit
set_option maxRecDepth 100000
set_option linter.unusedSimpArgs false

theorem entersDeep1 : ∀ args w, (callFunc 182 args).run Tryz.prog w = .ok (.enter 182 args) w := enters_of Tryz.func182 (by kernel_rfl) rfl

/-- The greatest depth; 0 of a list that isn't whole. -/
def deepN (l : List Tr.Nd) : Nat := if bhI l 0 = 0 ∨ bhI l 0 < l.length then 0 else Tr.mx (Tr.dps (Tr.kd l) [1]) 0
def DI (l : List Tr.Nd) (bd : Nat) (k : Nat) (st : List Nat) (w : World) : Prop :=
  ∃ d : Nat, w.cell? ⟨bd, 0, none⟩ = some (.int .i64 (d : Int)) ∧ w.frozen? ⟨bd, 0, none⟩ = false ∧ Tr.go (Tr.kd l) [1] 0 = Tr.go (Tr.kd (l.drop k)) st k ∧ Tr.mx (Tr.dps (Tr.kd l) [1]) 0 = Tr.mx (Tr.dps (Tr.kd (l.drop k)) st) d
def DJ (l : List Tr.Nd) (k : Nat) (_ : List Nat) (_ : World) : Prop := Tr.go (Tr.kd l) [1] 0 = (false, k)

set_option maxHeartbeats 1000000 in
theorem deep1_any (l : List Tr.Nd) (v : Value) (bd base : Nat) :
    Visits l v 182 #[.pointer (some ⟨bd, 0, none⟩)] (some bd) base (DI l bd) (DJ l) := by
  intro k m st x w hx hst hl hb hI
  obtain ⟨d, hcd, hfd, hgo, hmx⟩ := hI
  rw [Tr.drop_kd hx] at hgo hmx
  have HG1 : Aside (0 ≤ x.kids → Tr.go (Tr.kd l) [1] 0 = Tr.go (Tr.kd (l.drop (k + 1))) (x.kids.toNat :: m :: st) (k + 1)) := fun h => by rw [hgo, Tr.go_next (by simp [Tr.popz]) h]; rfl
  have HG2 : Aside (x.kids < 0 → Tr.go (Tr.kd l) [1] 0 = (false, k)) := fun h => by rw [hgo, Tr.go_neg (by simp [Tr.popz]) h]
  have HM : Aside (Tr.mx (Tr.dps (Tr.kd l) [1]) 0 = Tr.mx (Tr.dps (Tr.kd (l.drop (k + 1))) (x.kids.toNat :: m :: st)) (max d (st.length + 1))) := by
    show _ = _
    rw [hmx, Tr.dps_next (by simp [Tr.popz]), Tr.mx]; rfl
  clear hgo hmx hx hl
  show Calls Tryz.prog 182 #[.int .i64 (k : Int), .int .i64 ((st.length + 1 : Nat) : Int), .pointer (some ⟨bd, 0, none⟩)] w _
  go_enter Tryz.func182, Tryz.ntmps182
  go_wp2_with fail
  refine bodyPost_end (results_none rfl _ _ _) rfl ?_
  refine ⟨grownBy_set (grownBy_refl _ _) _, .inl ⟨rfl, fun h => ⟨max d (st.length + 1), ?_, ?_, HG1.out h, HM.out⟩, fun h => HG2.out h⟩⟩
  · simp [go_sem, hcd]
    omega
  · rw [World.frozen?_setCell]; exact hfd

set_option maxHeartbeats 2000000 in
theorem deep_any (l : List Tr.Nd) (hf : Fits l) (v : Value) (w : World) (hl : IsNodes w v l) :
    Calls Tryz.prog 151 #[v] w fun e w' => e = .returned (.int .i64 (deepN l : Int)) ∧ Below w.heap.size w w' := by
  have hmf : ∀ (fn : Fn) (first cap : Array Value) (w : World), (Instr.makeFunc fn first cap).run Tryz.prog w = .ok (.func fn first cap) w := fun _ _ _ _ => rfl
  obtain ⟨a, c, rfl⟩ := hl.form
  have hb0 := behind_any l hf.len hf.kids (.slice a l.length c) 0 w hl
  have hend : bhI l 0 ≠ 0 → bhI l 0 ≤ l.length := fun h => by obtain ⟨x, n, _, _, _, _, h2, _⟩ := part_facts (p := 0) (l := l) (by simpa using h); simpa using h2
  have HBG : Aside (0 < l.length → bhI l 0 = if (Tr.go (Tr.kd (l.drop 0)) [1] 0).1 then (Tr.go (Tr.kd (l.drop 0)) [1] 0).2 else 0) := fun h => bhI_go h
  by_cases h0 : bhI l 0 = 0
  · have HN : Aside (deepN l = 0) := by show _ = _; unfold deepN; rw [if_pos (.inl h0)]
    rw [h0] at hb0
    clear h0 hend
    go_enter Tryz.func151, Tryz.ntmps151
    go_wp2_with (go_at_call 181; refine hb0.mono ?_; rintro e w1 ⟨rfl, hB1⟩)
    go_ret
    rw [HN.out]
    exact ⟨rfl, hB1⟩
  · have he := hend h0
    have hp : 0 < l.length := by omega
    have h0' : ((bhI l 0 : Int) == 0) = false := by simpa using h0
    by_cases h1 : bhI l 0 < l.length
    · have HN : Aside (deepN l = 0) := by show _ = _; unfold deepN; rw [if_pos (.inr h1)]
      have h1' : (bhI l 0 : Int) < (l.length : Int) := by omega
      clear h0 hend
      go_enter Tryz.func151, Tryz.ntmps151
      go_wp2_with (go_at_call 181; refine hb0.mono ?_; rintro e w1 ⟨rfl, hB1⟩)
      go_ret
      rw [HN.out]
      exact ⟨rfl, hB1⟩
    · have HN : Aside (deepN l = Tr.mx (Tr.dps (Tr.kd l) [1]) 0) := by show _ = _; unfold deepN; rw [if_neg (by omega)]
      have h1' : decide ((bhI l 0 : Int) < (l.length : Int)) = false := by simp; omega
      have HG : Aside (Tr.go (Tr.kd l) [1] 0 = (true, l.length)) := by
        show _ = _
        have := HBG.out hp
        rw [List.drop_zero] at this
        cases hg : Tr.go (Tr.kd l) [1] 0 with
        | mk b e =>
          rw [hg] at this
          cases b
          · simp at this; omega
          · simp at this
            rw [show e = l.length by omega]
      clear hend h0
      have hwk : ∀ w1 : World, Below w.heap.size w w1 → Calls Tryz.prog 67 #[.slice a l.length c, .int .i64 0, .func (.func 182) #[] #[.pointer (some ⟨w1.heap.size, 0, none⟩)]] (w1.alloc (.cells #[.int .i64 0] 3)) fun e w' => (w1.alloc (.cells #[.int .i64 0] 3)).grownBy w' (some w1.heap.size) ∧ WEnd l (DI l w1.heap.size) (DJ l) w' e := by
        intro w1 hB1
        have hl1 := (hl.below hB1).below ((Below.refl w1.heap.size w1).alloc (Nat.le_refl _) (.cells #[.int .i64 0] 3))
        refine walk_any l hf.len hf.kids (.slice a l.length c) 182 #[.pointer (some ⟨w1.heap.size, 0, none⟩)] (some w1.heap.size) 0 (by omega) _ (DI l w1.heap.size) (DJ l) entersDeep1 hl1 (Off.fresh hl hp hB1.size) (fun b h => by cases h; simp) (deep1_any l _ _ _) ?_ ?_ ?_
        · rintro k st w2 w3 ⟨d, a1, a2, a3, a4⟩ hB
          exact ⟨d, (hB.cell (p := ⟨w1.heap.size, 0, none⟩) (by simp)).trans a1, (hB.frozen (p := ⟨w1.heap.size, 0, none⟩) (by simp)).trans a2, a3, a4⟩
        · rintro k r w2 ⟨d, a1, a2, a3, a4⟩
          exact ⟨d, a1, a2, by rw [a3, Tr.go_pop], by rw [a4, Tr.dps_pop]⟩
        · exact ⟨0, by simp [go_sem], by simp [go_sem], rfl, rfl⟩
      go_enter Tryz.func151, Tryz.ntmps151
      go_wp2_with (first | (go_at_call 181; refine hb0.mono ?_; rintro e w1 ⟨rfl, hB1⟩) | (go_at_call 67; refine (hwk _ hB1).mono ?_))
      rintro e w2 ⟨hg2, hen⟩
      have hB2 : Below w.heap.size w w2 := (hB1.alloc hB1.size _).grown hg2 (by simp; have := hB1.size; omega) (fun k e => by cases e; exact hB1.size)
      cases hen with
      | done j st hj hst hI =>
        obtain ⟨d, a1, a2, a3, a4⟩ := hI
        have HD : Aside (deepN l = d) := by show _ = _; rw [HN.out, a4, Tr.dps_done hst]; rfl
        clear a3 a4
        go_wp2_with fail
        go_ret
        rw [HD.out]
        exact ⟨rfl, hB2⟩
      | short st hst hI =>
        obtain ⟨d, a1, a2, a3, a4⟩ := hI
        exfalso
        rw [HG.out, List.drop_length] at a3
        have := Tr.go_end hst l.length
        rw [show Tr.kd ([] : List Tr.Nd) = [] from rfl, this] at a3
        simp at a3
      | bad j st hj hst hJ =>
        exfalso
        unfold DJ at hJ
        rw [HG.out] at hJ
        simp at hJ
end Go.Proofs.YtohjfikjbeafiaaGreatDoor
namespace Go.Proofs.YtohjfikjbeafiaaGreatDoor
open Go.RowKit
set_option maxRecDepth 100000
set_option linter.unusedSimpArgs false

/-- Are two nodes alike but for their places? -/
def likeB (x y : Tr.Nd) : Bool := decide (x.kind = y.kind) && decide (x.kids = y.kids) && decide (x.n = y.n) && decide (x.s.toList = y.s.toList) && decide (x.t.toList = y.t.toList) && decide (x.u.toList = y.u.toList)
/-- Are two lists alike but for places? -/
def likes : List Tr.Nd → List Tr.Nd → Bool
  | [], [] => true
  | x :: a, y :: b => likeB x y && likes a b
  | _, _ => false
theorem likes_len : ∀ {a b : List Tr.Nd}, a.length ≠ b.length → likes a b = false
  | [], [], h => absurd rfl h
  | [], _ :: _, _ => rfl
  | _ :: _, [], _ => rfl
  | x :: a, y :: b, h => by rw [likes, likes_len (by simpa using h), Bool.and_false]
theorem entersEqual1 : ∀ args w, (callFunc 71 args).run Tryz.prog w = .ok (.enter 71 args) w := enters_of Tryz.func71 (by kernel_rfl) rfl

set_option maxHeartbeats 4000000 in
theorem equal1_any (k1 d1 n1 : Int) (s1 t1 u1 : ByteArray) (l1 c1 : Int) (k2 d2 n2 : Int) (s2 t2 u2 : ByteArray) (l2 c2 : Int) (w : World) :
    Calls Tryz.prog 71 #[.agg #[.int .i8 k1, .int .i64 d1, .int .i64 n1, .string s1, .string t1, .string u1, .int .i64 l1, .int .i64 c1], .agg #[.int .i8 k2, .int .i64 d2, .int .i64 n2, .string s2, .string t2, .string u2, .int .i64 l2, .int .i64 c2]] w fun e w' =>
      e = .returned (.bool (likeB ⟨k1, d1, n1, s1, t1, u1, l1, c1⟩ ⟨k2, d2, n2, s2, t2, u2, l2, c2⟩)) ∧ Below w.heap.size w w' := by
  have HM : Aside (likeB ⟨k1, d1, n1, s1, t1, u1, l1, c1⟩ ⟨k2, d2, n2, s2, t2, u2, l2, c2⟩ = (decide (k1 = k2) && decide (d1 = d2) && decide (n1 = n2) && decide (s1.toList = s2.toList) && decide (t1.toList = t2.toList) && decide (u1.toList = u2.toList))) := rfl
  go_enter Tryz.func71, Tryz.ntmps71
  go_wp2_with fail
  all_goals
    go_ret
    rw [HM.out]
    go_light
    refine ⟨ret_bool ?_, ?_⟩
    · clear HM
      simp [*]
    · repeat (first | exact Below.refl _ _ | refine bset ?_ | refine balloc ?_ _)

def EQF : Nat := 70
theorem getc {a : List Tr.Nd} {k : Nat} (h : k < a.length) : ∃ x, a[k]? = some x ∧ a.drop k = x :: a.drop (k + 1) := ⟨a[k], List.getElem?_eq_getElem h, List.drop_eq_getElem_cons h⟩

set_option maxHeartbeats 4000000 in
theorem equalFunc_any (a b : List Tr.Nd) (ha : a.length ≤ 2199023255552) (va vb : Value) (w : World) (hla : IsNodes w va a) (hlb : IsNodes w vb b) :
    Calls Tryz.prog 70 #[va, vb, .func (.func 71) #[] #[]] w fun e w' => e = .returned (.bool (likes a b)) ∧ Below w.heap.size w w' := by
  have hE := entersEqual1
  obtain ⟨aa, ca, rfl⟩ := hla.form
  obtain ⟨ab, cb, rfl⟩ := hlb.form
  by_cases hne : a.length = b.length
  · have hne' : ((a.length : Int) != (b.length : Int)) = false := by simp [hne]
    have HL : Aside (a.length = b.length) := hne
    clear hne
    go_enter Tryz.func70, Tryz.ntmps70
    go_wp2_with fail
    clear hne'
    go_loopg [17] a.length (fun g t wr => ∃ k : Nat, k + g = a.length ∧ t = .int .i64 k ∧ Below w.heap.size w wr ∧ Aside (likes a b = likes (a.drop k) (b.drop k)))
    case atStart => exact ⟨0, by omega, rfl, Below.refl _ _, rfl⟩
    case round =>
      obtain ⟨k, hkg, rfl, hB, HK⟩ := hrel
      by_cases hk : k < a.length
      · have hk' : (k : Int) < (a.length : Int) := by omega
        have hk0 : (0 : Int) ≤ (k : Int) := by omega
        have hkb : k < b.length := by rw [← HL.out]; exact hk
        have hkb' : (k : Int) < (b.length : Int) := by omega
        obtain ⟨x, hx, hdx⟩ := getc hk
        obtain ⟨y, hy, hdy⟩ := getc hkb
        obtain ⟨b1, o1, rfl, hc1, hl1, hcx⟩ := (hla.below hB).at hx
        obtain ⟨b2, o2, rfl, hc2, hl2, hcy⟩ := (hlb.below hB).at hy
        obtain ⟨p0, p1, p2, p3, p4, p5, p6, p7⟩ := agg_cells (o := o1 + k * 8) hcx
        obtain ⟨q0, q1, q2, q3, q4, q5, q6, q7⟩ := agg_cells (o := o2 + k * 8) hcy
        have HS : Aside (likes a b = (likeB x y && likes (a.drop (k + 1)) (b.drop (k + 1)))) := by show _ = _; rw [HK.out, hdx, hdy, likes]
        have heq := equal1_any x.kind x.kids x.n x.s x.t x.u x.ln x.co y.kind y.kids y.n y.s y.t y.u y.ln y.co
        clear hcx hcy hdx hdy hx hy HK hla hlb
        cases hlk : likeB x y
        · rw [show likeB ⟨x.kind, x.kids, x.n, x.s, x.t, x.u, x.ln, x.co⟩ ⟨y.kind, y.kids, y.n, y.s, y.t, y.u, y.ln, y.co⟩ = false from hlk] at heq
          rw [hlk] at HS
          clear hlk
          go_wp2_with fail
          refine (heq _).mono ?_
          rintro e w1 ⟨rfl, hB1⟩
          go_wp2_with fail
          go_ret
          rw [HS.out]
          exact ⟨rfl, bt (balloc (balloc hB _) _) hB1⟩
        · rw [show likeB ⟨x.kind, x.kids, x.n, x.s, x.t, x.u, x.ln, x.co⟩ ⟨y.kind, y.kids, y.n, y.s, y.t, y.u, y.ln, y.co⟩ = true from hlk] at heq
          rw [hlk] at HS
          clear hlk
          go_wp2_with fail
          refine (heq _).mono ?_
          rintro e w1 ⟨rfl, hB1⟩
          go_wp2_with fail
          go_roundg (gk - 1)
          case measure => omega
          case rel => exact ⟨k + 1, by omega, by go_num, bt (balloc (balloc hB _) _) hB1, by rw [HS.out]; rfl⟩
      · have hk' : ¬ (k : Int) < (a.length : Int) := by omega
        have HR : Aside (likes a b = true) := by
          show _ = _
          rw [HK.out, List.drop_eq_nil_of_le (by omega), List.drop_eq_nil_of_le (by rw [← HL.out]; omega)]; rfl
        go_wp2_with fail
        go_ret
        rw [HR.out]
        exact ⟨rfl, hB⟩
  · have hne' : ((a.length : Int) != (b.length : Int)) = true := by simp; omega
    have HR : Aside (likes a b = false) := likes_len hne
    clear hne
    go_enter Tryz.func70, Tryz.ntmps70
    go_wp2_with fail
    go_ret
    rw [HR.out]
    exact ⟨rfl, Below.refl _ _⟩

set_option maxHeartbeats 1000000 in
theorem equal_any (a b : List Tr.Nd) (ha : a.length ≤ 2199023255552) (va vb : Value) (w : World) (hla : IsNodes w va a) (hlb : IsNodes w vb b) :
    Calls Tryz.prog 28 #[va, vb] w fun e w' => e = .returned (.bool (likes a b)) ∧ Below w.heap.size w w' := by
  have h := equalFunc_any a b ha va vb w hla hlb
  go_enter Tryz.func28, Tryz.ntmps28
  go_wp2_with fail
  refine h.mono ?_
  rintro e w1 ⟨rfl, hB1⟩
  go_wp2_with fail
  go_ret
  exact ⟨rfl, hB1⟩
end Go.Proofs.YtohjfikjbeafiaaGreatDoor
namespace Go.Proofs.YtohjfikjbeafiaaGreatDoor
open Go.RowKit
set_option maxRecDepth 100000
set_option linter.unusedSimpArgs false

namespace Tr
mutual
theorem flat_inj : ∀ (t t' : T) (r r' : List Nd), wf t → wf t' → flat t ++ r = flat t' ++ r' → t = t' ∧ r = r'
  | .nd x ks, .nd y js, r, r', h, h', e => by
    rw [wf] at h h'
    simp only [flat, List.cons_append, List.cons.injEq] at e
    obtain ⟨rfl, e⟩ := e
    have hl : ks.length = js.length := by have := h.1.symm.trans h'.1; omega
    obtain ⟨rfl, rfl⟩ := flats_inj ks js r r' hl h.2 h'.2 e
    exact ⟨rfl, rfl⟩
theorem flats_inj : ∀ (ts ts' : List T) (r r' : List Nd), ts.length = ts'.length → wfs ts → wfs ts' → flats ts ++ r = flats ts' ++ r' → ts = ts' ∧ r = r'
  | [], [], r, r', _, _, _, e => ⟨rfl, by simpa [flats] using e⟩
  | [], _ :: _, _, _, h, _, _, _ => by simp at h
  | _ :: _, [], _, _, h, _, _, _ => by simp at h
  | t :: ts, t' :: ts', r, r', h, h1, h2, e => by
    rw [wfs] at h1 h2
    rw [flats, flats, List.append_assoc, List.append_assoc] at e
    obtain ⟨e1, e2⟩ := flat_inj t t' _ _ h1.1 h2.1 e
    subst e1
    obtain ⟨rfl, rfl⟩ := flats_inj ts ts' r r' (by simpa using h) h1.2 h2.2 e2
    exact ⟨rfl, rfl⟩
end
end Tr
/-- Nodes as cells, one behind the other. -/
def nrow (l : List Tr.Nd) : List Value := (l.map Tr.ncells).flatten
theorem nrow_cons (x : Tr.Nd) (l : List Tr.Nd) : nrow (x :: l) = Tr.ncells x ++ nrow l := rfl
theorem nrow_at : ∀ (l : List Tr.Nd) (j : Nat) (x : Tr.Nd), l[j]? = some x → ∀ i u, (Tr.ncells x)[i]? = some u → (nrow l)[j * 8 + i]? = some u
  | [], j, x, h, _, _, _ => by simp at h
  | y :: l, 0, x, h, i, u, hu => by
    simp at h; subst h
    have hi : i < (Tr.ncells y).length := (List.getElem?_eq_some_iff.1 hu).1
    rw [nrow_cons, Nat.zero_mul, Nat.zero_add, List.getElem?_append_left hi]; exact hu
  | y :: l, j + 1, x, h, i, u, hu => by
    rw [nrow_cons, List.getElem?_append_right (by simp [Tr.ncells]; omega)]
    have := nrow_at l j x (by simpa using h) i u hu
    rw [← this]
    congr 1
    simp [Tr.ncells]; omega
theorem nrow_len (l : List Tr.Nd) : (nrow l).length = l.length * 8 := by
  induction l with
  | nil => rfl
  | cons x l ih => rw [nrow_cons, List.length_append, ih, List.length_cons]; simp [Tr.ncells]; omega
/-- A list that is written out. -/
theorem IsNodes.lit (w : World) (l : List Tr.Nd) (t : TypeId) (fr : Nat × Nat) (cap : Nat) (hcap : l.length ≤ cap) : IsNodes (w.alloc (.cells (nrow l).toArray t fr)) (.slice (some ⟨w.heap.size, 0, none⟩) l.length cap) l := by
  refine .inr ⟨_, 0, cap, rfl, hcap, by simp, fun j x hx i u hu => ?_⟩
  rw [World.cell?_alloc_mark, List.getElem?_toArray, Nat.zero_add]
  exact nrow_at l j x hx i u hu

theorem tyNodes : Tryz.prog.underlying 56 = some (.slice 80) := by kernel_rfl
theorem infoN : (Tryz.prog.info? 80).map (fun i => (i.zero, i.size, i.bytes)) = some (some (.agg #[.int .i8 0, .int .i64 0, .int .i64 0, .string ⟨#[]⟩, .string ⟨#[]⟩, .string ⟨#[]⟩, .int .i64 0, .int .i64 0]), 8, 88) := by kernel_rfl
theorem nrow_append (a b : List Tr.Nd) : nrow (a ++ b) = nrow a ++ nrow b := by simp [nrow]
theorem nrow_one (l : List Tr.Nd) : ∀ u ∈ nrow l, u.oneCell' = true := by
  intro u hu
  unfold nrow at hu
  obtain ⟨c, hc, hu⟩ := List.mem_flatten.1 hu
  obtain ⟨x, _, rfl⟩ := List.mem_map.1 hc
  simp [Tr.ncells] at hu
  rcases hu with rfl | rfl | rfl | rfl | rfl | rfl | rfl | rfl <;> rfl
theorem IsNodes.own {w : World} {base : Nat} {v : Value} {l : List Tr.Nd} (h : w.ownsRow base 80 8 v l.length (nrow l)) : IsNodes w v l := by
  by_cases h0 : l = []
  · subst h0
    obtain ⟨a, c, rfl⟩ := own_len h
    exact .inl ⟨rfl, a, c, rfl⟩
  · obtain ⟨g, cap, rfl, hc, hg, hcell⟩ := own_cells h (List.length_pos_iff.2 h0)
    have key : ∀ j x, l[j]? = some x → ∀ i u, (Tr.ncells x)[i]? = some u → w.cell? ⟨g, 0 + j * 8 + i, none⟩ = some u := by
      intro j x hx i u hu
      have hj : j < l.length := (List.getElem?_eq_some_iff.1 hx).1
      have hi : i < 8 := by have := (List.getElem?_eq_some_iff.1 hu).1; simpa [Tr.ncells] using this
      rw [Nat.zero_add, hcell (j * 8 + i) (by omega)]
      exact nrow_at l j x hx i u hu
    refine .inr ⟨g, 0, cap, rfl, hc, ?_, key⟩
    obtain ⟨x, r, rfl⟩ := List.exists_cons_of_ne_nil h0
    exact World.block_lt_of_cell? w _ (key 0 x rfl 0 _ rfl)
theorem own_nodes_lit (w : World) (l : List Tr.Nd) (hm : l.length ≤ maxLen) : (w.alloc (.cells (nrow l).toArray 80)).ownsRow w.heap.size 80 8 (.slice (some ⟨w.heap.size, 0, none⟩) l.length l.length) l.length (nrow l) :=
  ⟨nrow_len l, .inr ⟨w.heap.size, l.length, (nrow l).toArray, rfl, Nat.le_refl _, heap_alloc_new _ _, Nat.le_refl _, hm, by simp [nrow_len], by rw [← nrow_len]; simp⟩⟩

end Go.Proofs.YtohjfikjbeafiaaGreatDoor
namespace Go.Proofs.YtohjfikjbeafiaaGreatDoor
open Go.RowKit Ps
set_option maxRecDepth 100000
set_option linter.unusedSimpArgs false

namespace Ps
theorem flats_take {ks : List Tr.T} {i : Nat} {t : Tr.T} (h : ks[i]? = some t) : Tr.flats (ks.take (i + 1)) = Tr.flats (ks.take i) ++ Tr.flat t := by
  rw [List.take_add_one, h, Tr.flats_append]; simp [Tr.flats]
theorem flats_le (ks : List Tr.T) (i : Nat) : (Tr.flats (ks.take i)).length ≤ (Tr.flats ks).length := by
  have h : Tr.flats ks = Tr.flats (ks.take i) ++ Tr.flats (ks.drop i) := by rw [← Tr.flats_append, List.take_append_drop]
  rw [h]; simp
theorem len_flats : ∀ (ks : List Tr.T), ks.length ≤ (Tr.flats ks).length
  | [] => by simp [Tr.flats]
  | t :: r => by have := len_flats r; have := Tr.flat_pos t; simp [Tr.flats]; omega
theorem Br.under {w w' : World} {lo b base : Nat} {t : Tr.T} (h : Br w lo b t) (hb : b < base) (hB : Below base w w') : Br w' lo b t := h.keep fun k _ h2 => hB.block k (by omega)
end Ps

set_option maxHeartbeats 1000000 in
theorem onto_any {lo : Nat} : ∀ (n b : Nat), b ≤ n → ∀ (t : Tr.T) (w : World) (base : Nat) (v : Value) (acc : List Tr.Nd), Br w lo b t → b < base → base ≤ w.heap.size → w.ownsRow base 80 8 v acc.length (nrow acc) → acc.length + sz t ≤ 400000 →
    Calls Tryz.prog 150 #[.pointer (some ⟨b, 0, none⟩), v] w fun e w' => ∃ v', e = .returned v' ∧ w'.ownsRow base 80 8 v' (acc ++ Tr.flat t).length (nrow (acc ++ Tr.flat t)) ∧ Below base w w' := by
  intro n
  induction n with
  | zero => intro b hb t w base v acc h; exact absurd h.lo_lt (by omega)
  | succ n ih =>
    intro b hb t w base v acc h hbb hbs hown hsz
    obtain ⟨i0, hi, hz0, hz1, hz2⟩ := info_parts infoN
    cases h with
    | mk _ x ks vk l hlo hblk hrow hlen hlt hk =>
      obtain ⟨a, c, rfl, hcl⟩ : ∃ a c, vk = .slice a l.length c ∧ ∀ i y, l[i]? = some y → ∃ r o, a = some ⟨r, o, none⟩ ∧ r < b ∧ l.length ≤ c ∧ w.cell? ⟨r, o + i, none⟩ = some (.pointer (some ⟨y, 0, none⟩)) := by
        rcases hrow with ⟨rfl, a, c, rfl⟩ | ⟨r, o, c, rfl, h1, h2, h3, h4⟩
        · exact ⟨a, c, rfl, fun i y h => by simp at h⟩
        · exact ⟨_, c, rfl, fun i y h => ⟨r, o, rfl, h3, h1, h4 i y h⟩⟩
      obtain ⟨va, vc, rfl⟩ := own_len hown
      have hbc := (block_cells hblk).1
      have c0 : w.cell? ⟨b, 0, none⟩ = some (.int .i8 x.kind) := hbc 0
      have c1 : w.cell? ⟨b, 1, none⟩ = some (.int .i64 x.kids) := hbc 1
      have c2 : w.cell? ⟨b, 2, none⟩ = some (.int .i64 x.n) := hbc 2
      have c3 : w.cell? ⟨b, 3, none⟩ = some (.string x.s) := hbc 3
      have c4 : w.cell? ⟨b, 4, none⟩ = some (.string x.t) := hbc 4
      have c5 : w.cell? ⟨b, 5, none⟩ = some (.string x.u) := hbc 5
      have c6 : w.cell? ⟨b, 6, none⟩ = some (.int .i64 x.ln) := hbc 6
      have c7 : w.cell? ⟨b, 7, none⟩ = some (.int .i64 x.co) := hbc 7
      have hacc : acc.length + 1 ≤ 400000 := by have := Tr.flat_pos (.nd x ks); simp only [sz] at hsz; omega
      have HB : Aside (∀ o w3, (w.alloc o).grownBy w3 (Value.slice va acc.length vc).ownBlock → Below base w w3) := fun o w3 hg3 => ((Below.refl base w).alloc hbs _).grown hg3 (by simp; omega) (fun y e => (hown.lt y e).1)
      have HC : Aside (∀ w3, Below base w w3 → w3.cell? ⟨b, 8, none⟩ = some (.slice a l.length c)) := fun w3 hB3 => (block_cells ((hB3.block b hbb).trans hblk)).1 8
      have hll : l.length ≤ 400000 := by rw [hlen]; have := flats_le ks ks.length; have h9 : ks.length ≤ (Tr.flats ks).length := len_flats ks; simp only [sz, Tr.flat, List.length_cons] at hsz; omega
      clear hbc
      go_enter Tryz.func150, Tryz.ntmps150
      go_wp2_with (at_builtin; go_must (refine wpList_append_own _ rfl _ _ 56 rfl base 80 i0 _ 8 88 tyNodes hi hz0 hz1 hz2 rfl (by decide) (.slice va acc.length vc) _ _ rfl (hown.alloc _) ⟨w.heap.size, 0, none⟩ 1 1 (nrow [x]) rfl rfl (cells_list_new _ (nrow [x]) 80) (nrow_one _) (by unfold maxLen; omega) (by omega) (by simp; omega) ?_); intro v3 w3 hown3 hg3 _; have hB3 := HB.out _ _ hg3; have c8 := HC.out _ hB3; clear HB HC hg3 hown c0 c1 c2 c3 c4 c5 c6 c7)
      have hown3' : w3.ownsRow base 80 8 v3 (acc ++ x :: Tr.flats (ks.take 0)).length (nrow (acc ++ x :: Tr.flats (ks.take 0))) := by
        rw [List.take_zero, Tr.flats, nrow_append, List.length_append]; exact hown3
      clear hown3
      go_loopg [1, 19] l.length (fun g v1 s wr => ∃ (i : Nat) (A : List Tr.Nd), i + g = l.length ∧ s = .int .i64 (i : Int) ∧ Aside (A = acc ++ x :: Tr.flats (ks.take i)) ∧ wr.ownsRow base 80 8 v1 A.length (nrow A) ∧ Below base w wr)
      case atStart => exact ⟨0, _, by omega, rfl, rfl, hown3', hB3⟩
      case round =>
        clear hown3' c8 hB3
        obtain ⟨i, A, hig, rfl, HA, hown, hB⟩ := hrel
        obtain ⟨va1, vc1, rfl⟩ := own_len hown
        have hBs := hB.size
        by_cases hil : i < l.length
        · have hy : l[i]? = some l[i] := List.getElem?_eq_getElem hil
          have hik : i < ks.length := by omega
          have ht : ks[i]? = some ks[i] := List.getElem?_eq_getElem hik
          obtain ⟨r, o, rfl, hrb, hlc, hcell⟩ := hcl i _ hy
          have hcell2 : wr.cell? ⟨r, o + i, none⟩ = some (.pointer (some ⟨l[i], 0, none⟩)) := (hB.cell (p := ⟨r, o + i, none⟩) (by show r < base; omega)).trans hcell
          have hyb := hlt i _ hy
          have hbr := (hk i _ _ hy ht).under (base := base) (by omega) hB
          have HF : Aside (Tr.flats (ks.take (i + 1)) = Tr.flats (ks.take i) ++ Tr.flat ks[i]) := flats_take ht
          have hle := flats_le ks (i + 1)
          rw [HF.out] at hle
          have hih := ih l[i] (by omega) ks[i] wr base _ A hbr (by omega) (by omega) hown (by rw [HA.out]; simp only [sz, Tr.flat, List.length_append, List.length_cons] at *; omega)
          generalize l[i] = y at *
          generalize ks[i] = ti at *
          have hi1 : (i : Int) < (l.length : Int) := by omega
          have hi2 : (0 : Int) ≤ (i : Int) := by omega
          clear ih hcl hk hlt hblk hrow hbr hcell hy ht hle
          go_wp2_with fail
          refine hih.mono ?_
          rintro e2 w2 ⟨v2, rfl, hown2, hB2⟩
          clear hih hcell2
          go_wp2_with fail
          go_roundg (gk - 1)
          case measure => omega
          case rel =>
            refine ⟨i + 1, A ++ Tr.flat ti, by omega, by go_num, ?_, hown2, hB.trans hB2⟩
            show _ = _
            rw [HF.out, HA.out]
            simp
        · have hi1 : ¬ (i : Int) < (l.length : Int) := by omega
          obtain rfl : i = l.length := by omega
          have HT : Aside (ks.take l.length = ks) := by show _ = _; rw [hlen]; exact List.take_length
          clear ih hcl hk hlt hblk hrow
          go_wp2_with fail
          go_ret
          have HL : acc.length + (Tr.flat (.nd x ks)).length = A.length := by rw [HA.out, HT.out]; simp [Tr.flat]
          have HE : acc ++ Tr.flat (.nd x ks) = A := by rw [HA.out, HT.out]; rfl
          refine ⟨_, rfl, ?_, hB⟩
          rw [HE]
          first | exact hown | (rw [HL]; exact hown)
end Go.Proofs.YtohjfikjbeafiaaGreatDoor
