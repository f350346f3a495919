/- What the program's Free answers. Package check: what Expr answers. The trees of CheckBounds, as the rules take them. Plain. -/
import Derived.Test.YthihnkgjkmaplaaDoorUbi
import Derived.Test.YthihnkgjkmaplaaDoorUbf
import Derived.Test.YthihnkgjkmaplaaDoorUbg
import Derived.Test.YthihnkgjkmaplaaDoorUbe
import Derived.KernelRfl
namespace Go.Proofs.YthihnkgjkmaplaaDoor
open Go.RowKit Go.Maps
open Go.WideMaps Go.WideElems
set_option maxRecDepth 100000
set_option linter.unusedSimpArgs false

theorem part_any (l : List Tr.Nd) (hf : Fits l) (hlen : l.length ≤ 4096) (hmay : ∀ x ∈ l, Tr.mayB x = true) (v : Value) (B0 R fb bm tm : Nat) (hv : Low v B0) (hB0 : B0 ≤ fb ∧ B0 ≤ bm ∧ B0 ≤ tm ∧ B0 ≤ R) (N : Nat) :
    ∀ (t : Tr.T) (p : Nat) (w : World) (b acc : List (List UInt8)) (nb nt : Nat) (fv : Value), (Tr.flat t).length ≤ N → PIn l w R fb bm tm v t p b acc nb nt fv →
      Calls Tryd.prog 28 #[.pointer (some ⟨fb, 0, none⟩)] w fun e w' => e = .returned (.tuple #[]) ∧ POut w R fb bm tm v t p b acc nb nt fv w' := by
  induction N using Nat.strongRecOn with
  | _ N ih =>
    intro t p w b acc nb nt fv hN hin
    obtain ⟨x, ks⟩ := t
    by_cases hk : x.kind = 4
    · have hx : l[p]? = some x := by obtain ⟨rest, hd⟩ := hin.lies; have := Tr.at_drop (q := 0) hd; simpa [Tr.flat] using this
      have hmx := hmay x (List.mem_of_getElem? hx)
      have hk0 : ks = [] := by
        have hw := hin.wf
        rw [Tr.wf] at hw
        have hfit : Tr.fitB x = true := by
          unfold Tr.mayB at hmx
          simp only [Bool.and_eq_true] at hmx
          exact hmx.1.1.1.1
        unfold Tr.fitB at hfit
        rw [hk] at hfit
        have hfit' : (true && x.kids == 0) = true := hfit
        have : x.kids = 0 := by simpa using hfit'
        rw [hw.1] at this
        exact List.length_eq_zero_iff.1 (by omega)
      subst hk0
      exact part_var l hf hlen v R fb bm tm x hk p w b acc nb nt fv hin
    · refine part_kids l hlen hmay v B0 R fb bm tm hv hB0 N ?_ x ks hk p w b acc nb nt fv hN hin
      intro t' p' w' b' acc' nb' nt' fv' hlt hin'
      exact ih (Tr.flat t').length hlt t' p' w' b' acc' nb' nt' fv' (Nat.le_refl _) hin'

/-- A list that Check takes is a tree. -/
theorem chk_tree {l : List Tr.Nd} (h : (chkN l).1 = 0) : ∃ t, Tr.wf t ∧ l = Tr.flat t ∧ (∀ x ∈ l, Tr.mayB x = true) ∧ l.length ≤ 4096 ∧ Tr.high t ≤ 64 := by
  by_cases hm : l.length = 0 ∨ 4096 < l.length
  · rw [chkN_many hm] at h; simp at h
  rw [chkN_ck hm] at h
  have hr := Tr.ck_ref Tr.mayB (fun x hx => Tr.mayB_kids hx) l [1] 0 0 (by simp)
  rw [hr] at h
  split at h
  · simp at h
  · rename_i hbad
    obtain ⟨hmay, _⟩ := Tr.bad_end hbad
    split at h
    · rename_i hgo
      rw [Tr.go_gs] at hgo
      obtain ⟨t, hw, he⟩ := Tr.whole (l := l) (by simpa [Tr.kd] using hgo)
      refine ⟨t, hw, he, hmay, by omega, ?_⟩
      have hd := Tr.dps_flat t [] 0 [] hw
      rw [List.append_nil, ← he] at hd
      have hdd : Tr.dps (l.map (·.kids)) [1] = Tr.dpT 1 t := by
        have h0 : Tr.dps [] [0] = [] := rfl
        simpa [h0, Tr.kd] using hd
      rw [hdd] at h
      cases hde : Tr.deep (Tr.dpT 1 t) 0 with
      | some j => rw [hde] at h; simp [Tr.fin2] at h
      | none =>
        have key : ∀ (ds : List Nat) (i a : Nat), Tr.deep ds i = none → a ≤ 64 → Tr.mx ds a ≤ 64 := by
          intro ds
          induction ds with
          | nil => intro i a _ ha; exact ha
          | cons d ds ih =>
            intro i a hd ha
            rw [Tr.deep] at hd
            split at hd
            · simp at hd
            · rw [Tr.mx]; exact ih _ _ hd (by omega)
        have := key _ 0 0 hde (by omega)
        rw [Tr.mx_dpT] at this
        omega
    · simp at h

theorem own_mono {w : World} {base base' e size n : Nat} {v : Value} {xs : List Value} (h : w.ownsRow base e size v n xs) (hb : base' ≤ base) : w.ownsRow base' e size v n xs := by
  obtain ⟨h1, h2 | ⟨g, cap, cur, h2, h3, r⟩⟩ := h
  · exact ⟨h1, .inl h2⟩
  · exact ⟨h1, .inr ⟨g, cap, cur, h2, Nat.le_trans hb h3, r⟩⟩
/-- A finder, just made. -/
theorem FS.made (w : World) (v : Value) : FS (((w.alloc (.map #[] 0)).alloc (.map #[] 0)).alloc (.cells #[v, .int .i64 0, .map (some w.heap.size), .map (some (w.heap.size + 1)), .slice none 0 0] 63)) (w.heap.size + 3) (w.heap.size + 2) w.heap.size (w.heap.size + 1) v 0 [] [] 0 0 (.slice none 0 0) := by
  refine ⟨?_, own_nil _ _ _ _, ?_, ⟨fun _ => 0, ?_, fun n => by simp⟩, by omega, by omega, by omega, by omega, by omega, by omega, by simp⟩
  · have := heap_alloc_new ((w.alloc (.map #[] 0)).alloc (.map #[] 0)) (.cells #[v, .int .i64 0, .map (some w.heap.size), .map (some (w.heap.size + 1)), .slice none 0 0] 63)
    simpa [Fn] using this
  · refine ((Cnt.made w).kept (World.grownBy_alloc _ _ none) (by simp)).kept (World.grownBy_alloc _ _ none) (by simp) |>.same (fun l => by simp)
  · have := Cnt.made (w.alloc (.map #[] 0))
    rw [show (w.alloc (.map #[] 0)).heap.size = w.heap.size + 1 by simp] at this
    exact this.kept (World.grownBy_alloc _ _ none) (by simp)
/-- The free names of a list, as the program tells them. -/
def freeN (l : List Tr.Nd) (ns : List (List UInt8)) : Prop := ((chkN l).1 ≠ 0 ∧ ns = []) ∨ ∃ t, (chkN l).1 = 0 ∧ Tr.wf t ∧ l = Tr.flat t ∧ ns = Tr.free t

set_option maxHeartbeats 2000000 in
theorem free_any (l : List Tr.Nd) (hf : Fits l) (v : Value) (w : World) (hl : IsNodes w v l) (hv : Low v w.heap.size) :
    Calls Tryd.prog 14 #[v] w fun e w' => ∃ r ns, e = .returned r ∧ freeN l ns ∧ w'.ownsRow w.heap.size 9 1 r ns.length (tcells ns) ∧ Below w.heap.size w w' := by
  have hmm := @run_makeMap Tryd.prog
  have hc := treeCheck_any l hf v w hl
  obtain ⟨a, c, rfl⟩ := hl.form
  by_cases h0 : (chkN l).1 = 0
  · obtain ⟨t, hw, he, hmay, hlen, _⟩ := chk_tree h0
    have HR : Aside (∀ ns, ns = Tr.free t → freeN l ns) := fun ns h => .inr ⟨t, h0, hw, he, h⟩
    rw [h0] at hc
    have HE : Aside (l = Tr.flat t) := he
    have hpt : ∀ w1 : World, Below w.heap.size w w1 → Calls Tryd.prog 28 #[.pointer (some ⟨w1.heap.size + 2, 0, none⟩)] (((w1.alloc (.map #[] 0)).alloc (.map #[] 0)).alloc (.cells #[.slice a l.length c, .int .i64 0, .map (some w1.heap.size), .map (some (w1.heap.size + 1)), .slice none 0 0] 63)) fun e w' => e = .returned (.tuple #[]) ∧ POut (((w1.alloc (.map #[] 0)).alloc (.map #[] 0)).alloc (.cells #[.slice a l.length c, .int .i64 0, .map (some w1.heap.size), .map (some (w1.heap.size + 1)), .slice none 0 0] 63)) (w1.heap.size + 3) (w1.heap.size + 2) w1.heap.size (w1.heap.size + 1) (.slice a l.length c) t 0 [] [] 0 0 (.slice none 0 0) w' := by
      intro w1 hB1
      have hBs := hB1.size
      have hl2 := hl.below (balloc (balloc (balloc hB1 (.map #[] 0)) (.map #[] 0)) (.cells #[.slice a l.length c, .int .i64 0, .map (some w1.heap.size), .map (some (w1.heap.size + 1)), .slice none 0 0] 63))
      have hlt : (Tr.flat t).length ≤ 4096 := by rw [← he]; exact hlen
      exact part_any l hf hlen hmay _ w.heap.size _ _ _ _ hv ⟨by omega, by omega, by omega, by omega⟩ _ t 0 _ [] [] 0 0 _ (Nat.le_refl _) ⟨hw, ⟨[], by rw [List.drop_zero, List.append_nil]; exact he⟩, hl2, FS.made w1 _, by omega, by omega, by simp; omega, by simp; omega⟩
    clear h0 he
    go_enter Tryd.func14, Tryd.ntmps14
    go_wp2_with (go_at_call 11; refine hc.mono ?_; rintro e w1 ⟨rfl, hB1⟩)
    refine (hpt w1 hB1).mono ?_
    rintro e w3 ⟨rfl, fv, hfs3, hkf3⟩
    obtain ⟨d0, d1, d2, d3, d4⟩ := hfs3.blk.c
    have hrow := hfs3.row
    obtain ⟨fa, fc, rfl⟩ := own_len hrow
    have hBs := hB1.size
    have hB3 : Below w.heap.size w w3 := (balloc (balloc (balloc hB1 _) _) _).trans (hkf3.low (R := w1.heap.size + 3) (B0 := w.heap.size) ⟨by omega, by omega, by omega, by omega⟩ (by simp; omega) (fun k h => by simp [Value.ownBlock] at h))
    go_wp2_with fail
    go_ret
    exact ⟨_, Tr.free t, rfl, HR.out _ rfl, own_mono hrow (by have := hB1.size; omega), hB3⟩
  · have HR : Aside (freeN l []) := .inl ⟨h0, rfl⟩
    have h0' : (((chkN l).1 : Int) != 0) = true := by simpa using h0
    go_enter Tryd.func14, Tryd.ntmps14
    go_wp2_with (go_at_call 11; refine hc.mono ?_; rintro e w1 ⟨rfl, hB1⟩)
    go_ret
    exact ⟨_, [], rfl, HR.out, own_nil _ _ _ _, hB1⟩
end Go.Proofs.YthihnkgjkmaplaaDoor
namespace Go.Proofs.YthihnkgjkmaplaaDoor
open Go.RowKit Ck
open T3.Tp (Ty enc cns met)
open Tr (flat wf)
set_option maxRecDepth 100000
set_option linter.unusedSimpArgs false

/-- What Expr answers of a list, names and types: the types' texts, the error and its node; which tree it is and in which environment. -/
inductive Ex (l : List Tr.Nd) (N Th : List (List UInt8)) : List (List UInt8) → Int → Int → Prop
  | arg (h : envB N Th = false) : Ex l N Th [] 1 0
  | tree (h : envB N Th = true) (h1 : (chkN l).1 ≠ 0) : Ex l N Th [] ((chkN l).1 : Int) ((chkN l).2 : Int)
  | bad (h : envB N Th = true) (h1 : (chkN l).1 = 0) (ts : List Ty) (t : Tr.T) (h2 : N.length = ts.length) (h3 : Th = ts.map enc) (h4 : wf t) (h5 : l = flat t) (q : Int × Nat) (h6 : ckT (envOf N ts) t 0 = .error q) (h7 : q.1 ≠ 0) : Ex l N Th [] q.1 (q.2 : Int)
  | good (h : envB N Th = true) (h1 : (chkN l).1 = 0) (ts : List Ty) (t : Tr.T) (h2 : N.length = ts.length) (h3 : Th = ts.map enc) (h4 : wf t) (h5 : l = flat t) (a : List Ty) (h6 : ckT (envOf N ts) t 0 = .ok a) (h7 : ∀ u ∈ a, (enc u).length ≤ 64) (h8 : a.length = l.length) : Ex l N Th (a.map enc) 0 0
/-- How Expr ends. -/
def ExEnd (w : World) (l : List Tr.Nd) (N Th : List (List UInt8)) (e : Ending) (w' : World) : Prop := Below w.heap.size w w' ∧ ∃ a n c r er at', e = .returned (.tuple #[.slice a n c, .int .i64 er, .int .i64 at']) ∧ Ex l N Th r er at' ∧ n = r.length ∧ T3.IsTexts w' (.slice a n c) r ∧ ∀ b o, a = some ⟨b, o, none⟩ → w.heap.size ≤ b
theorem ExEnd.nil {w w' : World} {l : List Tr.Nd} {N Th : List (List UInt8)} {er at' : Int} (hB : Below w.heap.size w w') (h : Ex l N Th [] er at') : ExEnd w l N Th (.returned (.tuple #[.slice none 0 0, .int .i64 er, .int .i64 at'])) w' :=
  ⟨hB, none, 0, 0, [], er, at', rfl, h, rfl, .inl ⟨rfl, none, 0, rfl⟩, fun b o e => by cases e⟩

theorem envOk_of {N : List (List UInt8)} {ts : List Ty} (h : ∀ t ∈ ts, (enc t).length ≤ 64) (hl : N.length = ts.length) : EnvOk (envOf N ts) := by
  intro n t hn
  have := look_last N ts hl N.length (Nat.le_refl _) n
  rw [List.take_of_length_le (by simp; omega)] at this
  unfold envOf at hn
  rw [hn] at this
  cases hj : lastAt N N.length n with
  | none => rw [hj] at this; simp at this
  | some j => rw [hj] at this; exact h t (List.mem_of_getElem? this.symm)
theorem tyTx : Tryd.prog.underlying 23 = some (.slice 9) := by kernel_rfl
theorem infTx : (Tryd.prog.info? 9).map (fun i => (i.zero, i.size, i.bytes)) = some (some (.string ⟨#[]⟩), 1, 16) := by kernel_rfl

theorem made_str (n k : Nat) (h : k < n) : (madeCells #[.string ⟨#[]⟩] n)[k]? = some (.string ⟨#[]⟩) := by
  simp [madeCells, h, Nat.mod_one]

set_option maxHeartbeats 4000000 in
theorem expr_any (l : List Tr.Nd) (hf : Fits l) (N Th : List (List UInt8)) (hN : N.length ≤ 1000) (hs : ∀ p ∈ N, p.length ≤ maxLen) (v vn vt : Value) (w : World) (hl : IsNodes w v l) (hn : T3.IsTexts w vn N) (ht : T3.IsTexts w vt Th) (hG : HasG w) (hg : 5 ≤ w.heap.size) :
    Calls Tryd.prog 8 #[v, vn, vt] w (ExEnd w l N Th) := by
  have henv := environment_any N Th hN hs vn vt w hn ht
  obtain ⟨a, c, rfl⟩ := hl.form
  cases hb : envB N Th with
  | false =>
    have henv' := henv.mono (R' := fun e w' => e = .returned (.tuple #[.nilFunc, .bool false]) ∧ Below w.heap.size w w') (fun e w' ⟨hB, h⟩ => by rw [if_neg (by rw [hb]; decide)] at h; exact ⟨h, hB⟩)
    have HX : Aside (Ex l N Th [] 1 0) := .arg hb
    clear henv hb hn ht
    go_enter Tryd.func8, Tryd.ntmps8
    go_wp2_with (go_at_call 17; refine henv'.mono ?_; rintro e w1 ⟨rfl, hB1⟩)
    refine bodyPost_ret (v := .tuple #[.slice none 0 0, .int .i64 1, .int .i64 0]) (by simp [results, Tryd.results8, go_sem]) rfl ?_
    exact ExEnd.nil hB1 HX.out
  | true =>
    have henv' := henv.mono (R' := fun e w' => ∃ sv ts, e = .returned (.tuple #[sv, .bool true]) ∧ N.length = ts.length ∧ Th = ts.map enc ∧ (∀ t ∈ ts, (enc t).length ≤ 64) ∧ (∀ a b, w'.heap.size ≤ a → w'.heap.size ≤ b → Scope a b w' sv (envOf N ts)) ∧ Below w.heap.size w w') (fun e w' ⟨hB, h⟩ => by
      rw [if_pos hb] at h
      obtain ⟨sv, ts, h1, h2, h3, h4, h5⟩ := h
      exact ⟨sv, ts, h1, h2, h3, h4, h5, hB⟩)
    clear henv hn ht
    by_cases h0 : (chkN l).1 = 0
    · obtain ⟨t, hw, he, hmay, hl4, _⟩ := chk_tree h0
      have hl0 : 0 < l.length := by rw [he]; exact Tr.flat_pos t
      have hmk := run_make_row' (P := Tryd.prog) 23 9 (.string ⟨#[]⟩) 16 tyTx infTx rfl .i64 .i64 l.length (by omega) (by omega)
      have hck : ∀ w1, Below w.heap.size w w1 → Calls Tryd.prog 11 #[.slice a l.length c] w1 fun e w' => e = .returned (.tuple #[.int .i64 0, .int .i64 ((chkN l).2 : Int)]) ∧ Below w1.heap.size w1 w' := fun w1 hB => by
        have := treeCheck_any l hf _ w1 (hl.below hB)
        rw [h0] at this
        exact this
      generalize ((chkN l).2 : Int) = q2 at hck
      have HP : Aside (∀ (w1 w2 : World) (sv : Value) (ts : List Ty), Below w.heap.size w w1 → Below w1.heap.size w1 w2 → N.length = ts.length → (∀ t ∈ ts, (enc t).length ≤ 64) → (∀ a b, w1.heap.size ≤ a → w1.heap.size ≤ b → Scope a b w1 sv (envOf N ts)) →
          Calls Tryd.prog 18 #[.pointer (some ⟨w2.heap.size + 1, 0, none⟩), sv] ((w2.alloc (.cells (madeCells #[.string ⟨#[]⟩] l.length) 9)).alloc (.cells #[.slice a l.length c, .slice (some ⟨w2.heap.size, 0, none⟩) l.length l.length, .int .i64 0] 51)) (PEnd (w2.heap.size + 2) ((w2.alloc (.cells (madeCells #[.string ⟨#[]⟩] l.length) 9)).alloc (.cells #[.slice a l.length c, .slice (some ⟨w2.heap.size, 0, none⟩) l.length l.length, .int .i64 0] 51)) (w2.heap.size + 1) w2.heap.size (.slice a l.length c) l 0 (ckT (envOf N ts) t 0))) := by
        intro w1 w2 sv ts hB1 hB2 hts h64 hsc
        have hz1 := hB1.size
        have hz2 := hB2.size
        obtain ⟨X, hX⟩ : ∃ X, X = w2.alloc (.cells (madeCells #[.string ⟨#[]⟩] l.length) 9) := ⟨_, rfl⟩
        have hXn : X.heap[w2.heap.size]? = some (.cells (madeCells #[.string ⟨#[]⟩] l.length) 9) := by rw [hX]; exact heap_alloc_new _ _
        have hXz : X.heap.size = w2.heap.size + 1 := by rw [hX]; simp
        have hBX : Below w2.heap.size w2 X := by rw [hX]; exact (Below.refl _ _).alloc (Nat.le_refl _) _
        rw [← hX]
        clear hX
        obtain ⟨Y, hY⟩ : ∃ Y, Y = X.alloc (.cells #[.slice a l.length c, .slice (some ⟨w2.heap.size, 0, none⟩) l.length l.length, .int .i64 0] 51) := ⟨_, rfl⟩
        have hYn : Y.heap[w2.heap.size + 1]? = some (.cells #[.slice a l.length c, .slice (some ⟨w2.heap.size, 0, none⟩) l.length l.length, .int .i64 0] 51) := by rw [hY, ← hXz]; exact heap_alloc_new _ _
        have hYz : Y.heap.size = w2.heap.size + 2 := by rw [hY]; simp; omega
        have hBY : Below X.heap.size X Y := by rw [hY]; exact (Below.refl _ _).alloc (Nat.le_refl _) _
        rw [← hY]
        clear hY
        have hYt : Y.heap[w2.heap.size]? = some (.cells (madeCells #[.string ⟨#[]⟩] l.length) 9) := (hBY.block _ (by omega)).trans hXn
        have hBw : Below w.heap.size w Y := bt (bt (bt hB1 hB2) hBX) hBY
        refine ckPart_any (w2.heap.size + 2) (w2.heap.size + 1) w2.heap.size (.slice a l.length c) l hmay hf.str hl4 (flat t).length t 0 [] (envOf N ts) Y sv (Nat.le_refl _) hw (by rw [List.drop_zero, List.append_nil]; exact he) (envOk_of h64 hts) ?_ ((hsc _ _ (by omega) (by omega)).next (below_two (bt (bt hB2 hBX) hBY) _ _))
        refine ⟨⟨(block_cells hYn).1 0, hl.below hBw⟩, (block_cells hYn).1 1, (block_cells hYn).1 2, (block_cells hYn).2, (block_cells hYt).2, fun k hk => ⟨⟨#[]⟩, ?_⟩, fun b o n c' e => ?_, by omega, hG.below hBw, by omega, by omega⟩
        · rw [(block_cells hYt).1 k]
          exact made_str _ k hk
        · have hb2 : b < w.heap.size := by
            rcases hl with ⟨h, _⟩ | ⟨b1, o1, c1, h1, _, h2, _⟩
            · rw [h] at hl0; simp at hl0
            · rw [h1] at e; cases e; exact h2
          omega
      have HX : Aside (∀ ts, N.length = ts.length → Th = ts.map enc → (∀ q, ckT (envOf N ts) t 0 = .error q → q.1 ≠ 0 → Ex l N Th [] q.1 (q.2 : Int)) ∧ (∀ x, ckT (envOf N ts) t 0 = .ok x → (∀ u ∈ x, (enc u).length ≤ 64) → Ex l N Th (x.map enc) 0 0 ∧ x.length = l.length)) := fun ts e1 e2 =>
        ⟨fun q h1 h2 => .bad hb h0 ts t e1 e2 hw he q h1 h2, fun x h1 h2 => by
          have h8 : x.length = l.length := by rw [Ck.len_T t _ 0 x h1, he]
          exact ⟨.good hb h0 ts t e1 e2 hw he x h1 h2 h8, h8⟩⟩
      clear hb h0 he hw hmay hG hl
      go_enter Tryd.func8, Tryd.ntmps8
      go_wp2_with fail
      go_at_call 17
      refine henv'.mono ?_
      rintro e w1 ⟨sv, ts, rfl, e1, e2, e3, hsc, hB1⟩
      go_wp2_with fail
      go_at_call 11
      refine (hck w1 hB1).mono ?_
      rintro e w2 ⟨rfl, hB2⟩
      have HPP := HP.out w1 w2 sv ts hB1 hB2 e1 e3 hsc
      have HXX := HX.out ts e1 e2
      clear HP HX hck henv' hsc
      go_wp2_with fail
      refine HPP.mono ?_
      rintro e w3 ⟨hT3, hpe⟩
      have hz1 := hB1.size
      have hz2 := hB2.size
      have hz3 := hT3.size
      simp only [World.size_alloc] at hz3
      have HB3 : Aside (Below w.heap.size w w3) := (balloc (balloc (bt hB1 hB2) _) _).trans ⟨hT3.os, hT3.tape, hT3.output, hT3.size, fun k hk => hT3.block k (by simp; omega) (by omega) (by omega)⟩
      clear HPP hB1 hB2 hT3 hmk
      cases hr : ckT (envOf N ts) t 0 with
      | error q =>
        rw [hr] at hpe
        obtain ⟨hq0, rfl⟩ := hpe
        obtain ⟨q1, q2'⟩ := q
        have HE : Aside (Ex l N Th [] q1 (q2' : Int)) := HXX.1 _ hr hq0
        have hq1 : (q1 != 0) = true := by simpa using hq0
        clear hr hq0 HXX e2
        unfold rf
        go_wp2_with fail
        go_quiet (fail)
        go_wp2_with fail
        refine bodyPost_ret (v := .tuple #[.slice none 0 0, .int .i64 q1, .int .i64 (q2' : Int)]) (by simp [results, Tryd.results8, go_sem]) rfl ?_
        exact ExEnd.nil (below_drewN (balloc HB3.out _) _) HE.out
      | ok x =>
        rw [hr] at hpe
        obtain ⟨⟨p, rfl⟩, hst, hcell, -⟩ := hpe
        obtain ⟨HE1, HE2⟩ := HXX.2 x hr (fun u hu => by obtain ⟨k, hk⟩ := List.getElem?_of_mem hu; exact (hcell k u hk).2)
        have HE : Aside (Ex l N Th (x.map enc) 0 0 ∧ x.length = l.length) := ⟨HE1, HE2⟩
        have HC : Aside (∀ k u, x[k]? = some u → w3.cell? ⟨w2.heap.size, k, none⟩ = some (.string (S (enc u)))) := fun k u hk => by have := (hcell k u hk).1; rwa [Nat.zero_add] at this
        have ct1 : w3.cell? ⟨w2.heap.size + 1, 1, none⟩ = some (.slice (some ⟨w2.heap.size, 0, none⟩) l.length l.length) := hst.typ
        have hlt1 : w2.heap.size + 1 < w3.heap.size := by omega
        have hlt0 : w2.heap.size < w3.heap.size := by omega
        clear hr hcell hst HXX e2 HE1 HE2
        unfold rf
        go_wp2_with fail
        refine bodyPost_ret (v := .tuple #[.slice (some ⟨w2.heap.size, 0, none⟩) l.length l.length, .int .i64 0, .int .i64 0]) (by simp [results, Tryd.results8, go_sem]) rfl ?_
        obtain ⟨HE1, HE2⟩ := HE.out
        refine ⟨balloc HB3.out _, _, _, _, x.map enc, 0, 0, rfl, HE1, by simp [HE2], .inr ⟨w2.heap.size, 0, l.length, by simp [HE2], by simp [HE2], by simp; omega, fun j p hp => ?_⟩, fun b o e => by cases e; omega⟩
        rw [List.getElem?_map] at hp
        cases hu : x[j]? with
        | none => rw [hu] at hp; simp at hp
        | some u =>
          rw [hu] at hp
          simp at hp
          subst hp
          rw [Nat.zero_add, World.cell?_alloc_lt _ _ _ hlt0]
          exact HC.out j u hu
    · have h0' : (((chkN l).1 : Int) != 0) = true := by simpa using h0
      have hck : ∀ w1, Below w.heap.size w w1 → Calls Tryd.prog 11 #[.slice a l.length c] w1 fun e w' => e = .returned (.tuple #[.int .i64 ((chkN l).1 : Int), .int .i64 ((chkN l).2 : Int)]) ∧ Below w1.heap.size w1 w' := fun w1 hB => treeCheck_any l hf _ w1 (hl.below hB)
      have HX : Aside (Ex l N Th [] ((chkN l).1 : Int) ((chkN l).2 : Int)) := .tree hb h0
      generalize ((chkN l).1 : Int) = q1 at *
      generalize ((chkN l).2 : Int) = q2 at *
      clear hb h0 hl
      go_enter Tryd.func8, Tryd.ntmps8
      go_wp2_with fail
      go_at_call 17
      refine henv'.mono ?_
      rintro e w1 ⟨sv, ts, rfl, e1, e2, e3, hsc, hB1⟩
      clear e1 e2 e3 hsc
      go_wp2_with fail
      go_at_call 11
      refine (hck w1 hB1).mono ?_
      rintro e w2 ⟨rfl, hB2⟩
      go_wp2_with fail
      refine bodyPost_ret (v := .tuple #[.slice none 0 0, .int .i64 q1, .int .i64 q2]) (by simp [results, Tryd.results8, go_sem]) rfl ?_
      exact ExEnd.nil (bt hB1 hB2) HX.out
end Go.Proofs.YthihnkgjkmaplaaDoor
namespace Go.Proofs.YthihnkgjkmaplaaDoor
set_option maxRecDepth 100000
namespace Ck
open T3.Tp (Ty enc)
open Tr (T Nd flat flats wf wfs)

/-- A node without a place. -/
def nod (kind kids : Int) (s t u : List UInt8) : Nd := ⟨kind, kids, 0, ⟨s.toArray⟩, ⟨t.toArray⟩, ⟨u.toArray⟩, 0, 0⟩
def pairsT : Nat → T
  | 0 => .nd (nod 1 0 [] [] []) []
  | n + 1 => .nd (nod 18 2 [] [] []) [.nd (nod 1 0 [] [] []) [], pairsT n]
/-- So many pairs, as the statement's list lays them. -/
def pairsL : Nat → List Nd
  | 0 => [nod 1 0 [] [] []]
  | n + 1 => [nod 18 2 [] [] [], nod 1 0 [] [] []] ++ pairsL n
theorem pairs_flat : ∀ n, flat (pairsT n) = pairsL n
  | 0 => rfl
  | n + 1 => by simp [pairsT, pairsL, flat, flats, pairs_flat n]
theorem pairs_wf : ∀ n, wf (pairsT n)
  | 0 => ⟨rfl, trivial⟩
  | n + 1 => ⟨rfl, ⟨rfl, trivial⟩, pairs_wf n, trivial⟩
def okLen : Rs (List Ty) → Nat
  | .ok a => a.length
  | .error _ => 0
theorem pairs31 : okLen (ckT [] (pairsT 31) 0) = 63 := by kernel_rfl
theorem pairs32 : ckT [] (pairsT 32) 0 = .error (21, 0) := by kernel_rfl
theorem neg32 : ckT [] (.nd (nod 16 1 [] [] []) [pairsT 32]) 0 = .error (21, 1) := by kernel_rfl
/-- ",i" so often, and i. -/
def longL : Nat → List UInt8
  | 0 => [105]
  | n + 1 => [44, 105] ++ longL n
theorem fnLarge : ckT [] (.nd (nod 5 1 [120] (longL 30) [108, 108, 105]) [.nd (nod 4 0 [121] [] []) []]) 0 = .error (21, 0) := by kernel_rfl
theorem fnFits : ckT [] (.nd (nod 5 1 [120] (longL 30) [108, 105]) [.nd (nod 4 0 [121] [] []) []]) 0 = .error (22, 1) := by kernel_rfl
theorem ifLarge : ckT [([121], tyOf ([44, 63] ++ longL 16)), ([120], tyOf ([44] ++ longL 16 ++ [63]))] (.nd (nod 9 3 [] [] []) [.nd (nod 3 0 [] [] []) [], .nd (nod 4 0 [120] [] []) [], .nd (nod 4 0 [121] [] []) []]) 0 = .error (21, 0) := by kernel_rfl
theorem long_drop : (longL 30).drop 28 = longL 16 ∧ (longL 30).length = 61 ∧ (longL 16).length = 33 := by decide
end Ck
end Go.Proofs.YthihnkgjkmaplaaDoor
