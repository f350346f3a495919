/- Node: pieces that are fixed, with kids between. Node: operators, prefixes. Node: calls. Node: leaves. -/
import Derived.Test.YtpikfdkgblghhaaGreatDoorXat
namespace Go.Proofs.YtpikfdkgblghhaaGreatDoor
open Go.RowKit Pn
set_option maxRecDepth 100000
set_option linter.unusedSimpArgs false
set_option linter.unusedVariables false

set_option maxHeartbeats 4000000 in
theorem node_if (x : Tr.Nd) (ks : List Tr.T) (hx : x.kind = 9) (hg : GoodT (.nd x ks)) (hk : ∀ t ∈ ks, KidOk t) : NodeOk x ks := by
  intro pb L c rest w0 w h hlen
  obtain ⟨t1, t2, t3, rfl⟩ := kids_three hg (by omega) (by rw [hx]; rfl)
  obtain ⟨hnice, -, hgs⟩ := good_nice hg
  have h1 := h.alloc (.cells (Tr.ncells x).toArray 52)
  have hsz0 : (w.alloc (.cells (Tr.ncells x).toArray 52)).heap.size = w.heap.size + 1 := by simp
  have HF : Aside (L ++ arT 0 ([105, 102, 32] :: [[32, 116, 104, 101, 110, 32], [32, 101, 108, 115, 101, 32], []]) [t1, t2, t3] = L ++ pr Lib.itoa (.nd x [t1, t2, t3])) := by
    show _ = _
    simp [pr_nd, prs_cons, prs_nil, arT_zero, arT_succ, arT_nil, pcA, pcB, pcC, askd, hx]
  have har := fun W hW => around_st pb L c [105, 102, 32] [[32, 116, 104, 101, 110, 32], [32, 101, 108, 115, 101, 32], []] [t1, t2, t3] rest w0 W hW hgs hk rfl (by simp) (by simp at hlen ⊢; omega)
  obtain ⟨kind, kids, n, s, t, u, ln, co⟩ := x
  simp only at hx
  subst hx
  simp only [Tr.agg]
  simp only [Tr.ncells] at h1 hsz0
  have har' : ∀ W, St w0 W pb L c (Tr.flats [t1, t2, t3] ++ rest) → Calls Tryz.prog 159 #[.pointer (some ⟨pb, 0, none⟩), .slice (some ⟨W.heap.size, 0, none⟩) 4 4] (W.alloc (.cells #[.string (S [105, 102, 32]), .string (S [32, 116, 104, 101, 110, 32]), .string (S [32, 101, 108, 115, 101, 32]), .string (S [])] 9)) (Done w0 pb (L ++ arT 0 ([105, 102, 32] :: [[32, 116, 104, 101, 110, 32], [32, 101, 108, 115, 101, 32], []]) [t1, t2, t3]) rest) := har
  generalize L ++ pr Lib.itoa _ = FF at *
  generalize L ++ arT 0 ([105, 102, 32] :: [[32, 116, 104, 101, 110, 32], [32, 101, 108, 115, 101, 32], []]) [t1, t2, t3] = GG at *
  have hq := har' _ h1
  rw [hsz0] at hq
  clear har har' h hg hlen hnice hsz0
  go_enter Tryz.func105, Tryz.ntmps105
  go_wp2_with (go_at_call 159; refine hq.mono ?_; rintro e w1 ⟨rfl, c1, hS1⟩)
  go_end0
  exact ⟨rfl, c1, hS1.same HF.out⟩

set_option maxHeartbeats 4000000 in
theorem node_pair (x : Tr.Nd) (ks : List Tr.T) (hx : x.kind = 18) (hg : GoodT (.nd x ks)) (hk : ∀ t ∈ ks, KidOk t) : NodeOk x ks := by
  intro pb L c rest w0 w h hlen
  obtain ⟨t1, t2, rfl⟩ := kids_two hg (by omega) (by rw [hx]; rfl)
  obtain ⟨hnice, -, hgs⟩ := good_nice hg
  have h1 := h.alloc (.cells (Tr.ncells x).toArray 52)
  have hsz0 : (w.alloc (.cells (Tr.ncells x).toArray 52)).heap.size = w.heap.size + 1 := by simp
  have HF : Aside (L ++ arT 0 ([40] :: [[44, 32], [41]]) [t1, t2] = L ++ pr Lib.itoa (.nd x [t1, t2])) := by
    show _ = _
    simp [pr_nd, prs_cons, prs_nil, arT_zero, arT_succ, arT_nil, pcA, pcB, pcC, askd, hx]
  have har := fun W hW => around_st pb L c [40] [[44, 32], [41]] [t1, t2] rest w0 W hW hgs hk rfl (by simp) (by simp at hlen ⊢; omega)
  obtain ⟨kind, kids, n, s, t, u, ln, co⟩ := x
  simp only at hx
  subst hx
  simp only [Tr.agg]
  simp only [Tr.ncells] at h1 hsz0
  have har' : ∀ W, St w0 W pb L c (Tr.flats [t1, t2] ++ rest) → Calls Tryz.prog 159 #[.pointer (some ⟨pb, 0, none⟩), .slice (some ⟨W.heap.size, 0, none⟩) 3 3] (W.alloc (.cells #[.string (S [40]), .string (S [44, 32]), .string (S [41])] 9)) (Done w0 pb (L ++ arT 0 ([40] :: [[44, 32], [41]]) [t1, t2]) rest) := har
  generalize L ++ pr Lib.itoa _ = FF at *
  generalize L ++ arT 0 ([40] :: [[44, 32], [41]]) [t1, t2] = GG at *
  have hq := har' _ h1
  rw [hsz0] at hq
  clear har har' h hg hlen hnice hsz0
  go_enter Tryz.func105, Tryz.ntmps105
  go_wp2_with (go_at_call 159; refine hq.mono ?_; rintro e w1 ⟨rfl, c1, hS1⟩)
  go_end0
  exact ⟨rfl, c1, hS1.same HF.out⟩

set_option maxHeartbeats 4000000 in
theorem node_cons (x : Tr.Nd) (ks : List Tr.T) (hx : x.kind = 25) (hg : GoodT (.nd x ks)) (hk : ∀ t ∈ ks, KidOk t) : NodeOk x ks := by
  intro pb L c rest w0 w h hlen
  obtain ⟨t1, t2, rfl⟩ := kids_two hg (by omega) (by rw [hx]; rfl)
  obtain ⟨hnice, -, hgs⟩ := good_nice hg
  have h1 := h.alloc (.cells (Tr.ncells x).toArray 52)
  have hsz0 : (w.alloc (.cells (Tr.ncells x).toArray 52)).heap.size = w.heap.size + 1 := by simp
  have HF : Aside (L ++ arT 0 ([99, 111, 110, 115, 40] :: [[44, 32], [41]]) [t1, t2] = L ++ pr Lib.itoa (.nd x [t1, t2])) := by
    show _ = _
    simp [pr_nd, prs_cons, prs_nil, arT_zero, arT_succ, arT_nil, pcA, pcB, pcC, askd, hx]
  have har := fun W hW => around_st pb L c [99, 111, 110, 115, 40] [[44, 32], [41]] [t1, t2] rest w0 W hW hgs hk rfl (by simp) (by simp at hlen ⊢; omega)
  obtain ⟨kind, kids, n, s, t, u, ln, co⟩ := x
  simp only at hx
  subst hx
  simp only [Tr.agg]
  simp only [Tr.ncells] at h1 hsz0
  have har' : ∀ W, St w0 W pb L c (Tr.flats [t1, t2] ++ rest) → Calls Tryz.prog 159 #[.pointer (some ⟨pb, 0, none⟩), .slice (some ⟨W.heap.size, 0, none⟩) 3 3] (W.alloc (.cells #[.string (S [99, 111, 110, 115, 40]), .string (S [44, 32]), .string (S [41])] 9)) (Done w0 pb (L ++ arT 0 ([99, 111, 110, 115, 40] :: [[44, 32], [41]]) [t1, t2]) rest) := har
  generalize L ++ pr Lib.itoa _ = FF at *
  generalize L ++ arT 0 ([99, 111, 110, 115, 40] :: [[44, 32], [41]]) [t1, t2] = GG at *
  have hq := har' _ h1
  rw [hsz0] at hq
  clear har har' h hg hlen hnice hsz0
  go_enter Tryz.func105, Tryz.ntmps105
  go_wp2_with (go_at_call 159; refine hq.mono ?_; rintro e w1 ⟨rfl, c1, hS1⟩)
  go_end0
  exact ⟨rfl, c1, hS1.same HF.out⟩
end Go.Proofs.YtpikfdkgblghhaaGreatDoor
namespace Go.Proofs.YtpikfdkgblghhaaGreatDoor
open Go.RowKit Pn
set_option maxRecDepth 100000
set_option linter.unusedSimpArgs false
set_option linter.unusedVariables false

set_option maxHeartbeats 4000000 in
theorem node_infix (x : Tr.Nd) (ks : List Tr.T) (hx : x.kind = 28 ∨ x.kind = 14 ∨ x.kind = 15 ∨ x.kind = 10 ∨ x.kind = 11 ∨ x.kind = 13 ∨ x.kind = 12) (hg : GoodT (.nd x ks)) (hk : ∀ t ∈ ks, KidOk t) : NodeOk x ks := by
  intro pb L c rest w0 w h hlen
  obtain ⟨t1, t2, rfl⟩ := kids_two hg (by omega) (by rcases hx with e | e | e | e | e | e | e <;> rw [e] <;> rfl)
  obtain ⟨hnice, -, hgs⟩ := good_nice hg
  have h1 := h.alloc (.cells (Tr.ncells x).toArray 52)
  have hsz0 : (w.alloc (.cells (Tr.ncells x).toArray 52)).heap.size = w.heap.size + 1 := by simp
  have HF : Aside (L ++ (txt (askd x.kind 0) t1 ++ pcB x.kind 1 ++ txt (askd x.kind 1) t2) = L ++ pr Lib.itoa (.nd x [t1, t2])) := by
    show _ = _
    have ha : pcA Lib.itoa x = [] := by unfold pcA; rcases hx with e | e | e | e | e | e | e <;> simp [e]
    have hc : pcC x = [] := by unfold pcC; rcases hx with e | e | e | e | e | e | e <;> simp [e]
    rw [pr_nd, ha, hc]
    simp [prs_cons, prs_nil]
  have hfl : Tr.flats [t1, t2] ++ rest = Tr.flat t1 ++ (Tr.flat t2 ++ rest) := by simp [Tr.flats]
  have hfn : (Tr.flats [t1, t2]).length = (Tr.flat t1).length + (Tr.flat t2).length := by simp [Tr.flats]
  rw [hfl] at h1
  rw [hfn] at hlen
  have hin := fun W hW => infix_st pb L c x.kind hx t1 t2 rest w0 W hW hgs.cons.1 (hk t1 (by simp)) (hk t2 (by simp)) (by omega)
  obtain ⟨kind, kids, n, s, t, u, ln, co⟩ := x
  simp only at hx HF hin
  simp only [Tr.agg]
  simp only [Tr.ncells] at h1
  generalize L ++ pr Lib.itoa _ = FF at *
  generalize L ++ (txt (askd kind 0) t1 ++ pcB kind 1 ++ txt (askd kind 1) t2) = GG at *
  clear hsz0 h hg hlen hnice hfl hfn hgs hk
  rcases hx with rfl | rfl | rfl | rfl | rfl | rfl | rfl
  all_goals
    go_enter Tryz.func105, Tryz.ntmps105
    go_wp2_with (go_at_call 160; refine (hin _ h1).mono ?_; rintro e w1 ⟨rfl, c1, hS1⟩)
    go_end0
    exact ⟨rfl, c1, hS1.same HF.out⟩

set_option maxHeartbeats 4000000 in
theorem node_neg (x : Tr.Nd) (ks : List Tr.T) (hx : x.kind = 16) (hg : GoodT (.nd x ks)) (hk : ∀ t ∈ ks, KidOk t) : NodeOk x ks := by
  intro pb L c rest w0 w h hlen
  obtain ⟨t1, rfl⟩ := kids_one hg (by omega) (by rw [hx]; rfl)
  obtain ⟨hnice, -, hgs⟩ := good_nice hg
  have h1 := h.alloc (.cells (Tr.ncells x).toArray 52)
  have hsz0 : (w.alloc (.cells (Tr.ncells x).toArray 52)).heap.size = w.heap.size + 1 := by simp
  have HF : Aside (L ++ ([45] ++ txt 4 t1) = L ++ pr Lib.itoa (.nd x [t1])) := by
    show _ = _
    simp [pr_nd, prs_cons, prs_nil, pcA, pcB, pcC, askd, hx]
  have hfl : Tr.flats [t1] ++ rest = Tr.flat t1 ++ rest := by simp [Tr.flats]
  have hfn : (Tr.flats [t1]).length = (Tr.flat t1).length := by simp [Tr.flats]
  rw [hfl] at h1
  rw [hfn] at hlen
  have hpf := fun W hW => prefix_st pb L [45] c t1 rest w0 W hW (hk t1 (by simp)) (by simp) (by omega)
  obtain ⟨kind, kids, n, s, t, u, ln, co⟩ := x
  simp only at hx
  subst hx
  simp only [Tr.agg]
  simp only [Tr.ncells] at h1 hsz0
  generalize L ++ pr Lib.itoa _ = FF at *
  generalize L ++ ([45] ++ txt 4 t1) = GG at *
  clear hsz0 h hg hlen hnice hfl hfn hgs hk
  go_enter Tryz.func105, Tryz.ntmps105
  go_wp2_with (go_at_call 161; refine (hpf _ h1).mono ?_; rintro e w1 ⟨rfl, c1, hS1⟩)
  go_end0
  exact ⟨rfl, c1, hS1.same HF.out⟩

set_option maxHeartbeats 4000000 in
theorem node_get (x : Tr.Nd) (ks : List Tr.T) (hx : x.kind = 27) (hg : GoodT (.nd x ks)) (hk : ∀ t ∈ ks, KidOk t) : NodeOk x ks := by
  intro pb L c rest w0 w h hlen
  obtain ⟨t1, rfl⟩ := kids_one hg (by omega) (by rw [hx]; rfl)
  obtain ⟨hnice, -, hgs⟩ := good_nice hg
  have h1 := h.alloc (.cells (Tr.ncells x).toArray 52)
  have hsz0 : (w.alloc (.cells (Tr.ncells x).toArray 52)).heap.size = w.heap.size + 1 := by simp
  have HF : Aside (L ++ ([33] ++ txt 4 t1) = L ++ pr Lib.itoa (.nd x [t1])) := by
    show _ = _
    simp [pr_nd, prs_cons, prs_nil, pcA, pcB, pcC, askd, hx]
  have hfl : Tr.flats [t1] ++ rest = Tr.flat t1 ++ rest := by simp [Tr.flats]
  have hfn : (Tr.flats [t1]).length = (Tr.flat t1).length := by simp [Tr.flats]
  rw [hfl] at h1
  rw [hfn] at hlen
  have hpf := fun W hW => prefix_st pb L [33] c t1 rest w0 W hW (hk t1 (by simp)) (by simp) (by omega)
  obtain ⟨kind, kids, n, s, t, u, ln, co⟩ := x
  simp only at hx
  subst hx
  simp only [Tr.agg]
  simp only [Tr.ncells] at h1 hsz0
  generalize L ++ pr Lib.itoa _ = FF at *
  generalize L ++ ([33] ++ txt 4 t1) = GG at *
  clear hsz0 h hg hlen hnice hfl hfn hgs hk
  go_enter Tryz.func105, Tryz.ntmps105
  go_wp2_with (go_at_call 161; refine (hpf _ h1).mono ?_; rintro e w1 ⟨rfl, c1, hS1⟩)
  go_end0
  exact ⟨rfl, c1, hS1.same HF.out⟩
end Go.Proofs.YtpikfdkgblghhaaGreatDoor
namespace Go.Proofs.YtpikfdkgblghhaaGreatDoor
open Go.RowKit Pn
set_option maxRecDepth 100000
set_option linter.unusedSimpArgs false
set_option linter.unusedVariables false

set_option maxHeartbeats 4000000 in
theorem node_call (x : Tr.Nd) (ks : List Tr.T) (hx : x.kind = 7) (hg : GoodT (.nd x ks)) (hk : ∀ t ∈ ks, KidOk t) : NodeOk x ks := by
  intro pb L c rest w0 w h hlen
  obtain ⟨t1, t2, rfl⟩ := kids_two hg (by omega) (by rw [hx]; rfl)
  obtain ⟨hnice, -, hgs⟩ := good_nice hg
  have h1 := h.alloc (.cells (Tr.ncells x).toArray 52)
  have hsz0 : (w.alloc (.cells (Tr.ncells x).toArray 52)).heap.size = w.heap.size + 1 := by simp
  have hfl : Tr.flats [t1, t2] ++ rest = Tr.flat t1 ++ (Tr.flats [t2] ++ rest) := by simp [Tr.flats]
  have hfn : (Tr.flats [t1, t2]).length = (Tr.flat t1).length + (Tr.flats [t2]).length := by simp [Tr.flats]
  rw [hfl] at h1
  rw [hfn] at hlen
  have htl := txt_len (a := 5) hgs.cons.1
  have HF : Aside (L ++ txt 5 t1 ++ arT 0 ([40] :: [[41]]) [t2] = L ++ pr Lib.itoa (.nd x [t1, t2])) := by
    show _ = _
    simp [pr_nd, prs_cons, prs_nil, arT_zero, arT_succ, arT_nil, pcA, pcB, pcC, askd, hx]
  have hkid := fun W hW => hk t1 (by simp) 5 pb L c (Tr.flats [t2] ++ rest) w0 W hW (by decide) (by decide) (by omega)
  have hM : (L ++ txt 5 t1).length + 100 + 2400 * (Tr.flats [t2]).length ≤ 10000000000 := by rw [List.length_append]; omega
  generalize L ++ txt 5 t1 = M at *
  have har := fun c2 W hW => around_st pb M c2 [40] [[41]] [t2] rest w0 W hW hgs.cons.2 (fun t ht => hk t (by simp at ht ⊢; exact .inr ht)) rfl (by simp) (by simp at hM ⊢; omega)
  obtain ⟨kind, kids, n, s, t, u, ln, co⟩ := x
  simp only at hx
  subst hx
  simp only [Tr.agg]
  simp only [Tr.ncells] at h1 hsz0
  have har' : ∀ c2 W, St w0 W pb M c2 (Tr.flats [t2] ++ rest) → Calls Tryz.prog 159 #[.pointer (some ⟨pb, 0, none⟩), .slice (some ⟨W.heap.size, 0, none⟩) 2 2] (W.alloc (.cells #[.string (S [40]), .string (S [41])] 9)) (Done w0 pb (M ++ arT 0 ([40] :: [[41]]) [t2]) rest) := har
  generalize L ++ pr Lib.itoa _ = FF at *
  generalize M ++ arT 0 ([40] :: [[41]]) [t2] = GG at *
  clear hsz0 har h hg hlen hnice hfl hfn hgs hk htl hM
  go_enter Tryz.func105, Tryz.ntmps105
  go_wp2_with (go_at_call 53; refine (hkid _ h1).mono ?_; rintro e w1 ⟨rfl, c1, hS1⟩)
  refine (har' c1 w1 hS1).mono ?_
  rintro e w2 ⟨rfl, c2, hS2⟩
  go_wp2_with fail
  go_end0
  exact ⟨rfl, c2, hS2.same HF.out⟩
end Go.Proofs.YtpikfdkgblghhaaGreatDoor
namespace Go.Proofs.YtpikfdkgblghhaaGreatDoor
open Go.RowKit Pn
set_option maxRecDepth 100000
set_option linter.unusedSimpArgs false
set_option linter.unusedVariables false

set_option maxHeartbeats 4000000 in
theorem node_leaf (x : Tr.Nd) (ks : List Tr.T) (hx : x.kind = 1 ∨ x.kind = 2 ∨ x.kind = 3 ∨ x.kind = 4) (hg : GoodT (.nd x ks)) (hk : ∀ t ∈ ks, KidOk t) : NodeOk x ks := by
  intro pb L c rest w0 w h hlen
  obtain rfl := kids_none hg (by omega) (by rcases hx with e | e | e | e <;> rw [e] <;> rfl)
  obtain ⟨hnice, -, hgs⟩ := good_nice hg
  have h1 := h.alloc (.cells (Tr.ncells x).toArray 52)
  have hsz0 : (w.alloc (.cells (Tr.ncells x).toArray 52)).heap.size = w.heap.size + 1 := by simp
  have HF : Aside (L ++ [pcA Lib.itoa x].flatten = L ++ pr Lib.itoa (.nd x [])) := by
    show _ = _
    have hc : pcC x = [] := by unfold pcC; rcases hx with e | e | e | e <;> simp [e]
    simp [pr_nd, prs_nil, hc]
  have hpl := pcA_len hnice.1 (nice_len hnice).2
  have hlf := leaf_any x hx hnice.1 hnice.2.1 hnice.2.2
  have hput := fun W hW => put_st pb L c (Tr.flats [] ++ rest) [pcA Lib.itoa x] w0 W hW (by simp) (by simp at hlen ⊢; omega)
  obtain ⟨kind, kids, n, s, t, u, ln, co⟩ := x
  simp only at hx
  simp only [Tr.agg] at hlf ⊢
  simp only [Tr.ncells] at h1
  have hput' : ∀ W, St w0 W pb L c (Tr.flats [] ++ rest) → Calls Tryz.prog 67 #[.pointer (some ⟨pb, 0, none⟩), .slice (some ⟨W.heap.size, 0, none⟩) 1 1] (W.alloc (.cells #[.string (S (pcA Lib.itoa ⟨kind, kids, n, s, t, u, ln, co⟩))] 9)) fun e w' => e = .returned (.tuple #[]) ∧ St w0 w' pb (L ++ [pcA Lib.itoa ⟨kind, kids, n, s, t, u, ln, co⟩].flatten) c (Tr.flats [] ++ rest) := hput
  have hT := h1.tab
  have hlt := h1.pen.lt
  generalize L ++ pr Lib.itoa _ = FF at *
  generalize L ++ [pcA Lib.itoa ⟨kind, kids, n, s, t, u, ln, co⟩].flatten = GG at *
  generalize S (pcA Lib.itoa ⟨kind, kids, n, s, t, u, ln, co⟩) = q at *
  have hlf' : ∀ W, St w0 W pb L c (Tr.flats [] ++ rest) → Calls Tryz.prog 157 #[.agg #[.int .i8 kind, .int .i64 kids, .int .i64 n, .string s, .string t, .string u, .int .i64 ln, .int .i64 co]] W fun e w' => e = .returned (.string q) ∧ Below W.heap.size W w' := fun W hW => hlf W (hW.tab W (Below.refl _ _))
  clear hsz0 h hg hlen hnice hgs hk hpl hput hlf hT hlt
  rcases hx with rfl | rfl | rfl | rfl
  all_goals
    go_enter Tryz.func105, Tryz.ntmps105
    go_wp2_with (first | (go_at_call 157; refine (hlf' _ h1).mono ?_; rintro e w1 ⟨rfl, hB1⟩; have h2 := h1.below hB1) | (go_at_call 67; refine (hput' _ h2).mono ?_; rintro e w2 ⟨rfl, hS1⟩))
    go_end0
    exact ⟨rfl, c, hS1.same HF.out⟩
end Go.Proofs.YtpikfdkgblghhaaGreatDoor
