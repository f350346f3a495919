/- Functions: what is written ahead of the body. Node: functions, lets. -/
import Derived.Test.YtpikfdkgblghhaaGreatDoorUat
import Derived.Test.YtpikfdkgblghhaaGreatDoorUau
import Derived.Test.YtpikfdkgblghhaaGreatDoorUao
import Derived.BigQuiet
namespace Go.Proofs.YtpikfdkgblghhaaGreatDoor
open Go.RowKit Pn
set_option maxRecDepth 100000
set_option linter.unusedSimpArgs false
set_option linter.unusedVariables false

set_option maxHeartbeats 4000000 in
theorem function_st (pb : Nat) (L ah par : List UInt8) (c : Value) (x : Tr.Nd) (t1 : Tr.T) (rest : List Tr.Nd) (w0 w : World) (h : St w0 w pb L c (Tr.flat t1 ++ rest)) (ht : noteB x.t.data.toList = true) (hu : noteB x.u.data.toList = true) (hk1 : KidOk t1)
    (hah : ah.length ≤ 100) (hpar : par.length ≤ 100) (hlen : L.length + 2000 + 2400 * (Tr.flat t1).length ≤ 10000000000) :
    Calls Tryz.prog 158 #[.pointer (some ⟨pb, 0, none⟩), .string (S ah), .string (S par), Tr.agg x] w (Done w0 pb (L ++ ([ah, [40], par, note x.t.data.toList, [41], note x.u.data.toList, [32, 61, 62, 32]].flatten ++ txt 0 t1)) rest) := by
  have hnt := note_len ht
  have hnu := note_len hu
  have HF : Aside (L ++ [ah, [40], par, note x.t.data.toList, [41], note x.u.data.toList, [32, 61, 62, 32]].flatten ++ txt 0 t1 = L ++ ([ah, [40], par, note x.t.data.toList, [41], note x.u.data.toList, [32, 61, 62, 32]].flatten ++ txt 0 t1)) := by show _ = _; rw [List.append_assoc]
  have hput := fun W hW => put_st pb L c (Tr.flat t1 ++ rest) [ah, [40], par, note x.t.data.toList, [41], note x.u.data.toList, [32, 61, 62, 32]] w0 W hW (by simp) (by simp; omega)
  have hM : (L ++ [ah, [40], par, note x.t.data.toList, [41], note x.u.data.toList, [32, 61, 62, 32]].flatten).length + 2400 * (Tr.flat t1).length ≤ 10000000000 := by simp; omega
  generalize L ++ ([ah, [40], par, note x.t.data.toList, [41], note x.u.data.toList, [32, 61, 62, 32]].flatten ++ txt 0 t1) = FF at *
  generalize L ++ [ah, [40], par, note x.t.data.toList, [41], note x.u.data.toList, [32, 61, 62, 32]].flatten = M at *
  have hput' : ∀ W, St w0 W pb L c (Tr.flat t1 ++ rest) → Calls Tryz.prog 67 #[.pointer (some ⟨pb, 0, none⟩), .slice (some ⟨W.heap.size, 0, none⟩) 7 7] (W.alloc (.cells #[.string (S ah), .string (S [40]), .string (S par), .string (S (note x.t.data.toList)), .string (S [41]), .string (S (note x.u.data.toList)), .string (S [32, 61, 62, 32])] 9)) fun e w' => e = .returned (.tuple #[]) ∧ St w0 w' pb M c (Tr.flat t1 ++ rest) := hput
  have hkid := fun W hW => hk1 0 pb M c rest w0 W hW (by decide) (by decide) hM
  have htt := typed_any x.t ht
  have htu := typed_any x.u hu
  clear hput hM hnt hnu hah hpar hlen hk1
  have h1 := h.alloc (.cells (Tr.ncells x).toArray 52)
  have hbx := fun W hB => box_cells w W x hB
  have hlt := h.pen.lt
  generalize M ++ txt 0 t1 = GG at *
  obtain ⟨kind, kids, n, s, t, u, ln, co⟩ := x
  simp only [Tr.agg]
  simp only at htt htu hput' ht hu
  simp only [Tr.ncells] at h1 hbx
  generalize S (note t.data.toList) = nt at *
  generalize S (note u.data.toList) = nu at *
  generalize S ah = sa at *
  generalize S par = sp at *
  clear ht hu h
  go_enter Tryz.func158, Tryz.ntmps158
  go_wp2_with fail
  obtain ⟨w1, hw1⟩ : ∃ w1, w1 = w.alloc (.cells #[.int .i8 kind, .int .i64 kids, .int .i64 n, .string s, .string t, .string u, .int .i64 ln, .int .i64 co] 52) := ⟨_, rfl⟩
  have hbs : w1.heap.size = w.heap.size + 1 := by rw [hw1]; simp
  simp only [← hw1] at hbx h1 ⊢
  have hcl : ∀ W, Below w1.heap.size w1 W → W.cell? ⟨w.heap.size, 4, none⟩ = some (.string t) ∧ W.cell? ⟨w.heap.size, 5, none⟩ = some (.string u) := fun W hW => ⟨hbx W (hW.mono (Nat.le_of_eq hbs.symm)) 4, hbx W (hW.mono (Nat.le_of_eq hbs.symm)) 5⟩
  have HST : Aside (∀ W, Below w1.heap.size w1 W → St w0 W pb L c (Tr.flat t1 ++ rest)) := fun W hW => h1.below hW
  have HBS : Aside (w1.heap.size = w.heap.size + 1) := hbs
  clear hbx h1 hw1 hbs
  refine V.wp_region_W (fun W => Below w1.heap.size w1 W) 10 (by kernel_rfl) ?_
  have hS0 : Below w1.heap.size w1 w1.drew := (Below.refl _ _).drew
  generalize w1.drew = wd at *
  have hne9 : Nonempty (Cls (fun W => Below w1.heap.size w1 W)) := ⟨⟨w1, Below.refl _ _⟩⟩
  have z4 : ∀ z : Cls (fun W => Below w1.heap.size w1 W), z.w.cell? ⟨w.heap.size, 4, none⟩ = some (.string t) := fun z => (hcl z.w z.h).1
  have z5 : ∀ z : Cls (fun W => Below w1.heap.size w1 W), z.w.cell? ⟨w.heap.size, 5, none⟩ = some (.string u) := fun z => (hcl z.w z.h).2
  clear hcl
  have HS0 : Aside (Below w1.heap.size w1 wd) := hS0
  refine V.wpAnyW.quiet (by kernel_rfl) (by kernel_rfl) (fun _ _ _ _ _ h => h) hS0 [0, 1, 2, 3, 4, 6, 7] (by rfl) 4 _ _ (V.head0 10) (by kernel_rfl) ?_
  clear hS0
  simp only [V.pickL, List.filterMap_cons, List.filterMap_nil, List.getElem?_toArray, List.getElem?_cons_zero, List.getElem?_cons_succ]
  repeat (show wpQuiet _ _ _ _ (_ :: _) _; go_big_quiet_step (fail))
  refine wpQuiet_nil ?_
  clear z4 z5 hne9
  refine V.wpAnyW.event 5 (by decide) (by kernel_rfl) rfl ?_
  go_wp2_with fail
  refine (htt _).mono ?_
  rintro e w2 ⟨rfl, hB2⟩
  go_wp2_with fail
  have HB2 : Aside (Below w1.heap.size w1 w2) := HS0.out.trans (hB2.mono HS0.out.size)
  refine ⟨fun W => Below w1.heap.size w1 W, fun _ h => h, HB2.out, ?_⟩
  clear hB2
  refine V.wpAnyW.event 8 (by decide) (by kernel_rfl) rfl ?_
  go_wp2_with fail
  refine (htu _).mono ?_
  rintro e w3 ⟨rfl, hB3⟩
  go_wp2_with fail
  have HB3 : Aside (Below w1.heap.size w1 w3) := HB2.out.trans (hB3.mono HB2.out.size)
  refine ⟨fun W => Below w1.heap.size w1 W, fun _ h => h, HB3.out, ?_⟩
  clear hB3
  refine V.wpAnyW.event 9 (by decide) (by kernel_rfl) rfl ?_
  go_wp2_with fail
  refine ⟨fun W => Below w1.heap.size w1 W, fun _ h => h, HB3.out.alloc HB3.out.size _, ?_⟩
  refine V.wpAnyW.last (by kernel_rfl) rfl (by kernel_rfl) ?_
  have hq := hput' w3 (HST.out w3 HB3.out)
  go_wp2_with fail
  refine hq.mono ?_
  rintro e w4 ⟨rfl, hS4⟩
  go_wp2_with fail
  refine NoPanic.normal ?_
  refine NoPanic.normal ?_
  go_wp2_with fail
  refine (hkid w4 hS4).mono ?_
  rintro e w5 ⟨rfl, c5, hS5⟩
  go_wp2_with fail
  go_end0
  exact ⟨rfl, c5, hS5.same HF.out⟩
end Go.Proofs.YtpikfdkgblghhaaGreatDoor
namespace Go.Proofs.YtpikfdkgblghhaaGreatDoor
open Go.RowKit Pn
set_option maxRecDepth 100000
set_option linter.unusedSimpArgs false
set_option linter.unusedVariables false
namespace Pn
theorem may_notes {x : Tr.Nd} (h : Tr.mayB x = true) (hk : x.kind = 5 ∨ x.kind = 6) : noteB x.t.data.toList = true ∧ noteB x.u.data.toList = true := by
  obtain ⟨_, _, _, ht, hu⟩ := may_parts h
  unfold Tr.tB at ht
  unfold Tr.uB at hu
  rw [if_pos (by simp; omega)] at ht hu
  exact ⟨ht, hu⟩
end Pn

set_option maxHeartbeats 4000000 in
theorem node_fn (x : Tr.Nd) (ks : List Tr.T) (hx : x.kind = 5) (hg : GoodT (.nd x ks)) (hk : ∀ t ∈ ks, KidOk t) : NodeOk x ks := by
  intro pb L c rest w0 w h hlen
  obtain ⟨t1, rfl⟩ := kids_one hg (by omega) (by rw [hx]; rfl)
  obtain ⟨hnice, -, hgs⟩ := good_nice hg
  have h1 := h.alloc (.cells (Tr.ncells x).toArray 52)
  obtain ⟨hnt, hnu⟩ := may_notes hnice.1 (.inl hx)
  have hnm : x.s.data.toList.length ≤ 100 := by
    obtain ⟨_, _, hs, _, _⟩ := may_parts hnice.1
    unfold Tr.sB Tr.nm at hs
    rw [if_neg (by simp [hx]), if_pos (by simp [hx])] at hs
    have := name_len hs
    omega
  have hfl : Tr.flats [t1] ++ rest = Tr.flat t1 ++ rest := by simp [Tr.flats]
  have hfn : (Tr.flats [t1]).length = (Tr.flat t1).length := by simp [Tr.flats]
  rw [hfl] at h1
  rw [hfn] at hlen
  have HF : Aside (L ++ ([[102, 110, 32], [40], x.s.data.toList, note x.t.data.toList, [41], note x.u.data.toList, [32, 61, 62, 32]].flatten ++ txt 0 t1) = L ++ pr Lib.itoa (.nd x [t1])) := by
    show _ = _
    simp [pr_nd, prs_cons, prs_nil, pcA, pcB, pcC, askd, hx]
  have hq := function_st pb L [102, 110, 32] x.s.data.toList c x t1 rest w0 _ h1 hnt hnu (hk t1 (by simp)) (by simp) hnm (by omega)
  obtain ⟨kind, kids, n, s, t, u, ln, co⟩ := x
  simp only at hx
  subst hx
  simp only [Tr.agg] at hq ⊢
  simp only [Tr.ncells] at h1 hq
  have hq' : Calls Tryz.prog 158 #[.pointer (some ⟨pb, 0, none⟩), .string (S [102, 110, 32]), .string s, .agg #[.int .i8 5, .int .i64 kids, .int .i64 n, .string s, .string t, .string u, .int .i64 ln, .int .i64 co]] (w.alloc (.cells #[.int .i8 5, .int .i64 kids, .int .i64 n, .string s, .string t, .string u, .int .i64 ln, .int .i64 co] 52)) _ := hq
  generalize L ++ pr Lib.itoa _ = FF at *
  generalize L ++ ([[102, 110, 32], [40], s.data.toList, note t.data.toList, [41], note u.data.toList, [32, 61, 62, 32]].flatten ++ txt 0 t1) = GG at *
  clear h hg hlen hnice hfl hfn hgs hk hnt hnu hnm h1 hq
  go_enter Tryz.func105, Tryz.ntmps105
  go_wp2_with (go_at_call 158; refine hq'.mono ?_; rintro e w1 ⟨rfl, c1, hS1⟩)
  go_end0
  exact ⟨rfl, c1, hS1.same HF.out⟩

set_option maxHeartbeats 4000000 in
theorem node_rec (x : Tr.Nd) (ks : List Tr.T) (hx : x.kind = 6) (hg : GoodT (.nd x ks)) (hk : ∀ t ∈ ks, KidOk t) : NodeOk x ks := by
  intro pb L c rest w0 w h hlen
  obtain ⟨t1, rfl⟩ := kids_one hg (by omega) (by rw [hx]; rfl)
  obtain ⟨hnice, -, hgs⟩ := good_nice hg
  have h1 := h.alloc (.cells (Tr.ncells x).toArray 52)
  obtain ⟨hnt, hnu⟩ := may_notes hnice.1 (.inr hx)
  have hnm : (Tr.cut32 x.s.data.toList).1.length ≤ 32 ∧ (Tr.cut32 x.s.data.toList).2.1.length ≤ 32 := by
    obtain ⟨_, _, hs, _, _⟩ := may_parts hnice.1
    unfold Tr.sB Tr.nm at hs
    rw [if_neg (by simp [hx]), if_neg (by simp [hx]), if_pos (by simp [hx])] at hs
    simp only [Bool.and_eq_true] at hs
    exact ⟨name_len hs.1, name_len hs.2⟩
  have hfl : Tr.flats [t1] ++ rest = Tr.flat t1 ++ rest := by simp [Tr.flats]
  have hfn : (Tr.flats [t1]).length = (Tr.flat t1).length := by simp [Tr.flats]
  rw [hfl] at h1
  rw [hfn] at hlen
  have hcut := cut_any x.s hnice.2.2
  have hbx := fun W hB => box_cells w W x hB
  have hlt := h.pen.lt
  have hkt := hk t1 (by simp)
  generalize hown : (Tr.cut32 x.s.data.toList).1 = own at *
  generalize hpar : (Tr.cut32 x.s.data.toList).2.1 = par at *
  have HF : Aside (L ++ ([[114, 101, 99, 32] ++ own ++ [32], [40], par, note x.t.data.toList, [41], note x.u.data.toList, [32, 61, 62, 32]].flatten ++ txt 0 t1) = L ++ pr Lib.itoa (.nd x [t1])) := by
    show _ = _
    simp [pr_nd, prs_cons, prs_nil, pcA, pcB, pcC, askd, hx, hown, hpar]
  have hadd : S ([114, 101, 99, 32] ++ own ++ [32]) = S [114, 101, 99, 32] ++ S own ++ S [32] := by rw [S_add, S_add]
  have hso : (S own).size ≤ 32 := by rw [S_size]; omega
  have hq := fun W hW => function_st pb L ([114, 101, 99, 32] ++ own ++ [32]) par c x t1 rest w0 W hW hnt hnu hkt (by simp; omega) (by omega) (by omega)
  have hsz : (w.alloc (.cells (Tr.ncells x).toArray 52)).heap.size = w.heap.size + 1 := by simp
  obtain ⟨kind, kids, n, s, t, u, ln, co⟩ := x
  simp only at hx hcut
  subst hx
  simp only [Tr.agg] at hq ⊢
  simp only [Tr.ncells] at h1 hq hbx hsz
  rw [hadd] at hq
  generalize L ++ pr Lib.itoa _ = FF at *
  generalize L ++ ([[114, 101, 99, 32] ++ own ++ [32], [40], par, note t.data.toList, [41], note u.data.toList, [32, 61, 62, 32]].flatten ++ txt 0 t1) = GG at *
  generalize S own = so at *
  generalize S par = sp at *
  generalize (Tr.cut32 s.data.toList).2.2 = fb at *
  clear h hg hlen hnice hfl hfn hgs hk hnt hnu hnm hkt hown hpar hadd
  go_enter Tryz.func105, Tryz.ntmps105
  go_wp2_with fail
  refine (hcut _).mono ?_
  rintro e w2 ⟨rfl, hB2⟩
  have h2 := h1.below hB2
  rw [hsz] at hB2
  have hc := hbx w2 hB2
  have q0 := hc 0
  have q1 := hc 1
  have q2 := hc 2
  have q3 := hc 3
  have q4 := hc 4
  have q5 := hc 5
  have q6 := hc 6
  have q7 := hc 7
  simp only [List.getElem?_cons_zero, List.getElem?_cons_succ] at q0 q1 q2 q3 q4 q5 q6 q7
  have hq2 := hq w2 h2
  clear hc hbx h1 hB2 hsz hq
  go_wp2_with (go_at_call 158; refine hq2.mono ?_; rintro e w3 ⟨rfl, c1, hS1⟩)
  go_end0
  exact ⟨rfl, c1, hS1.same HF.out⟩

set_option maxHeartbeats 4000000 in
theorem node_let (x : Tr.Nd) (ks : List Tr.T) (hx : x.kind = 8) (hg : GoodT (.nd x ks)) (hk : ∀ t ∈ ks, KidOk t) : NodeOk x ks := by
  intro pb L c rest w0 w h hlen
  obtain ⟨t1, t2, rfl⟩ := kids_two hg (by omega) (by rw [hx]; rfl)
  obtain ⟨hnice, -, hgs⟩ := good_nice hg
  have h1 := h.alloc (.cells (Tr.ncells x).toArray 52)
  have hnt : noteB x.t.data.toList = true := by
    obtain ⟨_, _, _, ht, _⟩ := may_parts hnice.1
    unfold Tr.tB at ht
    rw [if_pos (by simp [hx])] at ht
    exact ht
  have hnm : x.s.data.toList.length ≤ 32 := by
    obtain ⟨_, _, hs, _, _⟩ := may_parts hnice.1
    unfold Tr.sB Tr.nm at hs
    rw [if_neg (by simp [hx]), if_pos (by simp [hx])] at hs
    exact name_len hs
  have hnl := note_len hnt
  have HF : Aside (L ++ arT 0 (([108, 101, 116, 32] ++ x.s.data.toList ++ note x.t.data.toList ++ [32, 61, 32]) :: [[32, 105, 110, 32], []]) [t1, t2] = L ++ pr Lib.itoa (.nd x [t1, t2])) := by
    show _ = _
    simp [pr_nd, prs_cons, prs_nil, arT_zero, arT_succ, arT_nil, pcA, pcB, pcC, askd, hx]
  have har := fun W hW => around_st pb L c ([108, 101, 116, 32] ++ x.s.data.toList ++ note x.t.data.toList ++ [32, 61, 32]) [[32, 105, 110, 32], []] [t1, t2] rest w0 W hW hgs hk rfl (by simp) (by
    have hp : ([108, 101, 116, 32] ++ x.s.data.toList ++ note x.t.data.toList ++ [32, 61, 32]).length ≤ 700 := by
      simp only [List.length_append, List.length_cons, List.length_nil]; omega
    rw [List.flatten_cons, List.length_append]
    have hf : ([[32, 105, 110, 32], []] : List (List UInt8)).flatten.length = 4 := rfl
    omega)
  have htt := typed_any x.t hnt
  have hbx := fun W hB => box_cells w W x hB
  have hlt := h.pen.lt
  have hss : x.s.size ≤ 32 := by rw [S_of x.s, S_size]; exact hnm
  have hns : (S (note x.t.data.toList)).size ≤ 643 := by rw [S_size]; exact hnl
  have hadd : S ([108, 101, 116, 32] ++ x.s.data.toList ++ note x.t.data.toList ++ [32, 61, 32]) = S [108, 101, 116, 32] ++ x.s ++ S (note x.t.data.toList) ++ S [32, 61, 32] := by rw [← S_add, ← S_add, ← S_add]; rfl
  obtain ⟨kind, kids, n, s, t, u, ln, co⟩ := x
  simp only at hx htt hss hns hadd
  subst hx
  simp only [Tr.agg]
  simp only [Tr.ncells] at h1 hbx
  have har' : ∀ W, St w0 W pb L c (Tr.flats [t1, t2] ++ rest) → Calls Tryz.prog 159 #[.pointer (some ⟨pb, 0, none⟩), .slice (some ⟨W.heap.size, 0, none⟩) 3 3] (W.alloc (.cells #[.string (S ([108, 101, 116, 32] ++ s.data.toList ++ note t.data.toList ++ [32, 61, 32])), .string (S [32, 105, 110, 32]), .string (S [])] 9)) (Done w0 pb (L ++ arT 0 (([108, 101, 116, 32] ++ s.data.toList ++ note t.data.toList ++ [32, 61, 32]) :: [[32, 105, 110, 32], []]) [t1, t2]) rest) := har
  rw [hadd] at har'
  generalize L ++ pr Lib.itoa _ = FF at *
  generalize L ++ arT 0 (([108, 101, 116, 32] ++ s.data.toList ++ note t.data.toList ++ [32, 61, 32]) :: [[32, 105, 110, 32], []]) [t1, t2] = GG at *
  generalize S (note t.data.toList) = nt at *
  clear har h hg hlen hnice hnt hnm hnl hadd hk hgs
  go_enter Tryz.func105, Tryz.ntmps105
  go_wp2_with fail
  obtain ⟨w1, hw1⟩ : ∃ w1, w1 = w.alloc (.cells #[.int .i8 8, .int .i64 kids, .int .i64 n, .string s, .string t, .string u, .int .i64 ln, .int .i64 co] 52) := ⟨_, rfl⟩
  have hbs : w1.heap.size = w.heap.size + 1 := by rw [hw1]; simp
  simp only [← hw1] at hbx h1 ⊢
  have hcl : ∀ W, Below w1.heap.size w1 W → W.cell? ⟨w.heap.size, 3, none⟩ = some (.string s) ∧ W.cell? ⟨w.heap.size, 4, none⟩ = some (.string t) := fun W hW => ⟨hbx W (hW.mono (Nat.le_of_eq hbs.symm)) 3, hbx W (hW.mono (Nat.le_of_eq hbs.symm)) 4⟩
  have HST : Aside (∀ W, Below w1.heap.size w1 W → St w0 W pb L c (Tr.flats [t1, t2] ++ rest)) := fun W hW => h1.below hW
  clear hbx h1 hw1 hbs
  refine V.wp_region_W (fun W => Below w1.heap.size w1 W) 10 (by kernel_rfl) ?_
  have hS0 : Below w1.heap.size w1 w1.drew := (Below.refl _ _).drew
  generalize w1.drew = wd at *
  have hne9 : Nonempty (Cls (fun W => Below w1.heap.size w1 W)) := ⟨⟨w1, Below.refl _ _⟩⟩
  have z3 : ∀ z : Cls (fun W => Below w1.heap.size w1 W), z.w.cell? ⟨w.heap.size, 3, none⟩ = some (.string s) := fun z => (hcl z.w z.h).1
  have z4 : ∀ z : Cls (fun W => Below w1.heap.size w1 W), z.w.cell? ⟨w.heap.size, 4, none⟩ = some (.string t) := fun z => (hcl z.w z.h).2
  clear hcl
  have HS0 : Aside (Below w1.heap.size w1 wd) := hS0
  refine V.wpAnyW.quiet (by kernel_rfl) (by kernel_rfl) (fun _ _ _ _ _ h => h) hS0 [0, 1, 2, 3, 4, 5] (by rfl) 5 _ _ (V.head0 10) (by kernel_rfl) ?_
  clear hS0
  simp only [V.pickL, List.filterMap_cons, List.filterMap_nil, List.getElem?_toArray, List.getElem?_cons_zero, List.getElem?_cons_succ]
  repeat (show wpQuiet _ _ _ _ (_ :: _) _; go_big_quiet_step (fail))
  refine wpQuiet_nil ?_
  clear z3 z4 hne9
  refine V.wpAnyW.event 6 (by decide) (by kernel_rfl) rfl ?_
  go_wp2_with fail
  refine (htt _).mono ?_
  rintro e w2 ⟨rfl, hB2⟩
  go_wp2_with fail
  have HB2 : Aside (Below w1.heap.size w1 w2) := HS0.out.trans (hB2.mono HS0.out.size)
  refine ⟨fun W => Below w1.heap.size w1 W, fun _ h => h, HB2.out, ?_⟩
  clear hB2
  refine V.wpAnyW.event 7 (by decide) (by kernel_rfl) rfl ?_
  go_wp2_with fail
  refine ⟨fun W => Below w1.heap.size w1 W, fun _ h => h, HB2.out, ?_⟩
  refine V.wpAnyW.event 8 (by decide) (by kernel_rfl) rfl ?_
  go_wp2_with fail
  refine ⟨fun W => Below w1.heap.size w1 W, fun _ h => h, HB2.out, ?_⟩
  refine V.wpAnyW.event 9 (by decide) (by kernel_rfl) rfl ?_
  go_wp2_with fail
  refine ⟨fun W => Below w1.heap.size w1 W, fun _ h => h, HB2.out.alloc HB2.out.size _, ?_⟩
  refine V.wpAnyW.last (by kernel_rfl) rfl (by kernel_rfl) ?_
  have hq := har' w2 (HST.out w2 HB2.out)
  go_wp2_with fail
  refine hq.mono ?_
  rintro e w4 ⟨rfl, c4, hS4⟩
  go_wp2_with fail
  refine NoPanic.normal ?_
  refine NoPanic.normal ?_
  go_wp2_with fail
  go_end0
  exact ⟨rfl, c4, hS4.same HF.out⟩
end Go.Proofs.YtpikfdkgblghhaaGreatDoor
