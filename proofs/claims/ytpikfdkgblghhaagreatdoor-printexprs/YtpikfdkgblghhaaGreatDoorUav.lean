/- Node: lists, words, what is written with an annotation. -/
import Derived.Test.YtpikfdkgblghhaaGreatDoorUat
import Derived.Test.YtpikfdkgblghhaaGreatDoorUau
namespace Go.Proofs.YtpikfdkgblghhaaGreatDoor
open Go.RowKit Pn
set_option maxRecDepth 100000
set_option linter.unusedSimpArgs false
set_option linter.unusedVariables false

set_option maxHeartbeats 4000000 in
theorem node_list (x : Tr.Nd) (ks : List Tr.T) (hx : x.kind = 21) (hg : GoodT (.nd x ks)) (hk : ∀ t ∈ ks, KidOk t) : NodeOk x ks := by
  intro pb L c rest w0 w h hlen
  obtain ⟨hnice, -, hgs⟩ := good_nice hg
  have h1 := h.alloc (.cells (Tr.ncells x).toArray 52)
  have hsz0 : (w.alloc (.cells (Tr.ncells x).toArray 52)).heap.size = w.heap.size + 1 := by simp
  have hkn := (good_nice hg).2.1
  have HF : Aside (L ++ ([91] ++ prs Lib.itoa 21 0 ks ++ [93]) = L ++ pr Lib.itoa (.nd x ks)) := by
    show _ = _
    simp [pr_nd, pcA, pcC, hx]
  have hln : ks.length ≤ (Tr.flats ks).length := by
    have : ∀ l : List Tr.T, l.length ≤ (Tr.flats l).length := by
      intro l
      induction l with
      | nil => simp
      | cons a r ih => have := Tr.flat_pos a; simp [Tr.flats]; omega
    exact this ks
  have hli := fun W hW => list_st pb L c ks rest w0 W hW hgs hk (by omega) (by omega)
  obtain ⟨kind, kids, n, s, t, u, ln, co⟩ := x
  simp only at hx
  subst hx
  simp only [Tr.agg]
  simp only [Tr.ncells] at h1 hsz0
  simp only at hkn
  subst hkn
  generalize L ++ pr Lib.itoa _ = FF at *
  generalize L ++ ([91] ++ prs Lib.itoa 21 0 ks ++ [93]) = GG at *
  clear hsz0 h hg hlen hnice hgs hk hln
  go_enter Tryz.func105, Tryz.ntmps105
  go_wp2_with (go_at_call 162; refine (hli _ h1).mono ?_; rintro e w1 ⟨rfl, c1, hS1⟩)
  go_end0
  exact ⟨rfl, c1, hS1.same HF.out⟩

set_option maxHeartbeats 4000000 in
theorem node_word (x : Tr.Nd) (ks : List Tr.T) (hx : x.kind = 26 ∨ x.kind = 17 ∨ x.kind = 19 ∨ x.kind = 20 ∨ x.kind = 22 ∨ x.kind = 23 ∨ x.kind = 24) (hg : GoodT (.nd x ks)) (hk : ∀ t ∈ ks, KidOk t) : NodeOk x ks := by
  intro pb L c rest w0 w h hlen
  obtain ⟨t1, rfl⟩ := kids_one hg (by omega) (by rcases hx with e | e | e | e | e | e | e <;> rw [e] <;> rfl)
  obtain ⟨hnice, -, hgs⟩ := good_nice hg
  have h1 := h.alloc (.cells (Tr.ncells x).toArray 52)
  have hsz0 : (w.alloc (.cells (Tr.ncells x).toArray 52)).heap.size = w.heap.size + 1 := by simp
  have hww : (wrd x.kind).length ≤ 6 := by rcases hx with e | e | e | e | e | e | e <;> rw [e] <;> decide
  have HF : Aside (L ++ arT 0 ((wrd x.kind ++ [40]) :: [[41]]) [t1] = L ++ pr Lib.itoa (.nd x [t1])) := by
    show _ = _
    rw [pr_nd]
    rcases hx with e | e | e | e | e | e | e <;> simp [prs_cons, prs_nil, arT_zero, arT_succ, arT_nil, pcA, pcB, pcC, askd, e, wrd]
  have har := fun W hW => around_st pb L c (wrd x.kind ++ [40]) [[41]] [t1] rest w0 W hW hgs hk rfl (by simp) (by simp at hlen ⊢; omega)
  have hwd := word_any x.kind
  have hsz : (S (wrd x.kind)).size ≤ 6 := by rw [S_size]; exact hww
  have hadd : S (wrd x.kind ++ [40]) = S (wrd x.kind) ++ S [40] := (S_add _ _).symm
  obtain ⟨kind, kids, n, s, t, u, ln, co⟩ := x
  simp only at hx hwd HF hsz hadd har
  simp only [Tr.agg]
  simp only [Tr.ncells] at h1 hsz0
  have har' : ∀ W, St w0 W pb L c (Tr.flats [t1] ++ rest) → Calls Tryz.prog 159 #[.pointer (some ⟨pb, 0, none⟩), .slice (some ⟨W.heap.size, 0, none⟩) 2 2] (W.alloc (.cells #[.string (S (wrd kind ++ [40])), .string (S [41])] 9)) (Done w0 pb (L ++ arT 0 ((wrd kind ++ [40]) :: [[41]]) [t1]) rest) := har
  rw [hadd] at har'
  generalize L ++ pr Lib.itoa _ = FF at *
  generalize L ++ arT 0 ((wrd kind ++ [40]) :: [[41]]) [t1] = GG at *
  generalize S (wrd kind) = ww at *
  have hq := har' _ h1
  rw [hsz0] at hq
  clear har har' h hg hlen hnice hww hadd hgs hk hsz0
  rcases hx with rfl | rfl | rfl | rfl | rfl | rfl | rfl
  all_goals
    go_enter Tryz.func105, Tryz.ntmps105
    go_wp2_with (first | (go_at_call 163; refine (hwd _).mono ?_; rintro e w1 ⟨rfl, hw1⟩; replace hw1 := hw1.symm; subst hw1) | (go_at_call 159; refine hq.mono ?_; rintro e w1 ⟨rfl, c1, hS1⟩))
    go_end0
    exact ⟨rfl, c1, hS1.same HF.out⟩

set_option maxHeartbeats 4000000 in
theorem node_as (x : Tr.Nd) (ks : List Tr.T) (hx : x.kind = 29) (hg : GoodT (.nd x ks)) (hk : ∀ t ∈ ks, KidOk t) : NodeOk x ks := by
  intro pb L c rest w0 w h hlen
  obtain ⟨t1, rfl⟩ := kids_one hg (by omega) (by rw [hx]; rfl)
  obtain ⟨hnice, -, hgs⟩ := good_nice hg
  have h1 := h.alloc (.cells (Tr.ncells x).toArray 52)
  have hsz0 : (w.alloc (.cells (Tr.ncells x).toArray 52)).heap.size = w.heap.size + 1 := by simp
  have htB : noteB x.t.data.toList = true := by
    obtain ⟨_, _, _, ht, _⟩ := may_parts hnice.1
    unfold Tr.tB at ht
    rw [if_neg (by simp; omega), if_pos (by simp [hx])] at ht
    unfold noteB; rw [ht]; simp
  have hnl := note_len htB
  have HF : Aside (L ++ arT 0 ([40] :: [note x.t.data.toList ++ [41]]) [t1] = L ++ pr Lib.itoa (.nd x [t1])) := by
    show _ = _
    simp [pr_nd, prs_cons, prs_nil, arT_zero, arT_succ, arT_nil, pcA, pcB, pcC, askd, hx]
  have har := fun W hW => around_st pb L c [40] [note x.t.data.toList ++ [41]] [t1] rest w0 W hW hgs hk rfl (by simp) (by simp at hlen ⊢; omega)
  have htd := typed_any x.t htB
  have hsz : (S (note x.t.data.toList)).size ≤ 643 := by rw [S_size]; exact hnl
  have hadd : S (note x.t.data.toList ++ [41]) = S (note x.t.data.toList) ++ S [41] := (S_add _ _).symm
  obtain ⟨kind, kids, n, s, t, u, ln, co⟩ := x
  simp only at hx htd HF hsz hadd har
  subst hx
  simp only [Tr.agg]
  simp only [Tr.ncells] at h1
  have har' : ∀ W, St w0 W pb L c (Tr.flats [t1] ++ rest) → Calls Tryz.prog 159 #[.pointer (some ⟨pb, 0, none⟩), .slice (some ⟨W.heap.size, 0, none⟩) 2 2] (W.alloc (.cells #[.string (S [40]), .string (S (note t.data.toList ++ [41]))] 9)) (Done w0 pb (L ++ arT 0 ([40] :: [note t.data.toList ++ [41]]) [t1]) rest) := har
  rw [hadd] at har'
  generalize L ++ pr Lib.itoa _ = FF at *
  generalize L ++ arT 0 ([40] :: [note t.data.toList ++ [41]]) [t1] = GG at *
  generalize S (note t.data.toList) = nt at *
  clear hsz0 har h hg hlen hnice htB hnl hadd hgs hk
  go_enter Tryz.func105, Tryz.ntmps105
  go_wp2_with (first | (go_at_call 68; refine (htd _).mono ?_; rintro e w1 ⟨rfl, hB1⟩; have h2 := h1.below hB1) | (go_at_call 159; refine (har' _ h2).mono ?_; rintro e w2 ⟨rfl, c1, hS1⟩))
  go_end0
  exact ⟨rfl, c1, hS1.same HF.out⟩
end Go.Proofs.YtpikfdkgblghhaaGreatDoor
