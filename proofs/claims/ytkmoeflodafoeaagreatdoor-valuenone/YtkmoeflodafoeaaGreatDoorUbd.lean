/- Package value: halves of a pair under wrappers; the pair of works. -/
import Derived.Test.YtkmoeflodafoeaaGreatDoorUbb
namespace Go.Proofs.YtkmoeflodafoeaaGreatDoor.Vl
open Go.RowKit
open T3.Tp (Ty)
set_option maxRecDepth 100000
set_option linter.unusedSimpArgs false
set_option linter.unusedVariables false
set_option maxHeartbeats 3200000 in
theorem half_first (l : List Value) (x core a b : Value) (T : TypeId) (u : Value) (k : Nat) (w : World) (hch : Ch w l x core) (hb : PrAt w core a b) (hv : a = .iface T u) (hl : l.length ≤ 1000) (hh : ∀ y ∈ l, Hd w 44 y)
    (I : Nat → Value → World → Prop) (R : Int → Int → World → Prop) (h0 : ∀ W, Below w.heap.size w W → I 0 (.iface T u) W) (hd : ∀ j v W o, I j v W → I j v (W.alloc o)) (hif : ∀ j v W, I j v W → ∃ T u, v = .iface T u)
    (hs : ∀ j v W y, j < l.length → l[l.length - 1 - j]? = some y → I j v W → Below w.heap.size w W → ∃ gy, y = .iface 203 (.pointer (some ⟨gy, 0, none⟩)) ∧ Calls Tryz.prog 241 #[.pointer (some ⟨gy, 0, none⟩), v, psg 44 0 k false] W (StEnd W (I (j + 1)) R)) :
    Calls Tryz.prog 73 #[x, psg 44 0 k false] w (StEnd w (I l.length) R) := by
  obtain ⟨gp, hce, hgp⟩ := hb
  have hnw : NotWr core := by rw [hce]; exact nw_pair _
  have hic : Ifc core := .inr ⟨_, _, hce⟩
  have cp : ∀ o, Calls Tryz.prog 136 #[x, .int .u8 44] (w.alloc o) fun e w' => ∃ a c, e = .returned (.tuple #[.agg #[.slice a l.length c, core], .int .i64 0]) ∧ w'.ownsRow w.heap.size 216 1 (.slice a l.length c) l.length l ∧ Below (w.alloc o).heap.size (w.alloc o) w' := fun o => (peel_any l x core 44 (w.alloc o) (hch.later (al_bv _ _)) hnw hic hl (fun y hy => (hh y hy).later (al_bv _ _))).mono (by
    rintro e w' ⟨v, rfl, hO, hB⟩
    obtain ⟨a, c, rfl⟩ := own_formv hO
    exact ⟨a, c, rfl, own_lowerv hO (by simp), hB⟩)
  have cP := fun (W : World) (la : Option Addr) (lc : Nat) (hB : Below w.heap.size w W) (hO : W.ownsRow w.heap.size 216 1 (.slice la l.length lc) l.length l) =>
    pass_any l (.slice la l.length lc) core w.heap.size T u 44 0 k false W hO hl hic I R (h0 W hB) hd hif (fun j v W' y hj hy hI hW' => hs j v W' y hj (by simpa using hy) hI (hB.trans (hW'.mono hB.size)))
  have ha := ta_pair
  have HG : Aside (w.heap[gp]? = some (.cells #[a, b] 109 (0, 0))) := hgp
  clear hs hd hif h0 hch hh hic hnw hgp
  subst hce hv
  unfold psg at *
  go_enter Tryz.func73, Tryz.ntmps73
  go_wp2_with fail
  refine (cp _).mono ?_
  rintro e w1 ⟨a1, c1, rfl, hO1, hB1⟩
  have HB2 : Aside (∀ o, Below w.heap.size w (w1.alloc o)) := fun o => below_b (below_b (al_bv w _) hB1) (al_bv w1 o)
  have HO2 : Aside (∀ o, (w1.alloc o).ownsRow w.heap.size 216 1 (.slice a1 l.length c1) l.length l) := fun o => own_below1 hO1 (al_bv w1 o)
  have hpb := fun o => blk_keep (blk_keep (heap_alloc_new w (.cells #[.int .u8 44, .int .i64 ((0 : Nat) : Int), .int .i64 (k : Int), .bool false] 142)) hB1) (al_bv w1 o)
  have q0 := fun o => (ptr_block (hpb o)).1 0
  have q1 := fun o => (ptr_block (hpb o)).1 1
  have q2 := fun o => (ptr_block (hpb o)).1 2
  have q3 := fun o => (ptr_block (hpb o)).1 3
  have r0 := fun o => (ptr_block (blk_keep HG.out (HB2.out o))).1 0
  have r1 := fun o => (ptr_block (blk_keep HG.out (HB2.out o))).1 1
  clear hO1 hB1 cp hpb
  go_wp2_with fail
  refine (cP _ _ _ (HB2.out _) (HO2.out _)).mono ?_
  rintro e w4 hE
  obtain ⟨v4, p4, k4, rfl, hF⟩ := StEnd.from (HB2.out _) hE
  have HE : Aside _ := hF
  clear hE hF cP
  go_wp2_with fail
  go_ret3
  exact ⟨_, _, _, rfl, HE⟩
set_option maxHeartbeats 3200000 in
theorem half_second (l : List Value) (x core a b : Value) (T : TypeId) (u : Value) (k : Nat) (w : World) (hch : Ch w l x core) (hb : PrAt w core a b) (hv : b = .iface T u) (hl : l.length ≤ 1000) (hh : ∀ y ∈ l, Hd w 44 y)
    (I : Nat → Value → World → Prop) (R : Int → Int → World → Prop) (h0 : ∀ W, Below w.heap.size w W → I 0 (.iface T u) W) (hd : ∀ j v W o, I j v W → I j v (W.alloc o)) (hif : ∀ j v W, I j v W → ∃ T u, v = .iface T u)
    (hs : ∀ j v W y, j < l.length → l[l.length - 1 - j]? = some y → I j v W → Below w.heap.size w W → ∃ gy, y = .iface 203 (.pointer (some ⟨gy, 0, none⟩)) ∧ Calls Tryz.prog 241 #[.pointer (some ⟨gy, 0, none⟩), v, psg 44 1 k false] W (StEnd W (I (j + 1)) R)) :
    Calls Tryz.prog 73 #[x, psg 44 1 k false] w (StEnd w (I l.length) R) := by
  obtain ⟨gp, hce, hgp⟩ := hb
  have hnw : NotWr core := by rw [hce]; exact nw_pair _
  have hic : Ifc core := .inr ⟨_, _, hce⟩
  have cp : ∀ o, Calls Tryz.prog 136 #[x, .int .u8 44] (w.alloc o) fun e w' => ∃ a c, e = .returned (.tuple #[.agg #[.slice a l.length c, core], .int .i64 0]) ∧ w'.ownsRow w.heap.size 216 1 (.slice a l.length c) l.length l ∧ Below (w.alloc o).heap.size (w.alloc o) w' := fun o => (peel_any l x core 44 (w.alloc o) (hch.later (al_bv _ _)) hnw hic hl (fun y hy => (hh y hy).later (al_bv _ _))).mono (by
    rintro e w' ⟨v, rfl, hO, hB⟩
    obtain ⟨a, c, rfl⟩ := own_formv hO
    exact ⟨a, c, rfl, own_lowerv hO (by simp), hB⟩)
  have cP := fun (W : World) (la : Option Addr) (lc : Nat) (hB : Below w.heap.size w W) (hO : W.ownsRow w.heap.size 216 1 (.slice la l.length lc) l.length l) =>
    pass_any l (.slice la l.length lc) core w.heap.size T u 44 1 k false W hO hl hic I R (h0 W hB) hd hif (fun j v W' y hj hy hI hW' => hs j v W' y hj (by simpa using hy) hI (hB.trans (hW'.mono hB.size)))
  have ha := ta_pair
  have HG : Aside (w.heap[gp]? = some (.cells #[a, b] 109 (0, 0))) := hgp
  clear hs hd hif h0 hch hh hic hnw hgp
  subst hce hv
  unfold psg at *
  go_enter Tryz.func73, Tryz.ntmps73
  go_wp2_with fail
  refine (cp _).mono ?_
  rintro e w1 ⟨a1, c1, rfl, hO1, hB1⟩
  have HB2 : Aside (∀ o, Below w.heap.size w (w1.alloc o)) := fun o => below_b (below_b (al_bv w _) hB1) (al_bv w1 o)
  have HO2 : Aside (∀ o, (w1.alloc o).ownsRow w.heap.size 216 1 (.slice a1 l.length c1) l.length l) := fun o => own_below1 hO1 (al_bv w1 o)
  have hpb := fun o => blk_keep (blk_keep (heap_alloc_new w (.cells #[.int .u8 44, .int .i64 ((1 : Nat) : Int), .int .i64 (k : Int), .bool false] 142)) hB1) (al_bv w1 o)
  have q0 := fun o => (ptr_block (hpb o)).1 0
  have q1 := fun o => (ptr_block (hpb o)).1 1
  have q2 := fun o => (ptr_block (hpb o)).1 2
  have q3 := fun o => (ptr_block (hpb o)).1 3
  have r0 := fun o => (ptr_block (blk_keep HG.out (HB2.out o))).1 0
  have r1 := fun o => (ptr_block (blk_keep HG.out (HB2.out o))).1 1
  clear hO1 hB1 cp hpb
  go_wp2_with fail
  refine (cP _ _ _ (HB2.out _) (HO2.out _)).mono ?_
  rintro e w4 hE
  obtain ⟨v4, p4, k4, rfl, hF⟩ := StEnd.from (HB2.out _) hE
  have HE : Aside _ := hF
  clear hE hF cP
  go_wp2_with fail
  go_ret3
  exact ⟨_, _, _, rfl, HE⟩
/-- The pair of works, under its two casts. -/
structure Wk (w : World) (y x p : Value) (n : Int) (tx' : ByteArray) : Prop where
  y : RcAt w y x (tx (.tp .tq .tq)) (tx (.tp .ti .tb)) 2
  x : RcAt w x p (tx (.tp .ti .tt)) (tx (.tp .tq .tq)) 1
  p : PrAt w p (nm n) (.iface 154 (.string tx'))
theorem Wk.below {w w' : World} {y x p : Value} {n : Int} {s : ByteArray} (h : Wk w y x p n s) (hB : Below w.heap.size w w') : Wk w' y x p n s := ⟨h.y.below hB, h.x.below hB, h.p.below hB⟩
theorem Wk.ch {w : World} {y x p : Value} {n : Int} {s : ByteArray} (h : Wk w y x p n s) : Ch w [y, x] y p := .cons h.y (.cons h.x (.nil p))
theorem Wk.hd {w : World} {y x p : Value} {n : Int} {s : ByteArray} (h : Wk w y x p n s) : ∀ z ∈ [y, x], Hd w 44 z := by
  intro z hz
  simp only [List.mem_cons, List.mem_nil_iff, or_false] at hz
  rcases hz with rfl | rfl
  · exact hd_of h.y (by decide) (by decide)
  · exact hd_of h.x (by decide) (by decide)
set_option maxHeartbeats 1600000 in
theorem First_wk (y x p : Value) (n : Int) (s : ByteArray) (w : World) (h : Wk w y x p n s) (hP : HasG w 4 44 0 0 false) :
    Calls Tryz.prog 32 #[y] w fun e w' => e = .returned (.tuple #[nm n, .int .i64 0, .int .i64 0]) ∧ Below w.heap.size w w' := by
  have hh : Calls Tryz.prog 73 #[y, psg 44 0 0 false] w fun e w' => e = .returned (.tuple #[nm n, .int .i64 0, .int .i64 0]) ∧ Below w.heap.size w w' := by
    refine (half_first [y, x] y p (nm n) _ 139 (.int .i64 n) 0 w h.ch h.p rfl (by simp) h.hd (fun j v W => if j = 1 then TgAt W v (nm n) 105 else v = nm n) (fun _ _ _ => False) (fun _ _ => rfl) (fun j v W o hj => by
      by_cases e : j = 1
      · simp only [e, if_true] at hj ⊢; exact hj.below (al_bv _ _)
      · simp only [e, if_false] at hj ⊢; exact hj) (fun j v W hj => by
      by_cases e : j = 1
      · simp only [e, if_true] at hj; obtain ⟨g, rfl, -⟩ := hj; exact ⟨_, _, rfl⟩
      · simp only [e, if_false] at hj; exact ⟨_, _, hj⟩) ?_).mono ?_
    · intro j v W z hj hz hI hW
      have hj2 : j = 0 ∨ j = 1 := by simp at hj; omega
      rcases hj2 with rfl | rfl
      · obtain rfl : x = z := by simpa using hz
        simp only [show ¬ (0 = 1) by decide, if_false] at hI
        subst hI
        obtain ⟨g, rfl, hg⟩ := h.x
        refine ⟨g, rfl, rc_pass g p (.tp .ti .tt) (.tp .tq .tq) (by decide) (by decide) 1 (by decide) W (blk_keep hg hW) _ _ 44 0 0 false .ti .tq (by decide) rfl rfl _ ?_⟩
        intro W2 hW2
        rw [if_neg (by decide)]
        refine (castBy_tag 139 (.int .i64 n) 105 (.inl rfl) 1 W2).mono ?_
        rintro e w' ⟨t, rfl, hT, hB⟩
        exact ⟨_, _, _, rfl, _, _, _, rfl, hW2.trans (hB.mono hW2.size), .inl ⟨rfl, rfl, hT⟩⟩
      · obtain rfl : y = z := by simpa using hz
        simp only [if_true] at hI
        obtain ⟨gt, rfl, hgt⟩ := hI
        obtain ⟨g, rfl, hg⟩ := h.y
        refine ⟨g, rfl, rc_pass g x (.tp .tq .tq) (.tp .ti .tb) (by decide) (by decide) 2 (by decide) W (blk_keep hg hW) _ _ 44 0 0 false .tq .ti (by decide) rfl rfl _ ?_⟩
        intro W2 hW2
        rw [if_neg (by decide)]
        refine (castBy_untag _ (nm n) 105 (.inl rfl) 2 W2 ⟨gt, rfl, blk_keep hgt hW2⟩).mono ?_
        rintro e w' ⟨rfl, hB⟩
        exact ⟨_, _, _, rfl, _, _, _, rfl, hW2.trans (hB.mono hW2.size), .inl ⟨rfl, rfl, rfl⟩⟩
    · rintro e w' ⟨v, p, k, rfl, hB, ⟨rfl, rfl, h⟩ | ⟨-, -, h⟩⟩
      · have h : v = nm n := h
        subst h
        exact ⟨rfl, hB⟩
      · exact h.elim
  obtain ⟨⟨c0, c1, c2, c3⟩, -⟩ := hP
  obtain ⟨g, rfl, -⟩ := h.y
  clear h
  unfold psg nm at *
  go_enter Tryz.func32, Tryz.ntmps32
  go_wp2_with (go_at_call 73; refine hh.mono ?_; rintro e w1 ⟨rfl, hB1⟩)
  go_ret3
  exact ⟨rfl, hB1⟩
set_option maxHeartbeats 1600000 in
theorem Second_wk (y x p : Value) (n : Int) (s : ByteArray) (w : World) (h : Wk w y x p n s) (hP : HasG w 6 44 1 1 false) :
    Calls Tryz.prog 46 #[y] w fun e w' => e = .returned (.tuple #[.nilIface, .int .i64 2, .int .i64 33]) ∧ Below w.heap.size w w' := by
  have hh : Calls Tryz.prog 73 #[y, psg 44 1 1 false] w fun e w' => e = .returned (.tuple #[.nilIface, .int .i64 2, .int .i64 33]) ∧ Below w.heap.size w w' := by
    refine (half_second [y, x] y p _ (.iface 154 (.string s)) 154 (.string s) 1 w h.ch h.p rfl (by simp) h.hd (fun j v W => if j = 0 then v = .iface 154 (.string s) else if j = 1 then TgAt W v (.iface 154 (.string s)) 116 else False) (fun p k _ => p = 2 ∧ k = 33) (fun _ _ => rfl) (fun j v W o hj => by
      by_cases e0 : j = 0
      · simp only [e0, if_true] at hj ⊢; exact hj
      · by_cases e : j = 1
        · simp only [e, if_true, if_false, show ¬ (1 = 0) by decide] at hj ⊢; exact hj.below (al_bv _ _)
        · simp only [e0, e, if_false] at hj) (fun j v W hj => by
      by_cases e0 : j = 0
      · simp only [e0, if_true] at hj; exact ⟨_, _, hj⟩
      · by_cases e : j = 1
        · simp only [e, if_true, if_false, show ¬ (1 = 0) by decide] at hj; obtain ⟨g, rfl, -⟩ := hj; exact ⟨_, _, rfl⟩
        · simp only [e0, e, if_false] at hj) ?_).mono ?_
    · intro j v W z hj hz hI hW
      have hj2 : j = 0 ∨ j = 1 := by simp at hj; omega
      rcases hj2 with rfl | rfl
      · obtain rfl : x = z := by simpa using hz
        simp only [if_true] at hI
        subst hI
        obtain ⟨g, rfl, hg⟩ := h.x
        refine ⟨g, rfl, rc_pass g p (.tp .ti .tt) (.tp .tq .tq) (by decide) (by decide) 1 (by decide) W (blk_keep hg hW) _ _ 44 1 1 false .tt .tq (by decide) rfl rfl _ ?_⟩
        intro W2 hW2
        rw [if_neg (by decide)]
        refine (castBy_tag 154 (.string s) 116 (.inr (.inr rfl)) 1 W2).mono ?_
        rintro e w' ⟨t, rfl, hT, hB⟩
        exact ⟨_, _, _, rfl, _, _, _, rfl, hW2.trans (hB.mono hW2.size), .inl ⟨rfl, rfl, hT⟩⟩
      · obtain rfl : y = z := by simpa using hz
        simp only [if_true, if_false, show ¬ (1 = 0) by decide] at hI
        obtain ⟨gt, rfl, hgt⟩ := hI
        obtain ⟨g, rfl, hg⟩ := h.y
        refine ⟨g, rfl, rc_pass g x (.tp .tq .tq) (.tp .ti .tb) (by decide) (by decide) 2 (by decide) W (blk_keep hg hW) _ _ 44 1 1 false .tq .tb (by decide) rfl rfl _ ?_⟩
        intro W2 hW2
        rw [if_neg (by decide)]
        refine (castBy_blame _ (.iface 154 (.string s)) 116 98 (.inr (.inl rfl)) (by decide) 2 W2 ⟨gt, rfl, blk_keep hgt hW2⟩).mono ?_
        rintro e w' ⟨rfl, rfl⟩
        exact ⟨_, _, _, rfl, _, _, _, rfl, hW2, .inr ⟨by decide, rfl, rfl, rfl⟩⟩
    · rintro e w' ⟨v, p, k, rfl, hB, ⟨rfl, rfl, h⟩ | ⟨-, rfl, rfl, rfl⟩⟩
      · exact h.elim
      · exact ⟨rfl, hB⟩
  obtain ⟨⟨c0, c1, c2, c3⟩, -⟩ := hP
  obtain ⟨g, rfl, -⟩ := h.y
  clear h
  unfold psg at *
  go_enter Tryz.func46, Tryz.ntmps46
  go_wp2_with (go_at_call 73; refine hh.mono ?_; rintro e w1 ⟨rfl, hB1⟩)
  go_ret3
  exact ⟨rfl, hB1⟩
end Go.Proofs.YtkmoeflodafoeaaGreatDoor.Vl
