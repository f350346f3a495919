/- What stands behind an operator's mark. What stands behind a mark of one side. What the program's parser reads as a term, as a factor. -/
import Derived.Test.YtohjfikjbeafiaaGreatDoorGaj
import Derived.Deep.RegionWith
import Derived.Deep.RegionHeld
namespace Go.Proofs.YtohjfikjbeafiaaGreatDoor
open Go.RowKit Ps
set_option maxRecDepth 100000
set_option linter.unusedSimpArgs false



set_option maxHeartbeats 2000000 in
theorem binary_expr {w : World} {pb : Nat} {L : List PT} {e : PT} {k : Nat} {lm : Lim} {fm am : Value} {nd : Nat} {right : Nat → Re Tr.T} (hx : PX L right) (hR : RuleC 149 pb L e fm am right (k + 1)) (hk : k < L.length) (hnd : nd + (L.length - k) ≤ 200000) (hM : Mp w pb fm am) (h : Prs w pb L e k lm fm am nd) (kind : Int) (bl : Nat) (a : Tr.T) (hb : Br w pb bl a) :
    Calls Tryz.prog 180 #[.pointer (some ⟨pb, 0, none⟩), .int .i8 kind, .pointer (some ⟨bl, 0, none⟩), rule 149] w (ExEnd w pb L e lm fm am nd (sz a) (binR L e kind a right k)) := by
  have htk := ptake_any h hk
  have hfl := fldAt (.int .i8 (tok L e k).kind) (.int .i64 (tok L e k).n) (.string (S (tok L e k).s)) (.int .i64 (tok L e k).ln) (.int .i64 (tok L e k).co)
  have hlt := h.lt
  unfold binR
  cases hr : right (k + 1) with
  | error j =>
    show Calls _ _ _ _ (ExEnd w pb L e lm fm am nd (sz a) (.error j))
    go_enter Tryz.func180, Tryz.ntmps180
    go_wp2_with fail
    refine htk.mono ?_
    rintro e1 w1 ⟨rfl, P1, g1⟩
    unfold tagg
    have hBa : Below w1.heap.size w1 ((w1.alloc (.cells #[.int .i64 (tok L e k).ln, .int .i64 (tok L e k).co] 28)).drew) := ((Below.refl _ _).alloc (Nat.le_refl _) _).trans ⟨rfl, rfl, rfl, Nat.le_refl _, fun _ _ => rfl⟩
    have P2 := P1.kept hBa
    have G2 : w.grownBy ((w1.alloc (.cells #[.int .i64 (tok L e k).ln, .int .i64 (tok L e k).co] 28)).drew) (some pb) := grownBy_below g1 hBa
    have hRr := hR _ lm nd (by omega) (hM.grown G2) P2
    rw [hr] at hRr
    go_upto_region 2 with fail
    go_region_with (go_at_call 149; refine hRr.mono ?_; rintro e2 w2 ⟨rfl, g2⟩; refine (fun (_ : wpAny Tryz.prog .any #[] (fun _ _ _ => True) 0 #[] ⟨#[], []⟩ w2) => ⟨rfl, ExEnd.bad rfl (grownBy_trans G2 g2)⟩) ?_)
    all_goals trivial
  | ok q =>
    obtain ⟨b, j, l⟩ := q
    have hxo := hx.ok hk hr
    show Calls _ _ _ _ (ExEnd w pb L e lm fm am nd (sz a) (.ok (two kind (tok L e k) a b, j, l ++ [])))
    go_enter Tryz.func180, Tryz.ntmps180
    go_wp2_with fail
    refine htk.mono ?_
    rintro e1 w1 ⟨rfl, P1, g1⟩
    unfold tagg
    have hlt1 := P1.lt
    have hBa : Below w1.heap.size w1 ((w1.alloc (.cells #[.int .i64 (tok L e k).ln, .int .i64 (tok L e k).co] 28)).drew) := ((Below.refl _ _).alloc (Nat.le_refl _) _).trans ⟨rfl, rfl, rfl, Nat.le_refl _, fun _ _ => rfl⟩
    have P2 := P1.kept hBa
    have G2 : w.grownBy ((w1.alloc (.cells #[.int .i64 (tok L e k).ln, .int .i64 (tok L e k).co] 28)).drew) (some pb) := grownBy_below g1 hBa
    have hRr := hR _ lm nd (by omega) (hM.grown G2) P2
    rw [hr] at hRr
    have kp : ((w1.alloc (.cells #[.int .i64 (tok L e k).ln, .int .i64 (tok L e k).co] 28)).drew).heap[w1.heap.size]? = some (.cells #[.int .i64 (tok L e k).ln, .int .i64 (tok L e k).co] 28 (0, 0)) := heap_alloc_new _ _
    have hb2 := hb.grown G2
    have HPL : Aside (∀ w2, ((w1.alloc (.cells #[.int .i64 (tok L e k).ln, .int .i64 (tok L e k).co] 28)).drew).grownBy w2 (some pb) → w2.heap[w1.heap.size]? = some (.cells #[.int .i64 (tok L e k).ln, .int .i64 (tok L e k).co] 28 (0, 0))) := fun w2 g2 => (g2.block w1.heap.size (by show w1.heap.size < (w1.alloc _).heap.size; simp) (by simp; omega)).trans kp
    have HPM : Aside (∀ w2 w3 bb, ((w1.alloc (.cells #[.int .i64 (tok L e k).ln, .int .i64 (tok L e k).co] 28)).drew).grownBy w2 (some pb) → (w2.alloc (.cells #[.pointer (some ⟨bl, 0, none⟩), .pointer (some ⟨bb, 0, none⟩)] 215)).grownBy w3 (some pb) → w3.heap[w1.heap.size]? = some (.cells #[.int .i64 (tok L e k).ln, .int .i64 (tok L e k).co] 28 (0, 0))) := fun w2 w3 bb g2 g3 => by
      have hl2 : w1.heap.size < w2.heap.size := (Array.getElem?_eq_some_iff.1 (HPL.out w2 g2)).1
      exact (g3.block w1.heap.size (by simp; omega) (by simp; omega)).trans ((Below.heap_alloc _ _ _ hl2).trans (HPL.out w2 g2))
    have HD0 : Aside (∀ w2 w3 bb, ((w1.alloc (.cells #[.int .i64 (tok L e k).ln, .int .i64 (tok L e k).co] 28)).drew).grownBy w2 (some pb) → (w2.alloc (.cells #[.pointer (some ⟨bl, 0, none⟩), .pointer (some ⟨bb, 0, none⟩)] 215)).grownBy w3 (some pb) → w3.cell? ⟨w1.heap.size, 0, none⟩ = some (.int .i64 (tok L e k).ln)) := fun w2 w3 bb g2 g3 => (block_cells (HPM.out w2 w3 bb g2 g3)).1 0
    have HD1 : Aside (∀ w2 w3 bb, ((w1.alloc (.cells #[.int .i64 (tok L e k).ln, .int .i64 (tok L e k).co] 28)).drew).grownBy w2 (some pb) → (w2.alloc (.cells #[.pointer (some ⟨bl, 0, none⟩), .pointer (some ⟨bb, 0, none⟩)] 215)).grownBy w3 (some pb) → w3.cell? ⟨w1.heap.size, 1, none⟩ = some (.int .i64 (tok L e k).co)) := fun w2 w3 bb g2 g3 => (block_cells (HPM.out w2 w3 bb g2 g3)).1 1
    have HGR : Aside (∀ (w2 : World) (bb nd' : Nat), Prs w2 pb L e j (eff L e lm l) fm am nd' → nd' + 0 = nd + sz b → Calls Tryz.prog 176 #[.pointer (some ⟨pb, 0, none⟩), .int .i8 kind, .agg #[.int .i64 (tok L e k).ln, .int .i64 (tok L e k).co], .slice (some ⟨w2.heap.size, 0, none⟩) 2 2] (w2.alloc (.cells #[.pointer (some ⟨bl, 0, none⟩), .pointer (some ⟨bb, 0, none⟩)] 215)) _) := fun w2 bb nd' P n => pgrow_any (P.kept ((Below.refl _ _).alloc (Nat.le_refl _) _)) (by omega) kind (tok L e k).ln (tok L e k).co (some ⟨w2.heap.size, 0, none⟩) 2 2
    clear htk h hM hb kp hR
    go_upto_region 2 with fail
    go_region_held (fun w' => w'.cell? ⟨w1.heap.size, 0, none⟩ = some (.int .i64 (tok L e k).ln) ∧ w'.cell? ⟨w1.heap.size, 1, none⟩ = some (.int .i64 (tok L e k).co)) (first | exact ⟨d0, d1⟩ | exact ⟨c0, c1⟩ | go_keep) (first | (go_at_call 149; refine hRr.mono ?_; rintro e2 w2 ⟨bb, nd', rfl, hBb, P3, hn3, g2⟩; have kp2 := HPL.out w2 g2; have c0 : w2.cell? ⟨w1.heap.size, 0, none⟩ = some (.int .i64 (tok L e k).ln) := (block_cells kp2).1 0; have c1 : w2.cell? ⟨w1.heap.size, 1, none⟩ = some (.int .i64 (tok L e k).co) := (block_cells kp2).1 1; have hgr := HGR.out w2 bb nd' P3 hn3; clear kp2 HGR HPL) | (go_at_call 176; refine hgr.mono ?_; rintro e3 w3 ⟨rfl, k3, P4, g3, hz3⟩; have d0 : w3.cell? ⟨w1.heap.size, 0, none⟩ = some (.int .i64 (tok L e k).ln) := HD0.out w2 w3 bb g2 g3; have d1 : w3.cell? ⟨w1.heap.size, 1, none⟩ = some (.int .i64 (tok L e k).co) := HD1.out w2 w3 bb g2 g3))
    all_goals
      go_wp2_with fail
      go_ret
      refine ExEnd.ok _ _ rfl ?_ (by rw [List.append_nil]; exact P4) ?_ (grownBy_trans G2 (grownBy_trans g2 (grownBy_trans (grownBy_alloc (grownBy_refl w2 _) _) g3)))
      · have hs : (w2.alloc (.cells #[.pointer (some ⟨bl, 0, none⟩), .pointer (some ⟨bb, 0, none⟩)] 215)).heap.size = w2.heap.size + 1 := by simp
        have hbl := (hb2.grown g2).lt
        have hbb := hBb.lt
        have hp2 := P3.lt
        rw [hs] at k3
        refine br_up [bl, bb] [a, b] w2.heap.size (by omega) k3 ((g3.block w2.heap.size (by simp) (by simp; omega)).trans (heap_alloc_new _ _)) (by omega) (by omega) rfl ?_ ?_
        · intro i c t h1 h2
          have hBt : Below w2.heap.size w2 (w2.alloc (.cells #[.pointer (some ⟨bl, 0, none⟩), .pointer (some ⟨bb, 0, none⟩)] 215)) := (Below.refl _ _).alloc (Nat.le_refl _) _
          match i, h1, h2 with
          | 0, h1, h2 => cases h1; cases h2; exact ((hb2.grown g2).stay hBt).grown g3
          | 1, h1, h2 => cases h1; cases h2; exact (hBb.stay hBt).grown g3
        · intro i c h1
          match i, h1 with
          | 0, h1 => cases h1; omega
          | 1, h1 => cases h1; omega
      · simp [sz, two, Tr.flat, Tr.flats] at *; omega

set_option maxHeartbeats 2000000 in
theorem binary_sum {w : World} {pb : Nat} {L : List PT} {e : PT} {k : Nat} {lm : Lim} {fm am : Value} {nd : Nat} {right : Nat → Re Tr.T} (hx : PX L right) (hR : RuleC 198 pb L e fm am right (k + 1)) (hk : k < L.length) (hnd : nd + (L.length - k) ≤ 200000) (hM : Mp w pb fm am) (h : Prs w pb L e k lm fm am nd) (kind : Int) (bl : Nat) (a : Tr.T) (hb : Br w pb bl a) :
    Calls Tryz.prog 180 #[.pointer (some ⟨pb, 0, none⟩), .int .i8 kind, .pointer (some ⟨bl, 0, none⟩), rule 198] w (ExEnd w pb L e lm fm am nd (sz a) (binR L e kind a right k)) := by
  have htk := ptake_any h hk
  have hfl := fldAt (.int .i8 (tok L e k).kind) (.int .i64 (tok L e k).n) (.string (S (tok L e k).s)) (.int .i64 (tok L e k).ln) (.int .i64 (tok L e k).co)
  have hlt := h.lt
  unfold binR
  cases hr : right (k + 1) with
  | error j =>
    show Calls _ _ _ _ (ExEnd w pb L e lm fm am nd (sz a) (.error j))
    go_enter Tryz.func180, Tryz.ntmps180
    go_wp2_with fail
    refine htk.mono ?_
    rintro e1 w1 ⟨rfl, P1, g1⟩
    unfold tagg
    have hBa : Below w1.heap.size w1 ((w1.alloc (.cells #[.int .i64 (tok L e k).ln, .int .i64 (tok L e k).co] 28)).drew) := ((Below.refl _ _).alloc (Nat.le_refl _) _).trans ⟨rfl, rfl, rfl, Nat.le_refl _, fun _ _ => rfl⟩
    have P2 := P1.kept hBa
    have G2 : w.grownBy ((w1.alloc (.cells #[.int .i64 (tok L e k).ln, .int .i64 (tok L e k).co] 28)).drew) (some pb) := grownBy_below g1 hBa
    have hRr := hR _ lm nd (by omega) (hM.grown G2) P2
    rw [hr] at hRr
    go_upto_region 2 with fail
    go_region_with (go_at_call 198; refine hRr.mono ?_; rintro e2 w2 ⟨rfl, g2⟩; refine (fun (_ : wpAny Tryz.prog .any #[] (fun _ _ _ => True) 0 #[] ⟨#[], []⟩ w2) => ⟨rfl, ExEnd.bad rfl (grownBy_trans G2 g2)⟩) ?_)
    all_goals trivial
  | ok q =>
    obtain ⟨b, j, l⟩ := q
    have hxo := hx.ok hk hr
    show Calls _ _ _ _ (ExEnd w pb L e lm fm am nd (sz a) (.ok (two kind (tok L e k) a b, j, l ++ [])))
    go_enter Tryz.func180, Tryz.ntmps180
    go_wp2_with fail
    refine htk.mono ?_
    rintro e1 w1 ⟨rfl, P1, g1⟩
    unfold tagg
    have hlt1 := P1.lt
    have hBa : Below w1.heap.size w1 ((w1.alloc (.cells #[.int .i64 (tok L e k).ln, .int .i64 (tok L e k).co] 28)).drew) := ((Below.refl _ _).alloc (Nat.le_refl _) _).trans ⟨rfl, rfl, rfl, Nat.le_refl _, fun _ _ => rfl⟩
    have P2 := P1.kept hBa
    have G2 : w.grownBy ((w1.alloc (.cells #[.int .i64 (tok L e k).ln, .int .i64 (tok L e k).co] 28)).drew) (some pb) := grownBy_below g1 hBa
    have hRr := hR _ lm nd (by omega) (hM.grown G2) P2
    rw [hr] at hRr
    have kp : ((w1.alloc (.cells #[.int .i64 (tok L e k).ln, .int .i64 (tok L e k).co] 28)).drew).heap[w1.heap.size]? = some (.cells #[.int .i64 (tok L e k).ln, .int .i64 (tok L e k).co] 28 (0, 0)) := heap_alloc_new _ _
    have hb2 := hb.grown G2
    have HPL : Aside (∀ w2, ((w1.alloc (.cells #[.int .i64 (tok L e k).ln, .int .i64 (tok L e k).co] 28)).drew).grownBy w2 (some pb) → w2.heap[w1.heap.size]? = some (.cells #[.int .i64 (tok L e k).ln, .int .i64 (tok L e k).co] 28 (0, 0))) := fun w2 g2 => (g2.block w1.heap.size (by show w1.heap.size < (w1.alloc _).heap.size; simp) (by simp; omega)).trans kp
    have HPM : Aside (∀ w2 w3 bb, ((w1.alloc (.cells #[.int .i64 (tok L e k).ln, .int .i64 (tok L e k).co] 28)).drew).grownBy w2 (some pb) → (w2.alloc (.cells #[.pointer (some ⟨bl, 0, none⟩), .pointer (some ⟨bb, 0, none⟩)] 215)).grownBy w3 (some pb) → w3.heap[w1.heap.size]? = some (.cells #[.int .i64 (tok L e k).ln, .int .i64 (tok L e k).co] 28 (0, 0))) := fun w2 w3 bb g2 g3 => by
      have hl2 : w1.heap.size < w2.heap.size := (Array.getElem?_eq_some_iff.1 (HPL.out w2 g2)).1
      exact (g3.block w1.heap.size (by simp; omega) (by simp; omega)).trans ((Below.heap_alloc _ _ _ hl2).trans (HPL.out w2 g2))
    have HD0 : Aside (∀ w2 w3 bb, ((w1.alloc (.cells #[.int .i64 (tok L e k).ln, .int .i64 (tok L e k).co] 28)).drew).grownBy w2 (some pb) → (w2.alloc (.cells #[.pointer (some ⟨bl, 0, none⟩), .pointer (some ⟨bb, 0, none⟩)] 215)).grownBy w3 (some pb) → w3.cell? ⟨w1.heap.size, 0, none⟩ = some (.int .i64 (tok L e k).ln)) := fun w2 w3 bb g2 g3 => (block_cells (HPM.out w2 w3 bb g2 g3)).1 0
    have HD1 : Aside (∀ w2 w3 bb, ((w1.alloc (.cells #[.int .i64 (tok L e k).ln, .int .i64 (tok L e k).co] 28)).drew).grownBy w2 (some pb) → (w2.alloc (.cells #[.pointer (some ⟨bl, 0, none⟩), .pointer (some ⟨bb, 0, none⟩)] 215)).grownBy w3 (some pb) → w3.cell? ⟨w1.heap.size, 1, none⟩ = some (.int .i64 (tok L e k).co)) := fun w2 w3 bb g2 g3 => (block_cells (HPM.out w2 w3 bb g2 g3)).1 1
    have HGR : Aside (∀ (w2 : World) (bb nd' : Nat), Prs w2 pb L e j (eff L e lm l) fm am nd' → nd' + 0 = nd + sz b → Calls Tryz.prog 176 #[.pointer (some ⟨pb, 0, none⟩), .int .i8 kind, .agg #[.int .i64 (tok L e k).ln, .int .i64 (tok L e k).co], .slice (some ⟨w2.heap.size, 0, none⟩) 2 2] (w2.alloc (.cells #[.pointer (some ⟨bl, 0, none⟩), .pointer (some ⟨bb, 0, none⟩)] 215)) _) := fun w2 bb nd' P n => pgrow_any (P.kept ((Below.refl _ _).alloc (Nat.le_refl _) _)) (by omega) kind (tok L e k).ln (tok L e k).co (some ⟨w2.heap.size, 0, none⟩) 2 2
    clear htk h hM hb kp hR
    go_upto_region 2 with fail
    go_region_held (fun w' => w'.cell? ⟨w1.heap.size, 0, none⟩ = some (.int .i64 (tok L e k).ln) ∧ w'.cell? ⟨w1.heap.size, 1, none⟩ = some (.int .i64 (tok L e k).co)) (first | exact ⟨d0, d1⟩ | exact ⟨c0, c1⟩ | go_keep) (first | (go_at_call 198; refine hRr.mono ?_; rintro e2 w2 ⟨bb, nd', rfl, hBb, P3, hn3, g2⟩; have kp2 := HPL.out w2 g2; have c0 : w2.cell? ⟨w1.heap.size, 0, none⟩ = some (.int .i64 (tok L e k).ln) := (block_cells kp2).1 0; have c1 : w2.cell? ⟨w1.heap.size, 1, none⟩ = some (.int .i64 (tok L e k).co) := (block_cells kp2).1 1; have hgr := HGR.out w2 bb nd' P3 hn3; clear kp2 HGR HPL) | (go_at_call 176; refine hgr.mono ?_; rintro e3 w3 ⟨rfl, k3, P4, g3, hz3⟩; have d0 : w3.cell? ⟨w1.heap.size, 0, none⟩ = some (.int .i64 (tok L e k).ln) := HD0.out w2 w3 bb g2 g3; have d1 : w3.cell? ⟨w1.heap.size, 1, none⟩ = some (.int .i64 (tok L e k).co) := HD1.out w2 w3 bb g2 g3))
    all_goals
      go_wp2_with fail
      go_ret
      refine ExEnd.ok _ _ rfl ?_ (by rw [List.append_nil]; exact P4) ?_ (grownBy_trans G2 (grownBy_trans g2 (grownBy_trans (grownBy_alloc (grownBy_refl w2 _) _) g3)))
      · have hs : (w2.alloc (.cells #[.pointer (some ⟨bl, 0, none⟩), .pointer (some ⟨bb, 0, none⟩)] 215)).heap.size = w2.heap.size + 1 := by simp
        have hbl := (hb2.grown g2).lt
        have hbb := hBb.lt
        have hp2 := P3.lt
        rw [hs] at k3
        refine br_up [bl, bb] [a, b] w2.heap.size (by omega) k3 ((g3.block w2.heap.size (by simp) (by simp; omega)).trans (heap_alloc_new _ _)) (by omega) (by omega) rfl ?_ ?_
        · intro i c t h1 h2
          have hBt : Below w2.heap.size w2 (w2.alloc (.cells #[.pointer (some ⟨bl, 0, none⟩), .pointer (some ⟨bb, 0, none⟩)] 215)) := (Below.refl _ _).alloc (Nat.le_refl _) _
          match i, h1, h2 with
          | 0, h1, h2 => cases h1; cases h2; exact ((hb2.grown g2).stay hBt).grown g3
          | 1, h1, h2 => cases h1; cases h2; exact (hBb.stay hBt).grown g3
        · intro i c h1
          match i, h1 with
          | 0, h1 => cases h1; omega
          | 1, h1 => cases h1; omega
      · simp [sz, two, Tr.flat, Tr.flats] at *; omega

set_option maxHeartbeats 2000000 in
theorem binary_term {w : World} {pb : Nat} {L : List PT} {e : PT} {k : Nat} {lm : Lim} {fm am : Value} {nd : Nat} {right : Nat → Re Tr.T} (hx : PX L right) (hR : RuleC 214 pb L e fm am right (k + 1)) (hk : k < L.length) (hnd : nd + (L.length - k) ≤ 200000) (hM : Mp w pb fm am) (h : Prs w pb L e k lm fm am nd) (kind : Int) (bl : Nat) (a : Tr.T) (hb : Br w pb bl a) :
    Calls Tryz.prog 180 #[.pointer (some ⟨pb, 0, none⟩), .int .i8 kind, .pointer (some ⟨bl, 0, none⟩), rule 214] w (ExEnd w pb L e lm fm am nd (sz a) (binR L e kind a right k)) := by
  have htk := ptake_any h hk
  have hfl := fldAt (.int .i8 (tok L e k).kind) (.int .i64 (tok L e k).n) (.string (S (tok L e k).s)) (.int .i64 (tok L e k).ln) (.int .i64 (tok L e k).co)
  have hlt := h.lt
  unfold binR
  cases hr : right (k + 1) with
  | error j =>
    show Calls _ _ _ _ (ExEnd w pb L e lm fm am nd (sz a) (.error j))
    go_enter Tryz.func180, Tryz.ntmps180
    go_wp2_with fail
    refine htk.mono ?_
    rintro e1 w1 ⟨rfl, P1, g1⟩
    unfold tagg
    have hBa : Below w1.heap.size w1 ((w1.alloc (.cells #[.int .i64 (tok L e k).ln, .int .i64 (tok L e k).co] 28)).drew) := ((Below.refl _ _).alloc (Nat.le_refl _) _).trans ⟨rfl, rfl, rfl, Nat.le_refl _, fun _ _ => rfl⟩
    have P2 := P1.kept hBa
    have G2 : w.grownBy ((w1.alloc (.cells #[.int .i64 (tok L e k).ln, .int .i64 (tok L e k).co] 28)).drew) (some pb) := grownBy_below g1 hBa
    have hRr := hR _ lm nd (by omega) (hM.grown G2) P2
    rw [hr] at hRr
    go_upto_region 2 with fail
    go_region_with (go_at_call 214; refine hRr.mono ?_; rintro e2 w2 ⟨rfl, g2⟩; refine (fun (_ : wpAny Tryz.prog .any #[] (fun _ _ _ => True) 0 #[] ⟨#[], []⟩ w2) => ⟨rfl, ExEnd.bad rfl (grownBy_trans G2 g2)⟩) ?_)
    all_goals trivial
  | ok q =>
    obtain ⟨b, j, l⟩ := q
    have hxo := hx.ok hk hr
    show Calls _ _ _ _ (ExEnd w pb L e lm fm am nd (sz a) (.ok (two kind (tok L e k) a b, j, l ++ [])))
    go_enter Tryz.func180, Tryz.ntmps180
    go_wp2_with fail
    refine htk.mono ?_
    rintro e1 w1 ⟨rfl, P1, g1⟩
    unfold tagg
    have hlt1 := P1.lt
    have hBa : Below w1.heap.size w1 ((w1.alloc (.cells #[.int .i64 (tok L e k).ln, .int .i64 (tok L e k).co] 28)).drew) := ((Below.refl _ _).alloc (Nat.le_refl _) _).trans ⟨rfl, rfl, rfl, Nat.le_refl _, fun _ _ => rfl⟩
    have P2 := P1.kept hBa
    have G2 : w.grownBy ((w1.alloc (.cells #[.int .i64 (tok L e k).ln, .int .i64 (tok L e k).co] 28)).drew) (some pb) := grownBy_below g1 hBa
    have hRr := hR _ lm nd (by omega) (hM.grown G2) P2
    rw [hr] at hRr
    have kp : ((w1.alloc (.cells #[.int .i64 (tok L e k).ln, .int .i64 (tok L e k).co] 28)).drew).heap[w1.heap.size]? = some (.cells #[.int .i64 (tok L e k).ln, .int .i64 (tok L e k).co] 28 (0, 0)) := heap_alloc_new _ _
    have hb2 := hb.grown G2
    have HPL : Aside (∀ w2, ((w1.alloc (.cells #[.int .i64 (tok L e k).ln, .int .i64 (tok L e k).co] 28)).drew).grownBy w2 (some pb) → w2.heap[w1.heap.size]? = some (.cells #[.int .i64 (tok L e k).ln, .int .i64 (tok L e k).co] 28 (0, 0))) := fun w2 g2 => (g2.block w1.heap.size (by show w1.heap.size < (w1.alloc _).heap.size; simp) (by simp; omega)).trans kp
    have HPM : Aside (∀ w2 w3 bb, ((w1.alloc (.cells #[.int .i64 (tok L e k).ln, .int .i64 (tok L e k).co] 28)).drew).grownBy w2 (some pb) → (w2.alloc (.cells #[.pointer (some ⟨bl, 0, none⟩), .pointer (some ⟨bb, 0, none⟩)] 215)).grownBy w3 (some pb) → w3.heap[w1.heap.size]? = some (.cells #[.int .i64 (tok L e k).ln, .int .i64 (tok L e k).co] 28 (0, 0))) := fun w2 w3 bb g2 g3 => by
      have hl2 : w1.heap.size < w2.heap.size := (Array.getElem?_eq_some_iff.1 (HPL.out w2 g2)).1
      exact (g3.block w1.heap.size (by simp; omega) (by simp; omega)).trans ((Below.heap_alloc _ _ _ hl2).trans (HPL.out w2 g2))
    have HD0 : Aside (∀ w2 w3 bb, ((w1.alloc (.cells #[.int .i64 (tok L e k).ln, .int .i64 (tok L e k).co] 28)).drew).grownBy w2 (some pb) → (w2.alloc (.cells #[.pointer (some ⟨bl, 0, none⟩), .pointer (some ⟨bb, 0, none⟩)] 215)).grownBy w3 (some pb) → w3.cell? ⟨w1.heap.size, 0, none⟩ = some (.int .i64 (tok L e k).ln)) := fun w2 w3 bb g2 g3 => (block_cells (HPM.out w2 w3 bb g2 g3)).1 0
    have HD1 : Aside (∀ w2 w3 bb, ((w1.alloc (.cells #[.int .i64 (tok L e k).ln, .int .i64 (tok L e k).co] 28)).drew).grownBy w2 (some pb) → (w2.alloc (.cells #[.pointer (some ⟨bl, 0, none⟩), .pointer (some ⟨bb, 0, none⟩)] 215)).grownBy w3 (some pb) → w3.cell? ⟨w1.heap.size, 1, none⟩ = some (.int .i64 (tok L e k).co)) := fun w2 w3 bb g2 g3 => (block_cells (HPM.out w2 w3 bb g2 g3)).1 1
    have HGR : Aside (∀ (w2 : World) (bb nd' : Nat), Prs w2 pb L e j (eff L e lm l) fm am nd' → nd' + 0 = nd + sz b → Calls Tryz.prog 176 #[.pointer (some ⟨pb, 0, none⟩), .int .i8 kind, .agg #[.int .i64 (tok L e k).ln, .int .i64 (tok L e k).co], .slice (some ⟨w2.heap.size, 0, none⟩) 2 2] (w2.alloc (.cells #[.pointer (some ⟨bl, 0, none⟩), .pointer (some ⟨bb, 0, none⟩)] 215)) _) := fun w2 bb nd' P n => pgrow_any (P.kept ((Below.refl _ _).alloc (Nat.le_refl _) _)) (by omega) kind (tok L e k).ln (tok L e k).co (some ⟨w2.heap.size, 0, none⟩) 2 2
    clear htk h hM hb kp hR
    go_upto_region 2 with fail
    go_region_held (fun w' => w'.cell? ⟨w1.heap.size, 0, none⟩ = some (.int .i64 (tok L e k).ln) ∧ w'.cell? ⟨w1.heap.size, 1, none⟩ = some (.int .i64 (tok L e k).co)) (first | exact ⟨d0, d1⟩ | exact ⟨c0, c1⟩ | go_keep) (first | (go_at_call 214; refine hRr.mono ?_; rintro e2 w2 ⟨bb, nd', rfl, hBb, P3, hn3, g2⟩; have kp2 := HPL.out w2 g2; have c0 : w2.cell? ⟨w1.heap.size, 0, none⟩ = some (.int .i64 (tok L e k).ln) := (block_cells kp2).1 0; have c1 : w2.cell? ⟨w1.heap.size, 1, none⟩ = some (.int .i64 (tok L e k).co) := (block_cells kp2).1 1; have hgr := HGR.out w2 bb nd' P3 hn3; clear kp2 HGR HPL) | (go_at_call 176; refine hgr.mono ?_; rintro e3 w3 ⟨rfl, k3, P4, g3, hz3⟩; have d0 : w3.cell? ⟨w1.heap.size, 0, none⟩ = some (.int .i64 (tok L e k).ln) := HD0.out w2 w3 bb g2 g3; have d1 : w3.cell? ⟨w1.heap.size, 1, none⟩ = some (.int .i64 (tok L e k).co) := HD1.out w2 w3 bb g2 g3))
    all_goals
      go_wp2_with fail
      go_ret
      refine ExEnd.ok _ _ rfl ?_ (by rw [List.append_nil]; exact P4) ?_ (grownBy_trans G2 (grownBy_trans g2 (grownBy_trans (grownBy_alloc (grownBy_refl w2 _) _) g3)))
      · have hs : (w2.alloc (.cells #[.pointer (some ⟨bl, 0, none⟩), .pointer (some ⟨bb, 0, none⟩)] 215)).heap.size = w2.heap.size + 1 := by simp
        have hbl := (hb2.grown g2).lt
        have hbb := hBb.lt
        have hp2 := P3.lt
        rw [hs] at k3
        refine br_up [bl, bb] [a, b] w2.heap.size (by omega) k3 ((g3.block w2.heap.size (by simp) (by simp; omega)).trans (heap_alloc_new _ _)) (by omega) (by omega) rfl ?_ ?_
        · intro i c t h1 h2
          have hBt : Below w2.heap.size w2 (w2.alloc (.cells #[.pointer (some ⟨bl, 0, none⟩), .pointer (some ⟨bb, 0, none⟩)] 215)) := (Below.refl _ _).alloc (Nat.le_refl _) _
          match i, h1, h2 with
          | 0, h1, h2 => cases h1; cases h2; exact ((hb2.grown g2).stay hBt).grown g3
          | 1, h1, h2 => cases h1; cases h2; exact (hBb.stay hBt).grown g3
        · intro i c h1
          match i, h1 with
          | 0, h1 => cases h1; omega
          | 1, h1 => cases h1; omega
      · simp [sz, two, Tr.flat, Tr.flats] at *; omega

set_option maxHeartbeats 2000000 in
theorem binary_factor {w : World} {pb : Nat} {L : List PT} {e : PT} {k : Nat} {lm : Lim} {fm am : Value} {nd : Nat} {right : Nat → Re Tr.T} (hx : PX L right) (hR : RuleC 231 pb L e fm am right (k + 1)) (hk : k < L.length) (hnd : nd + (L.length - k) ≤ 200000) (hM : Mp w pb fm am) (h : Prs w pb L e k lm fm am nd) (kind : Int) (bl : Nat) (a : Tr.T) (hb : Br w pb bl a) :
    Calls Tryz.prog 180 #[.pointer (some ⟨pb, 0, none⟩), .int .i8 kind, .pointer (some ⟨bl, 0, none⟩), rule 231] w (ExEnd w pb L e lm fm am nd (sz a) (binR L e kind a right k)) := by
  have htk := ptake_any h hk
  have hfl := fldAt (.int .i8 (tok L e k).kind) (.int .i64 (tok L e k).n) (.string (S (tok L e k).s)) (.int .i64 (tok L e k).ln) (.int .i64 (tok L e k).co)
  have hlt := h.lt
  unfold binR
  cases hr : right (k + 1) with
  | error j =>
    show Calls _ _ _ _ (ExEnd w pb L e lm fm am nd (sz a) (.error j))
    go_enter Tryz.func180, Tryz.ntmps180
    go_wp2_with fail
    refine htk.mono ?_
    rintro e1 w1 ⟨rfl, P1, g1⟩
    unfold tagg
    have hBa : Below w1.heap.size w1 ((w1.alloc (.cells #[.int .i64 (tok L e k).ln, .int .i64 (tok L e k).co] 28)).drew) := ((Below.refl _ _).alloc (Nat.le_refl _) _).trans ⟨rfl, rfl, rfl, Nat.le_refl _, fun _ _ => rfl⟩
    have P2 := P1.kept hBa
    have G2 : w.grownBy ((w1.alloc (.cells #[.int .i64 (tok L e k).ln, .int .i64 (tok L e k).co] 28)).drew) (some pb) := grownBy_below g1 hBa
    have hRr := hR _ lm nd (by omega) (hM.grown G2) P2
    rw [hr] at hRr
    go_upto_region 2 with fail
    go_region_with (go_at_call 231; refine hRr.mono ?_; rintro e2 w2 ⟨rfl, g2⟩; refine (fun (_ : wpAny Tryz.prog .any #[] (fun _ _ _ => True) 0 #[] ⟨#[], []⟩ w2) => ⟨rfl, ExEnd.bad rfl (grownBy_trans G2 g2)⟩) ?_)
    all_goals trivial
  | ok q =>
    obtain ⟨b, j, l⟩ := q
    have hxo := hx.ok hk hr
    show Calls _ _ _ _ (ExEnd w pb L e lm fm am nd (sz a) (.ok (two kind (tok L e k) a b, j, l ++ [])))
    go_enter Tryz.func180, Tryz.ntmps180
    go_wp2_with fail
    refine htk.mono ?_
    rintro e1 w1 ⟨rfl, P1, g1⟩
    unfold tagg
    have hlt1 := P1.lt
    have hBa : Below w1.heap.size w1 ((w1.alloc (.cells #[.int .i64 (tok L e k).ln, .int .i64 (tok L e k).co] 28)).drew) := ((Below.refl _ _).alloc (Nat.le_refl _) _).trans ⟨rfl, rfl, rfl, Nat.le_refl _, fun _ _ => rfl⟩
    have P2 := P1.kept hBa
    have G2 : w.grownBy ((w1.alloc (.cells #[.int .i64 (tok L e k).ln, .int .i64 (tok L e k).co] 28)).drew) (some pb) := grownBy_below g1 hBa
    have hRr := hR _ lm nd (by omega) (hM.grown G2) P2
    rw [hr] at hRr
    have kp : ((w1.alloc (.cells #[.int .i64 (tok L e k).ln, .int .i64 (tok L e k).co] 28)).drew).heap[w1.heap.size]? = some (.cells #[.int .i64 (tok L e k).ln, .int .i64 (tok L e k).co] 28 (0, 0)) := heap_alloc_new _ _
    have hb2 := hb.grown G2
    have HPL : Aside (∀ w2, ((w1.alloc (.cells #[.int .i64 (tok L e k).ln, .int .i64 (tok L e k).co] 28)).drew).grownBy w2 (some pb) → w2.heap[w1.heap.size]? = some (.cells #[.int .i64 (tok L e k).ln, .int .i64 (tok L e k).co] 28 (0, 0))) := fun w2 g2 => (g2.block w1.heap.size (by show w1.heap.size < (w1.alloc _).heap.size; simp) (by simp; omega)).trans kp
    have HPM : Aside (∀ w2 w3 bb, ((w1.alloc (.cells #[.int .i64 (tok L e k).ln, .int .i64 (tok L e k).co] 28)).drew).grownBy w2 (some pb) → (w2.alloc (.cells #[.pointer (some ⟨bl, 0, none⟩), .pointer (some ⟨bb, 0, none⟩)] 215)).grownBy w3 (some pb) → w3.heap[w1.heap.size]? = some (.cells #[.int .i64 (tok L e k).ln, .int .i64 (tok L e k).co] 28 (0, 0))) := fun w2 w3 bb g2 g3 => by
      have hl2 : w1.heap.size < w2.heap.size := (Array.getElem?_eq_some_iff.1 (HPL.out w2 g2)).1
      exact (g3.block w1.heap.size (by simp; omega) (by simp; omega)).trans ((Below.heap_alloc _ _ _ hl2).trans (HPL.out w2 g2))
    have HD0 : Aside (∀ w2 w3 bb, ((w1.alloc (.cells #[.int .i64 (tok L e k).ln, .int .i64 (tok L e k).co] 28)).drew).grownBy w2 (some pb) → (w2.alloc (.cells #[.pointer (some ⟨bl, 0, none⟩), .pointer (some ⟨bb, 0, none⟩)] 215)).grownBy w3 (some pb) → w3.cell? ⟨w1.heap.size, 0, none⟩ = some (.int .i64 (tok L e k).ln)) := fun w2 w3 bb g2 g3 => (block_cells (HPM.out w2 w3 bb g2 g3)).1 0
    have HD1 : Aside (∀ w2 w3 bb, ((w1.alloc (.cells #[.int .i64 (tok L e k).ln, .int .i64 (tok L e k).co] 28)).drew).grownBy w2 (some pb) → (w2.alloc (.cells #[.pointer (some ⟨bl, 0, none⟩), .pointer (some ⟨bb, 0, none⟩)] 215)).grownBy w3 (some pb) → w3.cell? ⟨w1.heap.size, 1, none⟩ = some (.int .i64 (tok L e k).co)) := fun w2 w3 bb g2 g3 => (block_cells (HPM.out w2 w3 bb g2 g3)).1 1
    have HGR : Aside (∀ (w2 : World) (bb nd' : Nat), Prs w2 pb L e j (eff L e lm l) fm am nd' → nd' + 0 = nd + sz b → Calls Tryz.prog 176 #[.pointer (some ⟨pb, 0, none⟩), .int .i8 kind, .agg #[.int .i64 (tok L e k).ln, .int .i64 (tok L e k).co], .slice (some ⟨w2.heap.size, 0, none⟩) 2 2] (w2.alloc (.cells #[.pointer (some ⟨bl, 0, none⟩), .pointer (some ⟨bb, 0, none⟩)] 215)) _) := fun w2 bb nd' P n => pgrow_any (P.kept ((Below.refl _ _).alloc (Nat.le_refl _) _)) (by omega) kind (tok L e k).ln (tok L e k).co (some ⟨w2.heap.size, 0, none⟩) 2 2
    clear htk h hM hb kp hR
    go_upto_region 2 with fail
    go_region_held (fun w' => w'.cell? ⟨w1.heap.size, 0, none⟩ = some (.int .i64 (tok L e k).ln) ∧ w'.cell? ⟨w1.heap.size, 1, none⟩ = some (.int .i64 (tok L e k).co)) (first | exact ⟨d0, d1⟩ | exact ⟨c0, c1⟩ | go_keep) (first | (go_at_call 231; refine hRr.mono ?_; rintro e2 w2 ⟨bb, nd', rfl, hBb, P3, hn3, g2⟩; have kp2 := HPL.out w2 g2; have c0 : w2.cell? ⟨w1.heap.size, 0, none⟩ = some (.int .i64 (tok L e k).ln) := (block_cells kp2).1 0; have c1 : w2.cell? ⟨w1.heap.size, 1, none⟩ = some (.int .i64 (tok L e k).co) := (block_cells kp2).1 1; have hgr := HGR.out w2 bb nd' P3 hn3; clear kp2 HGR HPL) | (go_at_call 176; refine hgr.mono ?_; rintro e3 w3 ⟨rfl, k3, P4, g3, hz3⟩; have d0 : w3.cell? ⟨w1.heap.size, 0, none⟩ = some (.int .i64 (tok L e k).ln) := HD0.out w2 w3 bb g2 g3; have d1 : w3.cell? ⟨w1.heap.size, 1, none⟩ = some (.int .i64 (tok L e k).co) := HD1.out w2 w3 bb g2 g3))
    all_goals
      go_wp2_with fail
      go_ret
      refine ExEnd.ok _ _ rfl ?_ (by rw [List.append_nil]; exact P4) ?_ (grownBy_trans G2 (grownBy_trans g2 (grownBy_trans (grownBy_alloc (grownBy_refl w2 _) _) g3)))
      · have hs : (w2.alloc (.cells #[.pointer (some ⟨bl, 0, none⟩), .pointer (some ⟨bb, 0, none⟩)] 215)).heap.size = w2.heap.size + 1 := by simp
        have hbl := (hb2.grown g2).lt
        have hbb := hBb.lt
        have hp2 := P3.lt
        rw [hs] at k3
        refine br_up [bl, bb] [a, b] w2.heap.size (by omega) k3 ((g3.block w2.heap.size (by simp) (by simp; omega)).trans (heap_alloc_new _ _)) (by omega) (by omega) rfl ?_ ?_
        · intro i c t h1 h2
          have hBt : Below w2.heap.size w2 (w2.alloc (.cells #[.pointer (some ⟨bl, 0, none⟩), .pointer (some ⟨bb, 0, none⟩)] 215)) := (Below.refl _ _).alloc (Nat.le_refl _) _
          match i, h1, h2 with
          | 0, h1, h2 => cases h1; cases h2; exact ((hb2.grown g2).stay hBt).grown g3
          | 1, h1, h2 => cases h1; cases h2; exact (hBb.stay hBt).grown g3
        · intro i c h1
          match i, h1 with
          | 0, h1 => cases h1; omega
          | 1, h1 => cases h1; omega
      · simp [sz, two, Tr.flat, Tr.flats] at *; omega
end Go.Proofs.YtohjfikjbeafiaaGreatDoor
namespace Go.Proofs.YtohjfikjbeafiaaGreatDoor
open Go.RowKit Ps
set_option maxRecDepth 100000
set_option linter.unusedSimpArgs false

set_option maxHeartbeats 2000000 in
theorem unary_any {w : World} {pb : Nat} {L : List PT} {e : PT} {k : Nat} {lm : Lim} {fm am : Value} {nd : Nat} {right : Nat → Re Tr.T} (hx : PX L right) (hR : RuleC 231 pb L e fm am right (k + 1)) (hk : k < L.length) (hnd : nd + (L.length - k) ≤ 200000) (hM : Mp w pb fm am) (h : Prs w pb L e k lm fm am nd) (kind : Int) :
    Calls Tryz.prog 243 #[.pointer (some ⟨pb, 0, none⟩), .int .i8 kind] w (ExEnd w pb L e lm fm am nd 0 (unR L e kind right k)) := by
  have hfl := fldAt (.int .i8 (tok L e k).kind) (.int .i64 (tok L e k).n) (.string (S (tok L e k).s)) (.int .i64 (tok L e k).ln) (.int .i64 (tok L e k).co)
  have hlt := h.lt
  unfold unR
  cases hr : right (k + 1) with
  | error j =>
    show Calls _ _ _ _ (ExEnd w pb L e lm fm am nd 0 (.error j))
    go_enter Tryz.func243, Tryz.ntmps243
    have hc1 := ptake_any h hk
    go_wp2_with fail
    refine hc1.mono ?_
    rintro ee1 ww1 ⟨rfl, PP1, gg1⟩
    have GG1 := gg1
    have hl1 := PP1.lt
    clear hc1 gg1
    unfold tagg
    have hBa2 : Below ww1.heap.size ww1 (ww1.alloc (.cells #[.int .i64 (tok L e k).ln, .int .i64 (tok L e k).co] 28)) := (Below.refl _ _).alloc (Nat.le_refl _) _
    have PP2 := PP1.kept hBa2
    have GG2 : w.grownBy (ww1.alloc (.cells #[.int .i64 (tok L e k).ln, .int .i64 (tok L e k).co] 28)) (some pb) := grownBy_below GG1 hBa2
    have hlB2 := PP1.lt
    have kp2 : (ww1.alloc (.cells #[.int .i64 (tok L e k).ln, .int .i64 (tok L e k).co] 28)).heap[ww1.heap.size]? = some (.cells #[.int .i64 (tok L e k).ln, .int .i64 (tok L e k).co] 28) := heap_alloc_new _ _
    clear hBa2
    have hBd3 : Below (ww1.alloc (.cells #[.int .i64 (tok L e k).ln, .int .i64 (tok L e k).co] 28)).heap.size (ww1.alloc (.cells #[.int .i64 (tok L e k).ln, .int .i64 (tok L e k).co] 28)) (ww1.alloc (.cells #[.int .i64 (tok L e k).ln, .int .i64 (tok L e k).co] 28)).drew := ⟨rfl, rfl, rfl, Nat.le_refl _, fun _ _ => rfl⟩
    have PD3 := PP2.kept hBd3
    have GD3 : w.grownBy (ww1.alloc (.cells #[.int .i64 (tok L e k).ln, .int .i64 (tok L e k).co] 28)).drew (some pb) := grownBy_drew GG2
    have kb3_0 := (hBd3.block ww1.heap.size (Array.getElem?_eq_some_iff.1 kp2).1).trans kp2
    have hRr3 := hR (ww1.alloc (.cells #[.int .i64 (tok L e k).ln, .int .i64 (tok L e k).co] 28)).drew lm nd (by omega) (hM.grown GD3) PD3
    rw [hr] at hRr3
    go_upto_region 2 with fail
    go_region_with (go_at_call 231; refine hRr3.mono ?_; rintro e2 w2 ⟨rfl, g2⟩; refine (fun (_ : wpAny Tryz.prog .any #[] (fun _ _ _ => True) 0 #[] ⟨#[], []⟩ w2) => ⟨rfl, ExEnd.bad rfl (grownBy_trans GD3 g2)⟩) ?_)
    all_goals trivial
  | ok q =>
    obtain ⟨b, j, l⟩ := q
    have hxo := hx.ok hk hr
    show Calls _ _ _ _ (ExEnd w pb L e lm fm am nd 0 (.ok (one kind (tok L e k) b, j, l ++ [])))
    go_enter Tryz.func243, Tryz.ntmps243
    have hc1 := ptake_any h hk
    go_wp2_with fail
    refine hc1.mono ?_
    rintro ee1 ww1 ⟨rfl, PP1, gg1⟩
    have GG1 := gg1
    have hl1 := PP1.lt
    clear hc1 gg1
    unfold tagg
    have hBa2 : Below ww1.heap.size ww1 (ww1.alloc (.cells #[.int .i64 (tok L e k).ln, .int .i64 (tok L e k).co] 28)) := (Below.refl _ _).alloc (Nat.le_refl _) _
    have PP2 := PP1.kept hBa2
    have GG2 : w.grownBy (ww1.alloc (.cells #[.int .i64 (tok L e k).ln, .int .i64 (tok L e k).co] 28)) (some pb) := grownBy_below GG1 hBa2
    have hlB2 := PP1.lt
    have kp2 : (ww1.alloc (.cells #[.int .i64 (tok L e k).ln, .int .i64 (tok L e k).co] 28)).heap[ww1.heap.size]? = some (.cells #[.int .i64 (tok L e k).ln, .int .i64 (tok L e k).co] 28) := heap_alloc_new _ _
    clear hBa2
    have hBd3 : Below (ww1.alloc (.cells #[.int .i64 (tok L e k).ln, .int .i64 (tok L e k).co] 28)).heap.size (ww1.alloc (.cells #[.int .i64 (tok L e k).ln, .int .i64 (tok L e k).co] 28)) (ww1.alloc (.cells #[.int .i64 (tok L e k).ln, .int .i64 (tok L e k).co] 28)).drew := ⟨rfl, rfl, rfl, Nat.le_refl _, fun _ _ => rfl⟩
    have PD3 := PP2.kept hBd3
    have GD3 : w.grownBy (ww1.alloc (.cells #[.int .i64 (tok L e k).ln, .int .i64 (tok L e k).co] 28)).drew (some pb) := grownBy_drew GG2
    have kb3_0 := (hBd3.block ww1.heap.size (Array.getElem?_eq_some_iff.1 kp2).1).trans kp2
    have hRr3 := hR (ww1.alloc (.cells #[.int .i64 (tok L e k).ln, .int .i64 (tok L e k).co] 28)).drew lm nd (by omega) (hM.grown GD3) PD3
    rw [hr] at hRr3
    have HPL3 : Aside (∀ w2, (ww1.alloc (.cells #[.int .i64 (tok L e k).ln, .int .i64 (tok L e k).co] 28)).drew.grownBy w2 (some pb) → w2.heap[ww1.heap.size]? = some (.cells #[.int .i64 (tok L e k).ln, .int .i64 (tok L e k).co] 28 (0, 0))) := fun w2 g2 => (g2.block ww1.heap.size (Array.getElem?_eq_some_iff.1 kb3_0).1 (by simp; omega)).trans kb3_0
    have HPM3 : Aside (∀ (w2 w3 : World) (bB : Nat), (ww1.alloc (.cells #[.int .i64 (tok L e k).ln, .int .i64 (tok L e k).co] 28)).drew.grownBy w2 (some pb) → (w2.alloc (.cells #[.pointer (some ⟨bB, 0, none⟩)] 215)).grownBy w3 (some pb) → w3.heap[ww1.heap.size]? = some (.cells #[.int .i64 (tok L e k).ln, .int .i64 (tok L e k).co] 28 (0, 0))) := fun w2 w3 bB g2 g3 => by
      have hl2 : ww1.heap.size < w2.heap.size := (Array.getElem?_eq_some_iff.1 (HPL3.out w2 g2)).1
      exact (g3.block ww1.heap.size (by simp; omega) (by simp; omega)).trans ((Below.heap_alloc _ _ _ hl2).trans (HPL3.out w2 g2))
    have HD0_3 : Aside (∀ (w2 w3 : World) (bB : Nat), (ww1.alloc (.cells #[.int .i64 (tok L e k).ln, .int .i64 (tok L e k).co] 28)).drew.grownBy w2 (some pb) → (w2.alloc (.cells #[.pointer (some ⟨bB, 0, none⟩)] 215)).grownBy w3 (some pb) → w3.cell? ⟨ww1.heap.size, 0, none⟩ = some (.int .i64 (tok L e k).ln)) := fun w2 w3 bB g2 g3 => (block_cells (HPM3.out w2 w3 bB g2 g3)).1 0
    have HD1_3 : Aside (∀ (w2 w3 : World) (bB : Nat), (ww1.alloc (.cells #[.int .i64 (tok L e k).ln, .int .i64 (tok L e k).co] 28)).drew.grownBy w2 (some pb) → (w2.alloc (.cells #[.pointer (some ⟨bB, 0, none⟩)] 215)).grownBy w3 (some pb) → w3.cell? ⟨ww1.heap.size, 1, none⟩ = some (.int .i64 (tok L e k).co)) := fun w2 w3 bB g2 g3 => (block_cells (HPM3.out w2 w3 bB g2 g3)).1 1
    have HGR3 := fun (w2 : World) (bB nB : Nat) (q : Lim) (jj : Nat) (P : Prs w2 pb L e jj q fm am nB) (hq : nB ≤ 1000000) => pgrow_any (P.kept ((Below.refl _ _).alloc (Nat.le_refl _) (.cells #[.pointer (some ⟨bB, 0, none⟩)] 215))) hq kind (tok L e k).ln (tok L e k).co (some ⟨w2.heap.size, 0, none⟩) 1 1
    go_upto_region 2 with fail
    go_region_held (fun w' => w'.cell? ⟨ww1.heap.size, 0, none⟩ = some (.int .i64 (tok L e k).ln) ∧ w'.cell? ⟨ww1.heap.size, 1, none⟩ = some (.int .i64 (tok L e k).co)) (first | exact ⟨d0, d1⟩ | exact ⟨c0, c1⟩ | go_keep) (first | (go_at_call 231; refine hRr3.mono ?_; rintro e2 w2 ⟨bB, nB, rfl, HB, P3, hnB, g2⟩; have kp2 := HPL3.out w2 g2; have c0 : w2.cell? ⟨ww1.heap.size, 0, none⟩ = some (.int .i64 (tok L e k).ln) := (block_cells kp2).1 0; have c1 : w2.cell? ⟨ww1.heap.size, 1, none⟩ = some (.int .i64 (tok L e k).co) := (block_cells kp2).1 1; have hgr := HGR3 w2 bB nB _ _ P3 (by omega); clear kp2 HGR3 HPL3) | (go_at_call 176; refine hgr.mono ?_; rintro e3 w3 ⟨rfl, k3, P4, g3, hz3⟩; have d0 : w3.cell? ⟨ww1.heap.size, 0, none⟩ = some (.int .i64 (tok L e k).ln) := HD0_3.out w2 w3 bB g2 g3; have d1 : w3.cell? ⟨ww1.heap.size, 1, none⟩ = some (.int .i64 (tok L e k).co) := HD1_3.out w2 w3 bB g2 g3))
    all_goals
      have GG3 : w.grownBy w3 (some pb) := grownBy_trans GD3 (grownBy_trans g2 (grownBy_trans (grownBy_alloc (grownBy_refl w2 _) _) g3))
      have hs3 : (w2.alloc (.cells #[.pointer (some ⟨bB, 0, none⟩)] 215)).heap.size = w2.heap.size + 1 := by simp
      have hp3 := P3.lt
      have hb3 := HB.lt
      rw [hs3] at k3 hz3
      have hBt3 : Below w2.heap.size w2 (w2.alloc (.cells #[.pointer (some ⟨bB, 0, none⟩)] 215)) := (Below.refl _ _).alloc (Nat.le_refl _) _
      have BR3 : Br w3 pb (w2.heap.size + 1 + 1) (.nd (mkN kind 1 (tok L e k)) [b]) := by
        refine br_up [bB] [b] w2.heap.size (by omega) k3 ((g3.block w2.heap.size (by simp) (by simp; omega)).trans (heap_alloc_new _ _)) (by omega) (by omega) rfl ?_ ?_
        · intro i c t h1 h2
          match i, h1, h2 with
          | 0, h1, h2 => cases h1; cases h2; exact (HB.stay hBt3).grown g3
        · intro i c h1
          match i, h1 with
          | 0, h1 => cases h1; omega
      go_wp2_with fail
      go_ret
      refine ExEnd.ok _ _ rfl BR3 (by rw [List.append_nil]; exact P4) ?_ GG3
      simp [sz, one, Tr.flat, Tr.flats] at *; omega
end Go.Proofs.YtohjfikjbeafiaaGreatDoor
namespace Go.Proofs.YtohjfikjbeafiaaGreatDoor
open Go.RowKit Ps
set_option maxRecDepth 100000
set_option linter.unusedSimpArgs false

namespace Ps
/-- What was written ahead of a reading. -/
def pre (l : List Nat) (r : Re Tr.T) : Re Tr.T := match r with
  | .error i => .error i
  | .ok (b, i, m) => .ok (b, i, l ++ m)
theorem bnd_pre {r : Re Tr.T} {a : Tr.T} {j : Nat} {l : List Nat} (f : Tr.T → Nat → Re Tr.T) (h : r = .ok (a, j, l)) : bnd r f = pre l (f a j) := by
  rw [bnd_ok f h]
  cases f a j with
  | error i => rfl
  | ok q => rfl
theorem pre_pre (l m : List Nat) (r : Re Tr.T) : pre l (pre m r) = pre (l ++ m) r := by
  cases r with
  | error i => rfl
  | ok q => obtain ⟨b, i, n⟩ := q; simp [pre]
theorem pre_nil (r : Re Tr.T) : pre [] r = r := by
  cases r with
  | error i => rfl
  | ok q => rfl
end Ps
section
variable (pb : Nat) (L : List PT) (e : PT) (fm am : Value)
/-- What each rule reads, where so many more may be open. -/
def FcC (d : Nat) : Prop := ∀ j, 10 * (L.length - j) + 3 ≤ d → RuleC 231 pb L e fm am (pe L e d .fc) j
def ClC (d : Nat) : Prop := ∀ j, 10 * (L.length - j) + 2 ≤ d → RuleC 244 pb L e fm am (pe L e d .cl) j
def AtC (d : Nat) : Prop := ∀ j, 10 * (L.length - j) + 1 ≤ d → RuleC 247 pb L e fm am (pe L e d .at) j
def TmC (d : Nat) : Prop := ∀ j, 10 * (L.length - j) + 4 ≤ d → RuleC 214 pb L e fm am (pe L e d .tm) j
def SmC (d : Nat) : Prop := ∀ j, 10 * (L.length - j) + 5 ≤ d → RuleC 198 pb L e fm am (pe L e d .sm) j
def RkC (d : Nat) : Prop := ∀ j, 10 * (L.length - j) + 6 ≤ d → RuleC 179 pb L e fm am (pe L e d .rk) j
def ExC (d : Nat) : Prop := ∀ j, 10 * (L.length - j) + 7 ≤ d → RuleC 149 pb L e fm am (pe L e d .ex) j
end

set_option maxHeartbeats 4000000 in
theorem term_step {pb : Nat} {L : List PT} {e : PT} {fm am : Value} (he : e.kind = 0) {d : Nat} (hF : ∀ d', d' ≤ d → FcC pb L e fm am d') : TmC pb L e fm am (d + 1) := by
  intro k hd w lm nd hnd hM h
  have hfc := hF d (Nat.le_refl _) k (by omega) w lm nd hnd hM h
  have hin := (pe_in L e d).2.2.2.2.1
  have hlt := h.lt
  have hat := h.at'
  rw [pe]
  cases hr : pe L e d .fc k with
  | error j =>
    rw [hr] at hfc
    rw [bnd_err _ rfl]
    clear h hF
    go_enter Tryz.func214, Tryz.ntmps214
    go_wp2_with fail
    refine hfc.mono ?_
    rintro e1 w1 ⟨rfl, g1⟩
    go_wp2_with fail
    exact ⟨rfl, ExEnd.bad rfl g1⟩
  | ok q =>
    obtain ⟨a, j, l⟩ := q
    rw [hr] at hfc
    have ho := hin.ok hat hr
    rw [bnd_pre _ rfl]
    have HR : Aside (pre l (pe L e d (.tml a) j) = pre l (pe L e d (.tml a) j)) := rfl
    generalize hr0 : pre l (pe L e d (.tml a) j) = r0 at HR ⊢
    clear HR
    have HR0 : Aside (r0 = pre l (pe L e d (.tml a) j)) := hr0.symm
    clear hr0 hr
    go_enter Tryz.func214, Tryz.ntmps214
    go_wp2_with fail
    refine hfc.mono ?_
    rintro e1 w1 ⟨b1, nd1, rfl, hb1, P1, hn1, g1⟩
    clear hfc
    go_wp2_with fail
    go_loopg [3] d (fun g v wr => ∃ (d' b' nd' j' : Nat) (a' : Tr.T) (l' : List Nat), g = d' ∧ d' ≤ d ∧ v = .pointer (some ⟨b', 0, none⟩) ∧ Br wr pb b' a' ∧ Prs wr pb L e j' (eff L e lm l') fm am nd' ∧ nd' = nd + sz a' ∧ w.grownBy wr (some pb) ∧ 10 * (L.length - j') + 1 ≤ d' ∧ nd' + (L.length - j') ≤ 200000 ∧ k < j' ∧ Aside (r0 = pre l' (pe L e d' (.tml a') j')))
    case atStart => exact ⟨d, b1, nd1, j, a, l, rfl, Nat.le_refl _, rfl, hb1, P1, by omega, g1, by omega, by omega, by omega, HR0.out⟩
    case round =>
      clear hb1 P1 hn1 g1 HR0
      obtain ⟨d', b', nd', j', a', l', rfl, hdd, rfl, hB, hP, hn, hg, hfu, hnn, hkj, HR⟩ := hrel
      have hsi := psign_any hP he
      obtain ⟨d2, rfl⟩ : ∃ d2, gk = d2 + 1 := ⟨gk - 1, by omega⟩
      by_cases hs : sg L j' = [42]
      · have hj := sg_lt hs
        have hq : ((S (sg L j')).toList == [42]) = true := by rw [beq_SL]; simpa using hs
        have HR2 : Aside (r0 = pre l' (bnd (binR L e 12 a' (pe L e d2 .fc) j') fun b k => pe L e d2 (.tml b) k)) := by
          show _ = _
          rw [HR.out, pe, if_pos hs]
        clear HR hs
        have hin2 := (pe_in L e d2).2.2.2.2.1
        have hbp := bin_pr (e := e) hin2 12 a' j' hj
        cases hr : binR L e 12 a' (pe L e d2 .fc) j' with
        | error i =>
          have HR3 : Aside (r0 = .error i) := by show _ = _; rw [HR2.out, bnd_err _ hr]; rfl
          clear HR2
          go_wp2_with fail
          refine hsi.mono ?_
          rintro e2 w2 ⟨rfl, n2, rfl⟩
          have g2 := grownBy_drewN hg n2
          have hbi := binary_factor hin2 (hF d2 (by omega) (j' + 1) (by omega)) hj hnn (hM.grown g2) (hP.drewN n2) 12 b' a' (hB.stay ⟨rfl, rfl, rfl, Nat.le_refl _, fun _ _ => rfl⟩)
          rw [hr] at hbi
          go_wp2_with fail
          refine hbi.mono ?_
          rintro e3 w3 ⟨rfl, g3⟩
          have GG := grownBy_trans g2 g3
          go_wp2_with fail
          exact ⟨rfl, by rw [HR3.out]; exact ExEnd.bad rfl GG⟩
        | ok q2 =>
          obtain ⟨b2, j2, l2⟩ := q2
          rw [hr] at hbp
          obtain ⟨hb1, hb2, hb3, hb4⟩ := hbp
          have hb1 := hb1 rfl
          have HR3 : Aside (r0 = pre (l' ++ l2) (pe L e d2 (.tml b2) j2)) := by show _ = _; rw [HR2.out, bnd_pre _ hr, pre_pre]
          clear HR2
          go_wp2_with fail
          refine hsi.mono ?_
          rintro e2 w2 ⟨rfl, n2, rfl⟩
          have g2 := grownBy_drewN hg n2
          have hbi := binary_factor hin2 (hF d2 (by omega) (j' + 1) (by omega)) hj hnn (hM.grown g2) (hP.drewN n2) 12 b' a' (hB.stay ⟨rfl, rfl, rfl, Nat.le_refl _, fun _ _ => rfl⟩)
          rw [hr] at hbi
          go_wp2_with fail
          refine hbi.mono ?_
          rintro e3 w3 ⟨b3, nd3, rfl, hB3, P3, hn3, g3⟩
          have GG := grownBy_trans g2 g3
          rw [← eff_app] at P3
          clear hbi hsi
          go_wp2_with fail
          go_roundg d2
          case measure => omega
          case rel => exact ⟨d2, b3, nd3, j2, b2, l' ++ l2, rfl, by omega, rfl, hB3, P3, by omega, GG, by omega, by omega, by omega, HR3.out⟩
      · have hq : ((S (sg L j')).toList == [42]) = false := by rw [beq_SL]; simpa using hs
        have HR2 : Aside (r0 = .ok (a', j', l')) := by
          show _ = _
          rw [HR.out, pe, if_neg hs]
          simp [pre]
        clear HR hs
        go_wp2_with fail
        refine hsi.mono ?_
        rintro e2 w2 ⟨rfl, n2, rfl⟩
        have g2 := grownBy_drewN hg n2
        have hB2 := hB.stay (w' := wr.drewN n2) ⟨rfl, rfl, rfl, Nat.le_refl _, fun _ _ => rfl⟩
        go_wp2_with fail
        go_ret
        rw [HR2.out]
        exact ExEnd.ok b' nd' rfl hB2 (hP.drewN n2) (by omega) g2

set_option maxHeartbeats 4000000 in
theorem factor_step {pb : Nat} {L : List PT} {e : PT} {fm am : Value} (he : e.kind = 0) {d : Nat} (hF : FcC pb L e fm am d) (hC : ClC pb L e fm am d) : FcC pb L e fm am (d + 1) := by
  intro k hd w lm nd hnd hM h
  have hin := (pe_in L e d).2.2.2.2.1
  have hsi := psign_any h he
  have hlt := h.lt
  rw [pe]
  by_cases h1 : sg L k = [45]
  · have hj := sg_lt h1
    rw [if_pos h1]
    have q1 : ((S (sg L k)).toList == [45]) = true := by rw [beq_SL]; simpa using h1
    clear h1
    cases hr : unR L e 16 (pe L e d .fc) k with
    | error j =>
      go_enter Tryz.func231, Tryz.ntmps231
      go_wp2_with fail
      refine hsi.mono ?_
      rintro e1 w1 ⟨rfl, n1, rfl⟩
      have g1 : w.grownBy (w.drewN n1) (some pb) := grownBy_drewN (grownBy_refl w _) n1
      have hu := unary_any hin (hF (k + 1) (by omega)) hj hnd (hM.grown g1) (h.drewN n1) 16
      rw [hr] at hu
      go_wp2_with fail
      refine hu.mono ?_
      rintro e2 w2 ⟨rfl, g2⟩
      have GG := grownBy_trans g1 g2
      go_wp2_with fail
      exact ⟨rfl, ExEnd.bad rfl GG⟩
    | ok q =>
      obtain ⟨t, j, l⟩ := q
      go_enter Tryz.func231, Tryz.ntmps231
      go_wp2_with fail
      refine hsi.mono ?_
      rintro e1 w1 ⟨rfl, n1, rfl⟩
      have g1 : w.grownBy (w.drewN n1) (some pb) := grownBy_drewN (grownBy_refl w _) n1
      have hu := unary_any hin (hF (k + 1) (by omega)) hj hnd (hM.grown g1) (h.drewN n1) 16
      rw [hr] at hu
      go_wp2_with fail
      refine hu.mono ?_
      rintro e2 w2 ⟨b, nd2, rfl, hb, P2, hn2, g2⟩
      have GG := grownBy_trans g1 g2
      clear hu hsi
      go_wp2_with fail
      go_ret
      exact ExEnd.ok b nd2 rfl hb P2 hn2 GG
  rw [if_neg h1]
  have q1 : ((S (sg L k)).toList == [45]) = false := by rw [beq_SL]; simpa using h1
  clear h1
  by_cases h2 : sg L k = [33]
  · have hj := sg_lt h2
    rw [if_pos h2]
    have q2 : ((S (sg L k)).toList == [33]) = true := by rw [beq_SL]; simpa using h2
    clear h2
    cases hr : unR L e 27 (pe L e d .fc) k with
    | error j =>
      go_enter Tryz.func231, Tryz.ntmps231
      go_wp2_with fail
      refine hsi.mono ?_
      rintro e1 w1 ⟨rfl, n1, rfl⟩
      have g1 : w.grownBy (w.drewN n1) (some pb) := grownBy_drewN (grownBy_refl w _) n1
      have hu := unary_any hin (hF (k + 1) (by omega)) hj hnd (hM.grown g1) (h.drewN n1) 27
      rw [hr] at hu
      go_wp2_with fail
      refine hu.mono ?_
      rintro e2 w2 ⟨rfl, g2⟩
      have GG := grownBy_trans g1 g2
      go_wp2_with fail
      exact ⟨rfl, ExEnd.bad rfl GG⟩
    | ok q =>
      obtain ⟨t, j, l⟩ := q
      go_enter Tryz.func231, Tryz.ntmps231
      go_wp2_with fail
      refine hsi.mono ?_
      rintro e1 w1 ⟨rfl, n1, rfl⟩
      have g1 : w.grownBy (w.drewN n1) (some pb) := grownBy_drewN (grownBy_refl w _) n1
      have hu := unary_any hin (hF (k + 1) (by omega)) hj hnd (hM.grown g1) (h.drewN n1) 27
      rw [hr] at hu
      go_wp2_with fail
      refine hu.mono ?_
      rintro e2 w2 ⟨b, nd2, rfl, hb, P2, hn2, g2⟩
      have GG := grownBy_trans g1 g2
      clear hu hsi
      go_wp2_with fail
      go_ret
      exact ExEnd.ok b nd2 rfl hb P2 hn2 GG
  rw [if_neg h2]
  have q2 : ((S (sg L k)).toList == [33]) = false := by rw [beq_SL]; simpa using h2
  clear h2
  cases hr : pe L e d .cl k with
  | error j =>
    go_enter Tryz.func231, Tryz.ntmps231
    go_wp2_with fail
    refine hsi.mono ?_
    rintro e1 w1 ⟨rfl, n1, rfl⟩
    have g1 : w.grownBy (w.drewN n1) (some pb) := grownBy_drewN (grownBy_refl w _) n1
    have hu := hC k (by omega) _ lm nd hnd (hM.grown g1) (h.drewN n1)
    rw [hr] at hu
    go_wp2_with fail
    refine hu.mono ?_
    rintro e2 w2 ⟨rfl, g2⟩
    have GG := grownBy_trans g1 g2
    go_wp2_with fail
    exact ⟨rfl, ExEnd.bad rfl GG⟩
  | ok q =>
    obtain ⟨t, j, l⟩ := q
    go_enter Tryz.func231, Tryz.ntmps231
    go_wp2_with fail
    refine hsi.mono ?_
    rintro e1 w1 ⟨rfl, n1, rfl⟩
    have g1 : w.grownBy (w.drewN n1) (some pb) := grownBy_drewN (grownBy_refl w _) n1
    have hu := hC k (by omega) _ lm nd hnd (hM.grown g1) (h.drewN n1)
    rw [hr] at hu
    go_wp2_with fail
    refine hu.mono ?_
    rintro e2 w2 ⟨b, nd2, rfl, hb, P2, hn2, g2⟩
    have GG := grownBy_trans g1 g2
    clear hu hsi
    go_wp2_with fail
    go_ret
    exact ExEnd.ok b nd2 rfl hb P2 hn2 GG
end Go.Proofs.YtohjfikjbeafiaaGreatDoor
