/- What the document's Check answers. The finder of free names: its block, its two maps, and what meet does. Package check: the closure that tells the environment around a whole tree. Package check: what environment answers. -/
import Derived.Test.YthihnkgjkmaplaaGreatDoorUbd
import Derived.Test.YthihnkgjkmaplaaGreatDoorUbi
import Derived.Test.YthihnkgjkmaplaaGreatDoorUbb
import Derived.Maps.AppendAt
import Derived.Test.YthihnkgjkmaplaaGreatDoorUal
import Derived.Test.YthihnkgjkmaplaaGreatDoorUav
namespace Go.Proofs.YthihnkgjkmaplaaGreatDoor
open Go.RowKit
set_option maxRecDepth 100000
set_option linter.unusedSimpArgs false

theorem chkN_ref {l : List Tr.Nd} (h : ¬ (l.length = 0 ∨ 4096 < l.length)) : chkN l = match Tr.bad Tr.mayB l (Tr.dps (Tr.kd l) [1]) 0 with
      | some j => (18, j)
      | none => if Tr.go (Tr.kd l) [1] 0 = (true, 0 + l.length) then Tr.fin2 0 (Tr.deep (Tr.dps (Tr.kd l) [1]) 0) else (18, 0 + l.length) := by
  rw [chkN_ck h, Tr.ck_ref Tr.mayB (fun x hx => Tr.mayB_kids hx) l [1] 0 0 (by simp)]; rfl
theorem chkN_bad {l : List Tr.Nd} (h : ¬ (l.length = 0 ∨ 4096 < l.length)) {j : Nat} (hb : Tr.bad Tr.mayB l (Tr.dps (Tr.kd l) [1]) 0 = some j) : chkN l = (18, j) := by
  rw [chkN_ref h, hb]
theorem bh0_go {l : List Tr.Nd} (h : 0 < l.length) : bhI l 0 = l.length ↔ Tr.go (Tr.kd l) [1] 0 = (true, l.length) := by
  have h1 := bhI_go h
  rw [List.drop_zero] at h1
  rw [show ((0 : Nat) : Int) = 0 from rfl] at h1
  rw [h1]
  cases hg : Tr.go (Tr.kd l) [1] 0 with
  | mk b e => cases b <;> simp <;> omega
theorem chkN_short {l : List Tr.Nd} (h : ¬ (l.length = 0 ∨ 4096 < l.length)) (hb : Tr.bad Tr.mayB l (Tr.dps (Tr.kd l) [1]) 0 = none) (hg : bhI l 0 ≠ l.length) : chkN l = (18, l.length) := by
  rw [chkN_ref h, hb]
  simp only [Nat.zero_add]
  rw [if_neg (fun e => hg ((bh0_go (by omega)).2 e))]
theorem chkN_fin {l : List Tr.Nd} (h : ¬ (l.length = 0 ∨ 4096 < l.length)) (hb : Tr.bad Tr.mayB l (Tr.dps (Tr.kd l) [1]) 0 = none) (hg : bhI l 0 = l.length) : chkN l = Tr.fin2 0 (Tr.deep (Tr.dps (Tr.kd l) [1]) 0) := by
  rw [chkN_ref h, hb]
  simp only [Nat.zero_add]
  rw [if_pos ((bh0_go (by omega)).1 hg)]
theorem ret_two {a b c d : Int} (h : a = c) (h' : b = d) : Ending.returned (.tuple #[.int .i64 a, .int .i64 b]) = .returned (.tuple #[.int .i64 c, .int .i64 d]) := by rw [h, h']
theorem deep_at {D : List Nat} {k d : Nat} (h : D[k]? = some d) : Tr.deep (D.drop k) k = if 64 < d then some k else Tr.deep (D.drop (k + 1)) (k + 1) := by
  obtain ⟨hk, rfl⟩ := List.getElem?_eq_some_iff.1 h
  rw [List.drop_eq_getElem_cons hk, Tr.deep]

set_option maxHeartbeats 8000000 in
theorem refCheck_any (l : List Tr.Nd) (hf : Fits l) (v : Value) (w : World) (hl : IsNodes w v l) :
    Calls Tryz.prog 59 #[v] w fun e w' => e = .returned (.tuple #[.int .i64 ((chkN l).1 : Int), .int .i64 ((chkN l).2 : Int)]) ∧ Below w.heap.size w w' := by
  obtain ⟨a, c, rfl⟩ := hl.form
  by_cases h0 : l.length = 0
  · have HN : Aside (chkN l = (17, 0)) := chkN_many (.inl h0)
    have h0' : (l.length : Int) < 1 := by omega
    go_enter Tryz.func59, Tryz.ntmps59
    go_wp2_with fail
    go_ret2
    exact ⟨ret_two (by rw [HN.out]; rfl) (by rw [HN.out]; rfl), Below.refl _ _⟩
  · have hp : 0 < l.length := by omega
    have h0' : decide ((l.length : Int) < 1) = false := by simp; omega
    by_cases h1 : 4096 < l.length
    · have HN : Aside (chkN l = (17, 0)) := chkN_many (.inr h1)
      have h1' : (4096 : Int) < (l.length : Int) := by omega
      go_enter Tryz.func59, Tryz.ntmps59
      go_wp2_with fail
      go_ret2
      exact ⟨ret_two (by rw [HN.out]; rfl) (by rw [HN.out]; rfl), Below.refl _ _⟩
    · have h1' : decide ((4096 : Int) < (l.length : Int)) = false := by simp; omega
      have hn : ¬ (l.length = 0 ∨ 4096 < l.length) := by omega
      have HNN : Aside (¬ (l.length = 0 ∨ 4096 < l.length)) := hn
      have hDl : (Tr.dps (Tr.kd l) [1]).length ≤ l.length := by have := Tr.dps_le (Tr.kd l) [1]; rwa [Tr.kd_len] at this
      have hd := refDepths_any l (by omega) hf.kids _ w hl
      have hl4 : l.length ≤ 4096 := by omega
      clear hn h0 h1
      have HB0 : Aside (∀ j, Tr.bad Tr.mayB l (Tr.dps (Tr.kd l) [1]) 0 = some j → chkN l = (18, j)) := fun j hj => chkN_bad HNN.out hj
      have HB1 : Aside (Tr.bad Tr.mayB l (Tr.dps (Tr.kd l) [1]) 0 = none → bhI l 0 ≠ l.length → chkN l = (18, l.length)) := fun hj hg => chkN_short HNN.out hj hg
      have HB2 : Aside (Tr.bad Tr.mayB l (Tr.dps (Tr.kd l) [1]) 0 = none → bhI l 0 = l.length → chkN l = Tr.fin2 0 (Tr.deep (Tr.dps (Tr.kd l) [1]) 0) ∧ l.length ≤ (Tr.dps (Tr.kd l) [1]).length) := fun hj hg => ⟨chkN_fin HNN.out hj hg, (Tr.bad_end hj).2⟩
      clear HNN
      generalize Tr.dps (Tr.kd l) [1] = D at *
      go_enter Tryz.func59, Tryz.ntmps59
      go_upto_region 4 with (go_at_call 86; refine hd.mono ?_; rintro e w1 ⟨r, rfl, hown, hB1⟩; obtain ⟨ra, rc, hr⟩ := own_len hown; subst hr)
      clear hd h0' h1'
      go_wp2_with fail
      go_loopg [6] l.length (fun g t wr => ∃ k : Nat, k + g = l.length ∧ t = .int .i64 (k : Int) ∧ Below w.heap.size w wr ∧ wr.ownsRow w.heap.size 3 1 (.slice ra D.length rc) D.length (icells D) ∧ Aside (Tr.bad Tr.mayB l D 0 = Tr.bad Tr.mayB (l.drop k) (D.drop k) k))
      case atStart => exact ⟨0, by omega, rfl, hB1, hown, rfl⟩
      case round =>
        obtain ⟨k, hkg, rfl, hB, hownr, HK⟩ := hrel
        clear hown hB1
        by_cases hk : k < l.length
        · have hk' : (k : Int) < (l.length : Int) := by omega
          have hk0 : (0 : Int) ≤ (k : Int) := by omega
          obtain ⟨x, hx, hdx⟩ := getc hk
          obtain ⟨b1, o1, rfl, hc1, hl1, hcx⟩ := (hl.below hB).at hx
          obtain ⟨p0, p1, p2, p3, p4, p5, p6, p7⟩ := agg_cells (o := o1 + k * 8) hcx
          have hmay := rmay_any x (hf.str x (List.mem_of_getElem? hx))
          have hws : w.heap.size ≤ wr.heap.size := hB.size
          rw [show Tr.agg x = .agg #[.int .i8 x.kind, .int .i64 x.kids, .int .i64 x.n, .string x.s, .string x.t, .string x.u, .int .i64 x.ln, .int .i64 x.co] from rfl] at hmay
          by_cases hkD : k < D.length
          · have hkD' : decide ((D.length : Int) ≤ (k : Int)) = false := by simp; omega
            have hdD := List.drop_eq_getElem_cons hkD
            cases hm : Tr.mayB x
            · have HR : Aside (chkN l = (18, k)) := HB0.out k (by rw [HK.out, hdx, hdD, Tr.bad, if_pos hm])
              rw [hm] at hmay
              clear HK hcx hdx hdD HB0 HB1 HB2 hx hm
              go_wp2_with (go_at_call 87; refine (hmay _).mono ?_; rintro e w2 ⟨rfl, hB2⟩)
              go_ret2
              exact ⟨ret_two (by rw [HR.out]; rfl) (by rw [HR.out]), hB.trans (hB2.mono hws)⟩
            · have HS : Aside (Tr.bad Tr.mayB l D 0 = Tr.bad Tr.mayB (l.drop (k + 1)) (D.drop (k + 1)) (k + 1)) := by
                show _ = _; rw [HK.out, hdx, hdD, Tr.bad, if_neg (by rw [hm]; decide)]
              rw [hm] at hmay
              clear HK hcx hdx hdD HB0 HB1 HB2 hx hm
              go_wp2_with (go_at_call 87; refine (hmay _).mono ?_; rintro e w2 ⟨rfl, hB2⟩)
              go_roundg (l.length - (k + 1))
              case measure => omega
              case rel => exact ⟨k + 1, by omega, by go_num, hB.trans (hB2.mono hws), own_below hownr hB2, HS⟩
          · have hkD' : (D.length : Int) ≤ (k : Int) := by omega
            have HR : Aside (chkN l = (18, k)) := HB0.out k (by rw [HK.out, hdx, show D.drop k = [] from List.drop_eq_nil_of_le (by omega)]; rfl)
            clear HK hcx hdx HB0 HB1 HB2 hx
            generalize Tr.mayB x = f at *
            cases f
            · go_wp2_with (go_at_call 87; refine (hmay _).mono ?_; rintro e w2 ⟨rfl, hB2⟩)
              go_ret2
              exact ⟨ret_two (by rw [HR.out]; rfl) (by rw [HR.out]), hB.trans (hB2.mono hws)⟩
            · go_wp2_with (go_at_call 87; refine (hmay _).mono ?_; rintro e w2 ⟨rfl, hB2⟩)
              go_ret2
              exact ⟨ret_two (by rw [HR.out]; rfl) (by rw [HR.out]), hB.trans (hB2.mono hws)⟩
        · have hk' : ¬ (k : Int) < (l.length : Int) := by omega
          have HN : Aside (Tr.bad Tr.mayB l D 0 = none) := by show _ = _; rw [HK.out, List.drop_eq_nil_of_le (by omega)]; rfl
          have hbh := refBehind_any l (by omega) _ 0 wr (hl.below hB)
          clear HK HB0
          by_cases hbl : bhI l 0 = l.length
          · have hbl' : ((l.length : Int) != (l.length : Int)) = false := by simp
            rw [hbl] at hbh
            obtain ⟨hch, hlD⟩ := HB2.out HN.out hbl
            have HC : Aside (chkN l = Tr.fin2 0 (Tr.deep D 0)) := hch
            clear HB1 HB2 HN hbl hch
            go_wp2_with (go_at_call 88; refine hbh.mono ?_; rintro e w2 ⟨rfl, hw2⟩; replace hw2 := hw2.symm; subst hw2)
            clear hbl' hbh
            go_loopg [8] l.length (fun g t w2 => wr = w2 ∧ ∃ k : Nat, k + g = l.length ∧ t = .int .i64 (k : Int) ∧ Aside (Tr.deep D 0 = Tr.deep (D.drop k) k))
            case atStart => exact ⟨rfl, 0, by omega, rfl, rfl⟩
            case round =>
              obtain ⟨rfl, k2, hkg2, rfl, HK2⟩ := hrel
              by_cases hk2 : k2 < l.length
              · have hk2' : (k2 : Int) < (l.length : Int) := by omega
                have hk20 : (0 : Int) ≤ (k2 : Int) := by omega
                have hkD2 : k2 < D.length := by omega
                have hkD3 : (k2 : Int) < (D.length : Int) := by omega
                obtain ⟨d, hd⟩ : ∃ d, D[k2]? = some d := ⟨D[k2], List.getElem?_eq_getElem hkD2⟩
                obtain ⟨b, cap, hv, hcap, hbg, hcell⟩ := own_cells hownr (by omega)
                cases hv
                have c0 : wr.cell? ⟨b, k2, none⟩ = some (.int .i64 (d : Int)) := by
                  rw [hcell k2 (by omega)]; simp [icells, hd]
                have HS := deep_at hd
                by_cases h64 : 64 < d
                · have h64' : (64 : Int) < (d : Int) := by omega
                  have HR : Aside (chkN l = (16, k2)) := by show _ = _; rw [HC.out, HK2.out, HS, if_pos h64]; rfl
                  clear HS HK2 HC hd hcell
                  go_wp2_with fail
                  go_ret2
                  exact ⟨ret_two (by rw [HR.out]; rfl) (by rw [HR.out]), hB⟩
                · have h64' : decide ((64 : Int) < (d : Int)) = false := by simp; omega
                  have HK3 : Aside (Tr.deep D 0 = Tr.deep (D.drop (k2 + 1)) (k2 + 1)) := by show _ = _; rw [HK2.out, HS, if_neg h64]
                  clear HS HK2 HC hd hcell h64
                  go_wp2_with fail
                  go_roundg (l.length - (k2 + 1))
                  case measure => omega
                  case rel => exact ⟨rfl, k2 + 1, by omega, by go_num, HK3⟩
              · have hk2' : ¬ (k2 : Int) < (l.length : Int) := by omega
                have HR : Aside (chkN l = (0, 0)) := by
                  show _ = _
                  rw [HC.out, HK2.out, List.drop_eq_nil_of_le (by omega)]; rfl
                clear HC HK2
                go_wp2_with fail
                go_ret2
                exact ⟨ret_two (by rw [HR.out]; rfl) (by rw [HR.out]; rfl), hB⟩
          · have hbl' : ((bhI l 0 : Int) != (l.length : Int)) = true := by simp; omega
            have HR : Aside (chkN l = (18, l.length)) := HB1.out HN.out hbl
            clear HB1 HB2 HN hbl
            generalize bhI l 0 = z at *
            go_wp2_with (go_at_call 88; refine hbh.mono ?_; rintro e w2 ⟨rfl, hw2⟩; replace hw2 := hw2.symm; subst hw2)
            go_ret2
            exact ⟨ret_two (by rw [HR.out]; rfl) (by rw [HR.out]), hB⟩
end Go.Proofs.YthihnkgjkmaplaaGreatDoor
namespace Go.Proofs.YthihnkgjkmaplaaGreatDoor
open Go.RowKit Go.Maps
open Go.WideMaps Go.WideElems
set_option maxRecDepth 100000
set_option linter.unusedSimpArgs false

theorem ty3 : Tryz.prog.underlying 3 = some (.int .i64) := by kernel_rfl
theorem tyCnt : Tryz.prog.underlying 81 = some (.map 9 3) := by kernel_rfl
theorem kz3 (w : World) : (zeroValue 3).run Tryz.prog w = .ok (.int .i64 0) w := by kernel_rfl

/-- Block b is a map that counts texts by f; it was written at most n times. -/
def Cnt (w : World) (b n : Nat) (f : List UInt8 → Nat) : Prop :=
  ∃ D : DataW Unit, w.ownsMap Tryz.prog 9 (plainElem Tryz.prog 3) b n D ∧ ∀ l, D.atKey (.string l) (.lit (.int .i64 0)) = .lit (.int .i64 (f l : Int))
theorem Cnt.lt {w : World} {b n : Nat} {f : List UInt8 → Nat} (h : Cnt w b n f) : b < w.heap.size := by obtain ⟨D, h, _⟩ := h; exact h.lt
theorem Cnt.kept {w w' : World} {b n : Nat} {f : List UInt8 → Nat} {r : Option Nat} (h : Cnt w b n f) (hg : w.grownBy w' r) (hne : some b ≠ r) : Cnt w' b n f := by
  obtain ⟨D, h1, h2⟩ := h; exact ⟨D, h1.kept hg hne, h2⟩
theorem Cnt.look {w : World} {b n : Nat} {f : List UInt8 → Nat} (h : Cnt w b n f) (s : ByteArray) (hs : s.size ≤ maxLen) :
    (Instr.lookup 81 (.map (some b)) (.string s) false).run Tryz.prog w = .ok (.int .i64 (f s.data.toList : Int)) w := by
  obtain ⟨D, h1, h2⟩ := h
  obtain ⟨c, hrun, hat, _⟩ := h1.lookup_int keyed9 tyCnt ty3 (kz3 w) (key := .string s) (kl := .string s.data.toList) (keyOf_string_mk ty9 hs)
  rw [h2] at hat
  rw [hrun]
  cases hat
  rfl
theorem Cnt.same {w : World} {b n : Nat} {f g : List UInt8 → Nat} (h : Cnt w b n f) (e : ∀ l, f l = g l) : Cnt w b n g := by
  obtain ⟨D, h1, h2⟩ := h; exact ⟨D, h1, fun l => by rw [h2, e]⟩
theorem Cnt.more {w : World} {b n m : Nat} {f : List UInt8 → Nat} (h : Cnt w b n f) (e : n ≤ m) : Cnt w b m f := by
  obtain ⟨D, h1, h2⟩ := h; exact ⟨D, h1.mono e, h2⟩
theorem Cnt.made (w : World) : Cnt (w.alloc (.map #[] 0)) w.heap.size 0 (fun _ => 0) := ⟨.map [], World.ownsMap_made w _ _ _, fun _ => rfl⟩

theorem wpList_count (w : World) {ops : Array Oper} {rest : List Oper} {o : Oper} {a : Act} {Q : Exit → Act → World → Prop}
    (hg : o.guard = none) (m x v : Operand) (hop : o.op = Op.mapUpdate 81 m x v) (b n : Nat) (f : List UInt8 → Nat) (hm : a.eval m = .map (some b)) (h : Cnt w b n f) (hn : n < 1000000) (s : ByteArray) (hs : s.size ≤ maxLen)
    (hx : a.eval x = .string s) (z : Int) (hv : a.eval v = .int .i64 z) (c : Nat) (hz : z = (c : Int)) (hc : c ≤ 1000000)
    (hK : ∀ w', Cnt w' b (n + 1) (fun l => if l = s.data.toList then c else f l) → w.grownBy w' (some b) → wpList Tryz.prog ops Q rest (a.put o.dst undef) w') :
    wpList Tryz.prog ops Q (o :: rest) a w := by
  obtain ⟨D, hD, hat⟩ := h
  subst hz
  refine wpList_mapUpdate_own w hg m x v 81 hop 9 3 keyed9 tyCnt (plainElem Tryz.prog 3) b n D hm hD (by unfold maxLen; omega) _ _ (.string s.data.toList) hx hv (keyOf_string_mk ty9 hs) (.lit (.int .i64 (c : Int))) [] (plainElem_int ty3 (by apply WalkArith.wf_i64; omega)) ?_
  intro w' h1 h2
  refine hK w' ⟨_, h1, fun l => ?_⟩ h2
  by_cases e : l = s.data.toList
  · subst e
    rw [atKey_put_same hD.isMap (by trivial)]
    simp
  · rw [atKey_put_other (by intro h; cases h; exact e rfl), hat]
    simp [e]

/-- What stays: all blocks but the finder's own; its list stays where it is, or lies in a new one. -/
structure KF (w w' : World) (fb bm tm : Nat) (fv fv' : Value) : Prop where
  os : w'.os = w.os
  tape : w'.tape = w.tape
  output : w'.output = w.output
  size : w.heap.size ≤ w'.heap.size
  block : ∀ k, k < w.heap.size → k ≠ fb → k ≠ bm → k ≠ tm → some k ≠ fv.ownBlock → w'.heap[k]? = w.heap[k]?
  row : fv'.ownBlock = fv.ownBlock ∨ ∀ k, fv'.ownBlock = some k → w.heap.size ≤ k
theorem KF.refl (w : World) (fb bm tm : Nat) (fv : Value) : KF w w fb bm tm fv fv := ⟨rfl, rfl, rfl, Nat.le_refl _, fun _ _ _ _ _ _ => rfl, .inl rfl⟩
theorem KF.trans {w w1 w2 : World} {fb bm tm : Nat} {fv fv1 fv2 : Value} (h : KF w w1 fb bm tm fv fv1) (k : KF w1 w2 fb bm tm fv1 fv2) : KF w w2 fb bm tm fv fv2 := by
  refine ⟨k.os.trans h.os, k.tape.trans h.tape, k.output.trans h.output, Nat.le_trans h.size k.size, fun i hi a1 a2 a3 a4 => ?_, ?_⟩
  · refine (k.block i (Nat.lt_of_lt_of_le hi h.size) a1 a2 a3 ?_).trans (h.block i hi a1 a2 a3 a4)
    rcases h.row with e | e
    · rw [e]; exact a4
    · intro e2; have := e i e2.symm; omega
  · rcases k.row with e | e
    · rcases h.row with e' | e'
      · exact .inl (e.trans e')
      · exact .inr (fun j hj => e' j (by rw [← e]; exact hj))
    · exact .inr (fun j hj => Nat.le_trans h.size (e j hj))
theorem KF.grown {w w' : World} {fb bm tm : Nat} {fv : Value} {r : Option Nat} (h : w.grownBy w' r) (hr : ∀ k, some k = r → k = fb ∨ k = bm ∨ k = tm) : KF w w' fb bm tm fv fv :=
  ⟨h.os, h.tape, h.output, h.size, fun k hk a1 a2 a3 _ => h.block k hk (fun e => (hr k e).elim a1 (fun e => e.elim a2 a3)), .inl rfl⟩
theorem KF.of {w w' : World} {fb bm tm : Nat} {fv : Value} (h : Below w.heap.size w w') : KF w w' fb bm tm fv fv := ⟨h.os, h.tape, h.output, h.size, fun k hk _ _ _ _ => h.block k hk, .inl rfl⟩
theorem KF.low {w w' : World} {fb bm tm R B0 : Nat} {fv fv' : Value} (h : KF w w' fb bm tm fv fv') (hB0 : B0 ≤ fb ∧ B0 ≤ bm ∧ B0 ≤ tm ∧ B0 ≤ R) (hw : B0 ≤ w.heap.size) (hr : ∀ k, fv.ownBlock = some k → R ≤ k) : Below B0 w w' :=
  ⟨h.os, h.tape, h.output, h.size, fun k hk => h.block k (by omega) (by omega) (by omega) (by omega) (fun e => by have := hr k e.symm; omega)⟩
/-- A name that is met. -/
def Tr.met (b acc : List (List UInt8)) (n : List UInt8) : List (List UInt8) := Tr.add1 acc (if n ∈ b then none else some n)

end Go.Proofs.YthihnkgjkmaplaaGreatDoor
namespace Go.Proofs.YthihnkgjkmaplaaGreatDoor
open Go.RowKit Go.Maps Ck
open Go.WideMaps Go.WideElems
open T3.Tp (Ty enc cns met)
set_option maxRecDepth 100000
set_option linter.unusedSimpArgs false

/-- Block b is a map that knows of texts the numbers that g tells. -/
def Idx (w : World) (b n : Nat) (g : List UInt8 → Option Nat) : Prop :=
  ∃ D : DataW Unit, w.ownsMap Tryz.prog 9 (plainElem Tryz.prog 3) b n D ∧ ∀ l, Maps.has D (.string l) = (g l).isSome ∧ D.atKey (.string l) (.lit (.int .i64 0)) = .lit (.int .i64 (((g l).getD 0 : Nat) : Int))

set_option maxHeartbeats 2000000 in
theorem env1_any (w : World) (M T b n : Nat) (g : List UInt8 → Option Nat) (ts : List Ty) (env : Env) (m : ByteArray) (hm : m.size ≤ maxLen) (hI : Idx w b n g) (h1 : w.cell? ⟨M, 0, none⟩ = some (.map (some b))) (vt : Value) (h2 : w.cell? ⟨T, 0, none⟩ = some vt)
    (hts : ∀ j t, ts[j]? = some t → ∃ tb k c, vt = .slice (some ⟨tb, k, none⟩) ts.length c ∧ w.cell? ⟨tb, k + j, none⟩ = some (.string (S (enc t)))) (hg : ∀ l j, g l = some j → j < ts.length) (hl : ∀ l, Ck.look env l = (g l).bind fun j => ts[j]?) :
    Calls Tryz.prog 50 #[.string m, .pointer (some ⟨M, 0, none⟩), .pointer (some ⟨T, 0, none⟩)] w fun e w2 => e = .returned (.tuple #[.string (lookS env m), .bool (lookB env m)]) ∧ w2 = w := by
  obtain ⟨D, hD, hat⟩ := hI
  obtain ⟨ha1, ha2⟩ := hat m.data.toList
  have hlk := hl m.data.toList
  cases hgm : g m.data.toList with
  | none =>
    rw [hgm] at ha1 ha2 hlk
    have e1 : lookS env m = ⟨#[]⟩ := by unfold lookS; rw [hlk]; rfl
    have e2 : lookB env m = false := by unfold lookB; rw [hlk]; rfl
    rw [e1, e2]
    have HA1 : Aside _ := ha1
    clear hat ha1 ha2 hlk hgm hg hl e1 e2 hts
    go_enter Tryz.func50, Tryz.ntmps50
    go_wp2_with (at_lookup; refine wpList_lookup_own_ok_int _ rfl _ _ 81 rfl 9 3 .i64 keyed9 tyCnt ty3 (kz3 _) b n D rfl hD _ _ rfl (keyOf_string_mk ty9 hm) ?_; intro c hc hwc; rw [HA1.out])
    go_ret2
    exact ⟨rfl, rfl⟩
  | some j =>
    rw [hgm] at ha1 ha2 hlk
    have hj := hg _ _ hgm
    obtain ⟨t, ht⟩ : ∃ t, ts[j]? = some t := ⟨_, List.getElem?_eq_getElem hj⟩
    have hlk2 : Ck.look env m.data.toList = some t := by rw [hlk]; exact ht
    have e1 : lookS env m = S (enc t) := by unfold lookS; rw [hlk2]
    have e2 : lookB env m = true := by unfold lookB; rw [hlk2]; rfl
    rw [e1, e2]
    obtain ⟨tb, k, c, rfl, hcell⟩ := hts j t ht
    have hj' : (j : Int) < (ts.length : Int) := by omega
    have HA1 : Aside _ := ha1
    have HA2 : Aside (∀ c : Int, D.atKey (.string m.data.toList) (.lit (.int .i64 0)) = .lit (.int .i64 c) → c = (j : Int)) := fun c hc => by rw [ha2] at hc; simp at hc; omega
    clear hat ha1 ha2 hlk hlk2 hgm hg hl e1 e2 hts ht
    generalize S (enc t) = st at *
    go_enter Tryz.func50, Tryz.ntmps50
    go_wp2_with (at_lookup; refine wpList_lookup_own_ok_int _ rfl _ _ 81 rfl 9 3 .i64 keyed9 tyCnt ty3 (kz3 _) b n D rfl hD _ _ rfl (keyOf_string_mk ty9 hm) ?_; intro c hc hwc; rw [HA1.out, HA2.out c hc])
    go_ret2
    exact ⟨rfl, rfl⟩
end Go.Proofs.YthihnkgjkmaplaaGreatDoor
namespace Go.Proofs.YthihnkgjkmaplaaGreatDoor
open Go.RowKit Go.Maps Ck
open Go.WideMaps Go.WideElems
open T3.Tp (Ty enc cns met)
set_option maxRecDepth 100000
set_option linter.unusedSimpArgs false

theorem Idx.lt {w : World} {b n : Nat} {g : List UInt8 → Option Nat} (h : Idx w b n g) : b < w.heap.size := by obtain ⟨D, h, _⟩ := h; exact h.lt
theorem Idx.kept {w w' : World} {b n : Nat} {g : List UInt8 → Option Nat} {r : Option Nat} (h : Idx w b n g) (hg : w.grownBy w' r) (hne : some b ≠ r) : Idx w' b n g := by
  obtain ⟨D, h1, h2⟩ := h; exact ⟨D, h1.kept hg hne, h2⟩
theorem Idx.made (w : World) : Idx (w.alloc (.map #[] 0)) w.heap.size 0 (fun _ => none) := ⟨.map [], World.ownsMap_made w _ _ _, fun _ => ⟨rfl, rfl⟩⟩
theorem wpList_idx (w : World) {ops : Array Oper} {rest : List Oper} {o : Oper} {a : Act} {Q : Exit → Act → World → Prop}
    (hg : o.guard = none) (m x v : Operand) (hop : o.op = Op.mapUpdate 81 m x v) (b n : Nat) (g : List UInt8 → Option Nat) (hm : a.eval m = .map (some b)) (h : Idx w b n g) (hn : n < 1000000) (s : ByteArray) (hs : s.size ≤ maxLen)
    (hx : a.eval x = .string s) (c : Nat) (hv : a.eval v = .int .i64 (c : Int)) (hc : c ≤ 1000000)
    (hK : ∀ w', Idx w' b (n + 1) (fun l => if l = s.data.toList then some c else g l) → w.grownBy w' (some b) → wpList Tryz.prog ops Q rest (a.put o.dst undef) w') :
    wpList Tryz.prog ops Q (o :: rest) a w := by
  obtain ⟨D, hD, hat⟩ := h
  refine wpList_mapUpdate_own w hg m x v 81 hop 9 3 keyed9 tyCnt (plainElem Tryz.prog 3) b n D hm hD (by unfold maxLen; omega) _ _ (.string s.data.toList) hx hv (keyOf_string_mk ty9 hs) (.lit (.int .i64 (c : Int))) [] (plainElem_int ty3 (by apply WalkArith.wf_i64; omega)) ?_
  intro w' h1 h2
  refine hK w' ⟨_, h1, fun l => ?_⟩ h2
  by_cases e : l = s.data.toList
  · subst e
    rw [atKey_put_same hD.isMap (by trivial), has_put_same hD.isMap (by trivial)]
    simp
  · have hne : Lit.string l ≠ Lit.string s.data.toList := by intro h; cases h; exact e rfl
    rw [atKey_put_other hne, has_put_other hne]
    simp only [if_neg e]
    exact hat l

/-- The last place below k where a name stands. -/
def lastAt (N : List (List UInt8)) : Nat → List UInt8 → Option Nat
  | 0, _ => none
  | k + 1, l => if N[k]? = some l then some k else lastAt N k l
theorem lastAt_lt : ∀ {N : List (List UInt8)} {k : Nat} {l : List UInt8} {j : Nat}, lastAt N k l = some j → j < k
  | _, 0, _, _, h => by simp [lastAt] at h
  | N, k + 1, l, j, h => by
    rw [lastAt] at h
    split at h
    · cases h; omega
    · have := lastAt_lt h; omega
/-- The environment that names and types make: of names that are alike the later one counts. -/
def envOf (N : List (List UInt8)) (ts : List Ty) : Env := (N.zip ts).reverse
theorem look_last (N : List (List UInt8)) (ts : List Ty) (h : N.length = ts.length) : ∀ k, k ≤ N.length → ∀ l, Ck.look ((N.zip ts).take k).reverse l = (lastAt N k l).bind fun j => ts[j]?
  | 0, _, l => by simp [Ck.look, lastAt]
  | k + 1, hk, l => by
    have h1 : N[k]? = some N[k] := List.getElem?_eq_getElem (by omega)
    have h2 : ts[k]? = some ts[k] := List.getElem?_eq_getElem (by omega)
    have hz : (N.zip ts)[k]? = some (N[k], ts[k]) := by rw [List.getElem?_zip_eq_some]; exact ⟨h1, h2⟩
    rw [List.take_add_one, hz]
    simp only [Option.toList, List.reverse_append, List.reverse_cons, List.reverse_nil, List.nil_append, List.cons_append, Ck.look, lastAt, h1, Option.some.injEq]
    by_cases e : l = N[k]
    · rw [if_pos e, if_pos e.symm]; exact h2.symm
    · rw [if_neg e, if_neg (Ne.symm e)]; exact look_last N ts h k (by omega) l
/-- May these be an environment? -/
def envB (N Th : List (List UInt8)) : Bool := decide (N.length = Th.length) && (Th.all fun t => (T3.Tp.chk t).1 == 0) && N.all nameB
theorem envB_types {N Th : List (List UInt8)} (h : envB N Th = true) : ∃ ts : List Ty, N.length = ts.length ∧ Th = ts.map enc ∧ ∀ t ∈ ts, (enc t).length ≤ 64 := by
  unfold envB at h
  simp only [Bool.and_eq_true, decide_eq_true_eq, List.all_eq_true, beq_iff_eq] at h
  obtain ⟨⟨h1, h2⟩, _⟩ := h
  refine ⟨Th.map tyOf, by simpa using h1, ?_, ?_⟩
  · rw [List.map_map]
    conv => lhs; rw [← List.map_id Th]
    apply List.map_congr_left
    intro t ht
    obtain ⟨u, rfl, _⟩ := T3.Tp.chk_dec (h2 t ht)
    simp [tyOf_enc]
  · intro t ht
    obtain ⟨u, hu, rfl⟩ := List.mem_map.1 ht
    obtain ⟨v, rfl, hv⟩ := T3.Tp.chk_dec (h2 u hu)
    rw [tyOf_enc]; exact hv
theorem txs_below {w w' : World} {v : Value} {ps : List (List UInt8)} (h : T3.IsTexts w v ps) (hB : Below w.heap.size w w') : T3.IsTexts w' v ps := by
  rcases h with h | ⟨b, o, c, rfl, h1, h2, h3⟩
  · exact .inl h
  · exact .inr ⟨b, o, c, rfl, h1, Nat.lt_of_lt_of_le h2 hB.size, fun j p hp => (hB.cell (p := ⟨b, o + j, none⟩) h2).trans (h3 j p hp)⟩
theorem txs_form {w : World} {v : Value} {ps : List (List UInt8)} (h : T3.IsTexts w v ps) : ∃ a c, v = .slice a ps.length c := by
  rcases h with ⟨rfl, a, c, rfl⟩ | ⟨b, o, c, rfl, _⟩
  · exact ⟨a, c, rfl⟩
  · exact ⟨_, c, rfl⟩
theorem txs_at {w : World} {a : Option Addr} {n c : Nat} {ps : List (List UInt8)} (h : T3.IsTexts w (.slice a n c) ps) {k : Nat} {p : List UInt8} (hp : ps[k]? = some p) :
    ∃ b o, a = some ⟨b, o, none⟩ ∧ n ≤ c ∧ b < w.heap.size ∧ w.cell? ⟨b, o + k, none⟩ = some (.string (T3.S p)) := by
  rcases h with ⟨rfl, _⟩ | ⟨b, o, c', h0, h1, h2, h3⟩
  · simp at hp
  · obtain ⟨rfl, rfl, rfl⟩ : a = some ⟨b, o, none⟩ ∧ n = ps.length ∧ c = c' := by simpa using h0
    exact ⟨b, o, rfl, h1, h2, h3 k p hp⟩
theorem getp {a : List (List UInt8)} {k : Nat} (h : k < a.length) : ∃ x, a[k]? = some x := ⟨a[k], List.getElem?_eq_getElem h⟩

/-- How environment ends. -/
def EnvEnd (w : World) (N Th : List (List UInt8)) (e : Ending) (w' : World) : Prop := Below w.heap.size w w' ∧
  if envB N Th then ∃ v ts, e = .returned (.tuple #[v, .bool true]) ∧ N.length = ts.length ∧ Th = ts.map enc ∧ (∀ t ∈ ts, (enc t).length ≤ 64) ∧ ∀ a b, w'.heap.size ≤ a → w'.heap.size ≤ b → Scope a b w' v (envOf N ts)
  else e = .returned (.tuple #[.nilFunc, .bool false])
theorem EnvEnd.no {w w' : World} {N Th : List (List UInt8)} (hB : Below w.heap.size w w') (h : envB N Th = false) : EnvEnd w N Th (.returned (.tuple #[.nilFunc, .bool false])) w' := ⟨hB, by rw [if_neg (by rw [h]; decide)]⟩
end Go.Proofs.YthihnkgjkmaplaaGreatDoor
