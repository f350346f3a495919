/- What the program's walk does, whatever it visits with. What the program's Behind answers. What the program's Check answers. What the program's Check answers: as a whole. -/
import Derived.Test.YthdlfeejeboboaaGreatDoorUaj
import Derived.Laws.OwnMore
import Derived.WalkSmall
import Derived.WalkMore
import Derived.Defers
import Derived.Recover
namespace Go.Proofs.YthdlfeejeboboaaGreatDoor
open Go.RowKit
set_option maxRecDepth 100000

namespace Tr
def ncells (x : Nd) : List Value := [.int .i8 x.kind, .int .i64 x.kids, .int .i64 x.n, .string x.s, .string x.t, .string x.u, .int .i64 x.ln, .int .i64 x.co]
def row (st : List Nat) : List Value := st.reverse.map fun (m : Nat) => Value.int .i64 (m : Int)
theorem row_cons (m : Nat) (r : List Nat) : row (m :: r) = row r ++ [.int .i64 (m : Int)] := by simp [row]
theorem row_len (st : List Nat) : (row st).length = st.length := by simp [row]
end Tr

def IsNodes (w : World) (v : Value) (l : List Tr.Nd) : Prop :=
  (l = [] ∧ ∃ a c, v = .slice a 0 c) ∨ ∃ b o c, v = .slice (some ⟨b, o, none⟩) l.length c ∧ l.length ≤ c ∧ b < w.heap.size ∧ ∀ j x, l[j]? = some x → ∀ i u, (Tr.ncells x)[i]? = some u → w.cell? ⟨b, o + j * 8 + i, none⟩ = some u
theorem IsNodes.form {w : World} {v : Value} {l : List Tr.Nd} (h : IsNodes w v l) : ∃ a c, v = .slice a l.length c := by
  rcases h with ⟨rfl, a, c, rfl⟩ | ⟨b, o, c, rfl, _⟩
  · exact ⟨a, c, rfl⟩
  · exact ⟨_, c, rfl⟩
theorem IsNodes.at {w : World} {a : Option Addr} {n c : Nat} {l : List Tr.Nd} (h : IsNodes w (.slice a n c) l) {k : Nat} {x : Tr.Nd} (hx : l[k]? = some x) :
    ∃ b o, a = some ⟨b, o, none⟩ ∧ n ≤ c ∧ b < w.heap.size ∧ ∀ i u, (Tr.ncells x)[i]? = some u → w.cell? ⟨b, o + k * 8 + i, none⟩ = some u := by
  rcases h with ⟨rfl, _⟩ | ⟨b, o, c', h0, h1, h2, h3⟩
  · simp at hx
  · obtain ⟨rfl, rfl, rfl⟩ : a = some ⟨b, o, none⟩ ∧ n = l.length ∧ c = c' := by simpa using h0
    exact ⟨b, o, rfl, h1, h2, h3 k x hx⟩
def Off (v : Value) (r : Option Nat) : Prop := ∀ b o n c, v = .slice (some ⟨b, o, none⟩) n c → some b ≠ r
theorem IsNodes.next {w w' : World} {v : Value} {l : List Tr.Nd} {r : Option Nat} (h : IsNodes w v l) (hg : w.grownBy w' r) (hne : Off v r) : IsNodes w' v l := by
  rcases h with h | ⟨b, o, c, rfl, h1, h2, h3⟩
  · exact .inl h
  · exact .inr ⟨b, o, c, rfl, h1, Nat.lt_of_lt_of_le h2 hg.size, fun j x hx i u hu => hg.cell (h3 j x hx i u hu) (hne b o _ _ rfl)⟩
theorem IsNodes.below {w w' : World} {v : Value} {l : List Tr.Nd} (h : IsNodes w v l) (hB : Below w.heap.size w w') : IsNodes w' v l := by
  rcases h with h | ⟨b, o, c, rfl, h1, h2, h3⟩
  · exact .inl h
  · exact .inr ⟨b, o, c, rfl, h1, Nat.lt_of_lt_of_le h2 hB.size, fun j x hx i u hu => (hB.cell (p := ⟨b, o + j * 8 + i, none⟩) h2).trans (h3 j x hx i u hu)⟩

def thrown (k : Nat) : List PanicEntry := [{ v := .iface 161 (.agg #[.int .i64 (k : Int)]), recovered := false }]

theorem grown_of_below {w w1 w2 : World} {r : Option Nat} (h : w.grownBy w1 r) (hB : Below w.heap.size w1 w2) : w.grownBy w2 r :=
  ⟨hB.os.trans h.os, hB.tape.trans h.tape, hB.output.trans h.output, Nat.le_trans h.size hB.size, fun k hk hne => (hB.block k hk).trans (h.block k hk hne)⟩
theorem grown_then {w w1 w2 : World} {r : Option Nat} (h : w.grownBy w1 r) (h2 : w1.grownBy w2 r) : w.grownBy w2 r := grownBy_trans h h2

inductive WEnd (l : List Tr.Nd) (I J : Nat → List Nat → World → Prop) (w' : World) : Ending → Prop
  | done (k : Nat) (st : List Nat) (hk : k ≤ l.length) (hst : Tr.popz st = []) (hI : I k st w') : WEnd l I J w' (.returned (.int .i64 (k : Int)))
  | short (st : List Nat) (hst : Tr.popz st ≠ []) (hI : I l.length st w') : WEnd l I J w' (.panicked (thrown l.length))
  | bad (k : Nat) (st : List Nat) (hk : k < l.length) (hst : Tr.popz st ≠ []) (hJ : J k st w') : WEnd l I J w' (.panicked (thrown k))

def Visits (l : List Tr.Nd) (v : Value) (F : Nat) (caps : Array Value) (r : Option Nat) (base : Nat) (I J : Nat → List Nat → World → Prop) : Prop :=
  ∀ (k : Nat) (m : Nat) (st : List Nat) (x : Tr.Nd) (w : World), l[k]? = some x → st.length ≤ k → IsNodes w v l → base ≤ w.heap.size → I k ((m + 1) :: st) w →
    Calls Tryz.prog F (#[.int .i64 (k : Int), .int .i64 ((st.length + 1 : Nat) : Int)] ++ caps) w fun e w' => w.grownBy w' r ∧
      ((e = .returned (.tuple #[]) ∧ (0 ≤ x.kids → I (k + 1) (x.kids.toNat :: m :: st) w') ∧ (x.kids < 0 → J k ((m + 1) :: st) w')) ∨ (e = .panicked (thrown k) ∧ J k ((m + 1) :: st) w'))

set_option maxHeartbeats 4000000 in
theorem walk_any (l : List Tr.Nd) (hlen : l.length ≤ 2199023255552) (hwf : ∀ x ∈ l, x.kids ≤ 9223372036854775807) (v : Value) (F : Nat) (caps : Array Value) (r : Option Nat) (at0 : Nat) (h0 : at0 ≤ l.length) (w : World) (I J : Nat → List Nat → World → Prop)
    (hE : ∀ args w, (callFunc F args).run Tryz.prog w = .ok (.enter F args) w) (hl : IsNodes w v l) (hoff : Off v r) (hr : ∀ b, r = some b → b < w.heap.size)
    (hV : Visits l v F caps r w.heap.size I J) (hI : ∀ k st w1 w2, I k st w1 → Below w.heap.size w1 w2 → I k st w2) (hP : ∀ k r w1, I k (0 :: r) w1 → I k r w1)
    (h1 : I at0 [1] w) :
    Calls Tryz.prog 78 #[v, .int .i64 (at0 : Int), .func (.func F) #[] caps] w fun e w' => w.grownBy w' r ∧ WEnd l I J w' e := by
  obtain ⟨a, c, rfl⟩ := hl.form
  obtain ⟨i0, hi, hz0, hz1, hz2⟩ := info_parts info3
  go_enter Tryz.func78, Tryz.ntmps78
  go_wp2_with fail
  go_loopg [1, 7] (2 * (l.length - at0) + 1) (fun g t vm wr => ∃ (k : Nat) (st : List Nat), g = 2 * (l.length - k) + st.length ∧ k ≤ l.length ∧ at0 ≤ k ∧ st.length ≤ k + 1 ∧ t = .int .i64 (k : Int) ∧ wr.ownsRow w.heap.size 3 1 vm st.length (Tr.row st) ∧ w.grownBy wr r ∧ (∀ m ∈ st, m ≤ 9223372036854775807) ∧ Aside (I k st wr))
  case atStart =>
    refine ⟨at0, [1], by simp, h0, Nat.le_refl _, by simp, rfl, ?_, World.grownBy_alloc _ _ _, by simp, hI _ _ _ _ h1 ((Below.refl _ _).alloc (Nat.le_refl _) _)⟩
    exact own_lit w (Tr.row [1]) 3 (by decide)
  case round =>
    obtain ⟨k, st, hg, hk, hk0, hst, rfl, hown, hgr, hmx, HI⟩ := hrel
    cases st with
    | nil =>
      obtain ⟨va, vc, rfl⟩ := own_len hown
      go_wp2_with fail
      go_ret
      exact ⟨hgr, .done k [] hk rfl HI.out⟩
    | cons m st =>
      rw [Tr.row_cons] at hown
      obtain ⟨b, cap, hv, hcap, hbg, hcell⟩ := own_cells hown (by simp)
      simp only [List.length_cons] at hcap hown hst hg hv
      subst hv
      have hbl : b < wr.heap.size := (hown.lt b rfl).2
      have hrb : some b ≠ r := fun e => by have := hr b e.symm; omega
      have hm9 := hmx m (by simp)
      have hm8 : ∀ x ∈ st, x ≤ 9223372036854775807 := fun x hx => hmx x (by simp [hx])
      have c0 : wr.cell? ⟨b, st.length, none⟩ = some (.int .i64 (m : Int)) := by
        rw [hcell st.length (by simp), List.getElem?_append_right (by rw [Tr.row_len]; exact Nat.le_refl _), Tr.row_len]; simp
      have f0 : wr.frozen? ⟨b, st.length, none⟩ = false := hown.frozenAt _
      have hsl : st.length ≤ k := by simpa using hst
      have hk63 : k ≤ 2199023255552 := by omega
      clear hcell hmx
      cases m with
      | zero =>
        have hpop := ownsRow_pop (by rw [Tr.row_len]; simp) hown
        have hc1 : (st.length : Int) ≤ (cap : Int) := by omega
        have hc2 : (0 : Int) ≤ (st.length : Int) := by omega
        go_wp2_with fail
        go_roundg (2 * (l.length - k) + st.length)
        case measure => omega
        case rel => exact ⟨k, st, rfl, hk, hk0, by omega, rfl, hpop, hgr, hm8, hP _ _ _ HI.out⟩
      | succ m =>
        have hm0 : ((((m + 1 : Nat) : Int)) == 0) = false := by simp; omega
        have hB1 : Below w.heap.size wr (wr.setCell ⟨b, st.length, none⟩ (.int .i64 (m : Int))) := (Below.refl _ _).setCell hbg _
        have hown1 : (wr.setCell ⟨b, st.length, none⟩ (.int .i64 (m : Int))).ownsRow w.heap.size 3 1 (.slice (some ⟨b, 0, none⟩) (st.length + 1) cap) (st.length + 1) (Tr.row (m :: st)) := by
          have := (hown.stored st.length (.int .i64 (m : Int))).1
          rw [Tr.row_cons]
          simpa [List.set_append_right, Tr.row_len] using this
        have hI1 : Aside (I k ((m + 1) :: st) (wr.setCell ⟨b, st.length, none⟩ (.int .i64 (m : Int)))) := hI _ _ _ _ HI.out hB1
        have hgr1 : w.grownBy (wr.setCell ⟨b, st.length, none⟩ (.int .i64 (m : Int))) r := grown_of_below hgr hB1
        have hsz1 : (wr.setCell ⟨b, st.length, none⟩ (.int .i64 (m : Int))).heap.size = wr.heap.size := by simp [World.setCell]
        have hws : w.heap.size ≤ wr.heap.size := hgr.size
        have hl1 : IsNodes (wr.setCell ⟨b, st.length, none⟩ (.int .i64 (m : Int))) (.slice a l.length c) l := hl.next hgr1 hoff
        clear HI hP hgr
        have hc2 : (0 : Int) ≤ (st.length : Int) := by omega
        have hc3 : (st.length : Int) ≤ (cap : Int) := by omega
        by_cases hkl : k = l.length
        · subst hkl
          go_wp2_with fail
          exact ⟨rfl, hgr1, .short _ (by simp [Tr.popz]) hI1.out⟩
        · have hkl' : ((k : Int) == (l.length : Int)) = false := by simp; omega
          have hklt : k < l.length := by omega
          obtain ⟨x, hx⟩ : ∃ x, l[k]? = some x := ⟨l[k], List.getElem?_eq_getElem hklt⟩
          have hV' := hV k m st x _ hx hsl hl1 (by rw [hsz1]; exact hws) hI1.out
          generalize hW1 : wr.setCell ⟨b, st.length, none⟩ (.int .i64 (m : Int)) = w1 at *
          clear hkl hV
          go_wp2_with fail
          rw [show ((st.length : Int) + 1) = ((st.length + 1 : Nat) : Int) by omega]
          refine hV'.mono ?_
          rintro e w2 ⟨hg2, ⟨rfl, hIn, hJn⟩ | ⟨rfl, hJn⟩⟩
          · have hl2 := hl1.next hg2 hoff
            have hgr2 := grown_then hgr1 hg2
            have hws2 : w.heap.size ≤ w2.heap.size := hgr2.size
            have hown2 := hown1.kept hg2 (.inr (by simpa [Value.ownBlock] using hrb))
            obtain ⟨b1, o1, rfl, hlc, hb1, hcx⟩ := hl2.at hx
            have c1 : w2.cell? ⟨b1, o1 + k * 8 + 1, none⟩ = some (.int .i64 x.kids) := hcx 1 _ rfl
            have hk'' : (k : Int) < (l.length : Int) := by omega
            have hk2 : (0 : Int) ≤ (k : Int) := by omega
            clear hcx hown1 hl1 hl2 hgr1 hV' hg2
            by_cases hneg : x.kids < 0
            · go_wp2_with fail
              exact ⟨rfl, hgr2, .bad k _ hklt (by simp [Tr.popz]) (hJn hneg)⟩
            · have hneg' : decide (x.kids < 0) = false := by simpa using hneg
              have hkt : ((x.kids.toNat : Nat) : Int) = x.kids := by omega
              have HI2 : Aside (I (k + 1) (x.kids.toNat :: m :: st) w2) := hIn (by omega)
              clear hIn hJn hneg
              have hcap2 : st.length + 1 + 1 ≤ maxLen := by unfold maxLen; omega
              go_wp2_with (at_builtin; go_must (refine wpList_append_own _ rfl _ _ 113 rfl w.heap.size 3 i0 (.int .i64 0) 1 8 tyInts hi hz0 hz1 hz2 rfl (by decide) (.slice (some ⟨b, 0, none⟩) (st.length + 1) cap) _ _ rfl (hown2.alloc _) ⟨w2.heap.size, 0, none⟩ 1 1 [.int .i64 x.kids] rfl rfl (cells_list_new _ [.int .i64 x.kids] 3) (fun u hu => by simp at hu; subst hu; rfl) (by unfold maxLen; omega) (by omega) (by simp; omega) ?_); intro v3 w3 hown3 hg3 _)
              go_roundg (2 * (l.length - (k + 1)) + (st.length + 2))
              case measure => omega
              case rel =>
                have hB3 : Below w.heap.size w2 w3 := (Below.refl _ _).grown (grownBy_alloc_pre hg3) (Nat.le_trans hgr2.size (Nat.le_refl _)) (fun y e => by cases e; exact hbg)
                refine ⟨k + 1, x.kids.toNat :: m :: st, by simp, by omega, by omega, by simp; omega, by go_num, ?_, grown_of_below hgr2 hB3, ?_, hI _ _ _ _ HI2.out hB3⟩
                · rw [Tr.row_cons, hkt]; exact hown3
                · intro y hy
                  simp only [List.mem_cons] at hy
                  rcases hy with rfl | rfl | hy
                  · have := hwf x (List.mem_of_getElem? hx); omega
                  · omega
                  · exact hm8 y hy
          · exact ⟨rfl, grown_then hgr1 hg2, .bad k _ hklt (by simp [Tr.popz]) hJn⟩
end Go.Proofs.YthdlfeejeboboaaGreatDoor
namespace Go.Proofs.YthdlfeejeboboaaGreatDoor
open Go.RowKit
set_option maxRecDepth 100000
set_option linter.unusedSimpArgs false

end Go.Proofs.YthdlfeejeboboaaGreatDoor
namespace Go.Proofs.YthdlfeejeboboaaGreatDoor
open Go.RowKit
set_option maxRecDepth 100000
set_option linter.unusedSimpArgs false

theorem mayBe_any (x : Tr.Nd) (hs : x.s.size ≤ maxLen) (w : World) :
    Calls Tryz.prog 80 #[Tr.agg x] w fun e w' => e = .returned (.bool (Tr.mayB x)) ∧ Below w.heap.size w w' := by
  obtain ⟨kind, kids, n, s, t, u, ln, co⟩ := x
  by_cases h1 : kind = 1
  · subst h1; exact be_num kids n s t u ln co hs w
  by_cases h2 : kind = 2
  · subst h2; exact be_str kids n s t u ln co hs w
  by_cases h3 : kind = 3
  · subst h3; exact be_truth kids n s t u ln co hs w
  by_cases h4 : kind = 4
  · subst h4; exact be_var kids n s t u ln co hs w
  by_cases h5 : kind = 5
  · subst h5; exact be_fn kids n s t u ln co hs w
  by_cases h6 : kind = 6
  · subst h6; exact be_rec kids n s t u ln co hs w
  by_cases h8 : kind = 8
  · subst h8; exact be_let kids n s t u ln co hs w
  by_cases h29 : kind = 29
  · subst h29; exact be_as kids n s t u ln co hs w
  exact be_other kind h1 h2 h3 h4 h5 h6 h8 h29 kids n s t u ln co hs w

theorem entersCheck2 : ∀ args w, (callFunc 79 args).run Tryz.prog w = .ok (.enter 79 args) w := enters_of Tryz.func79 (by kernel_rfl) rfl

structure Fits (l : List Tr.Nd) : Prop where
  len : l.length ≤ 2199023255552
  kids : ∀ x ∈ l, x.kids ≤ 9223372036854775807
  str : ∀ x ∈ l, x.s.size ≤ maxLen

def CI (l : List Tr.Nd) (v : Value) (bl bd : Nat) (k : Nat) (st : List Nat) (w : World) : Prop :=
  ∃ dp : Nat, w.cell? ⟨bl, 0, none⟩ = some v ∧ w.cell? ⟨bd, 0, none⟩ = some (.int .i64 (dp : Int)) ∧ w.frozen? ⟨bd, 0, none⟩ = false ∧ Tr.ck Tr.mayB l [1] 0 0 = Tr.ck Tr.mayB (l.drop k) st k dp
def CJ (l : List Tr.Nd) (bd : Nat) (k : Nat) (_ : List Nat) (w : World) : Prop := (∃ x : Int, w.cell? ⟨bd, 0, none⟩ = some (.int .i64 x)) ∧ Tr.ck Tr.mayB l [1] 0 0 = (18, k)
theorem drop_node {l : List Tr.Nd} {k : Nat} {x : Tr.Nd} (h : l[k]? = some x) : l.drop k = x :: l.drop (k + 1) := by
  obtain ⟨hk, rfl⟩ := List.getElem?_eq_some_iff.1 h
  exact List.drop_eq_getElem_cons hk

theorem Tr.arK_pos (k : Int) : 0 ≤ Tr.arK k ∧ Tr.arK k ≤ 3 := by unfold Tr.arK; repeat' split <;> omega
theorem Tr.mayB_kids {x : Tr.Nd} (h : Tr.mayB x = true) : 0 ≤ x.kids := by
  have hf : Tr.fitB x = true := by
    unfold Tr.mayB at h
    simp only [Bool.and_eq_true] at h
    exact h.1.1.1.1
  unfold Tr.fitB at hf
  have := Tr.arK_pos x.kind
  split at hf
  · simpa using hf
  · split at hf
    · simp at hf
    · simp at hf; omega
theorem agg_cells {w : World} {b o : Nat} {x : Tr.Nd} (h : ∀ i u, (Tr.ncells x)[i]? = some u → w.cell? ⟨b, o + i, none⟩ = some u) :
    w.cell? ⟨b, o, none⟩ = some (.int .i8 x.kind) ∧ w.cell? ⟨b, o + 1, none⟩ = some (.int .i64 x.kids) ∧ w.cell? ⟨b, o + 2, none⟩ = some (.int .i64 x.n) ∧ w.cell? ⟨b, o + 3, none⟩ = some (.string x.s) ∧
    w.cell? ⟨b, o + 4, none⟩ = some (.string x.t) ∧ w.cell? ⟨b, o + 5, none⟩ = some (.string x.u) ∧ w.cell? ⟨b, o + 6, none⟩ = some (.int .i64 x.ln) ∧ w.cell? ⟨b, o + 7, none⟩ = some (.int .i64 x.co) :=
  ⟨h 0 _ rfl, h 1 _ rfl, h 2 _ rfl, h 3 _ rfl, h 4 _ rfl, h 5 _ rfl, h 6 _ rfl, h 7 _ rfl⟩

set_option maxHeartbeats 2000000 in
theorem check2_any (l : List Tr.Nd) (hf : Fits l) (v : Value) (bl bd base : Nat) (hoff : Off v (some bd)) (hbl : bl < base) (hbd : bd < base) (hne : bl ≠ bd) :
    Visits l v 79 #[.pointer (some ⟨bl, 0, none⟩), .pointer (some ⟨bd, 0, none⟩)] (some bd) base (CI l v bl bd) (CJ l bd) := by
  intro k m st x w hx hst hl hb hI
  obtain ⟨dp, hcl, hcd, hfd, hck⟩ := hI
  obtain ⟨a, c, rfl⟩ := hl.form
  obtain ⟨b1, o1, rfl, hlc, hb1, hcx⟩ := hl.at hx
  have hxl := List.mem_of_getElem? hx
  have hklt : k < l.length := (List.getElem?_eq_some_iff.1 hx).1
  have hlen := hf.len
  obtain ⟨c0, c1, c2, c3, c4, c5, c6, c7⟩ := agg_cells (o := o1 + k * 8) hcx
  have hm := mayBe_any x (hf.str x hxl)
  rw [drop_node hx] at hck
  have hk1 : (k : Int) < (l.length : Int) := by omega
  have hk0 : (0 : Int) ≤ (k : Int) := by omega
  have HC1 : Aside (Tr.mayB x = false → Tr.ck Tr.mayB l [1] 0 0 = (18, k)) := fun h => by rw [hck, Tr.ck, if_neg (by simp [Tr.popz]), if_pos h]
  have HC2 : Aside (Tr.mayB x = true → Tr.ck Tr.mayB l [1] 0 0 = Tr.ck Tr.mayB (l.drop (k + 1)) (x.kids.toNat :: m :: st) (k + 1) (if 64 < st.length + 1 ∧ dp = 0 then k else dp)) := fun h => by
    rw [hck, Tr.ck, if_neg (by simp [Tr.popz]), if_neg (by simp [h])]; rfl
  have HK : Aside (Tr.mayB x = true → 0 ≤ x.kids) := fun h => Tr.mayB_kids h
  clear hck hcx hx hxl hf hst
  unfold Tr.agg at hm
  show Calls Tryz.prog 79 #[.int .i64 (k : Int), .int .i64 ((st.length + 1 : Nat) : Int), .pointer (some ⟨bl, 0, none⟩), .pointer (some ⟨bd, 0, none⟩)] w _
  cases hmb : Tr.mayB x
  · rw [hmb] at hm
    have H18 := HC1.out hmb
    have H18 : Aside (Tr.ck Tr.mayB l [1] 0 0 = (18, k)) := H18
    clear hmb HC1 HC2 HK
    go_enter Tryz.func79, Tryz.ntmps79
    go_wp2_with (go_at_call 80; refine (hm _).mono ?_; rintro e w1 ⟨rfl, hB1⟩)
    refine ⟨rfl, grown_of_below (grownBy_refl w _) hB1, .inr ⟨rfl, ⟨dp, ?_⟩, H18.out⟩⟩
    exact (hB1.cell (p := ⟨bd, 0, none⟩) (Nat.lt_of_lt_of_le hbd hb)).trans hcd
  · rw [hmb] at hm
    have hkp := HK.out hmb
    have H2 : Aside (_ = _) := HC2.out hmb
    clear hmb HC1 HC2 HK
    have step : Aside (∀ (w1 w2 : World) (dp' : Nat), Below w.heap.size w w1 → w1.grownBy w2 (some bd) → w2.cell? ⟨bd, 0, none⟩ = some (.int .i64 (dp' : Int)) → w2.frozen? ⟨bd, 0, none⟩ = false → (if 64 < st.length + 1 ∧ dp = 0 then k else dp) = dp' →
        w.grownBy w2 (some bd) ∧ CI l (.slice (some ⟨b1, o1, none⟩) l.length c) bl bd (k + 1) (x.kids.toNat :: m :: st) w2) := by
      show ∀ (w1 w2 : World) (dp' : Nat), Below w.heap.size w w1 → w1.grownBy w2 (some bd) → w2.cell? ⟨bd, 0, none⟩ = some (.int .i64 (dp' : Int)) → w2.frozen? ⟨bd, 0, none⟩ = false → (if 64 < st.length + 1 ∧ dp = 0 then k else dp) = dp' →
        w.grownBy w2 (some bd) ∧ CI l (.slice (some ⟨b1, o1, none⟩) l.length c) bl bd (k + 1) (x.kids.toNat :: m :: st) w2
      intro w1 w2 dp' hB hg hc hf he
      refine ⟨grown_then (grown_of_below (grownBy_refl w _) hB) hg, ⟨dp', ?_, hc, hf, ?_⟩⟩
      · refine hg.cell ?_ (by simpa using hne)
        exact (hB.cell (p := ⟨bl, 0, none⟩) (Nat.lt_of_lt_of_le hbl hb)).trans hcl
      · rw [← he]; exact H2.out
    have hbd' : bd < w.heap.size := Nat.lt_of_lt_of_le hbd hb
    by_cases hd : 64 < st.length + 1
    · have hd' : (64 : Int) < (st.length : Int) + 1 := by omega
      by_cases h0 : dp = 0
      · subst h0
        go_enter Tryz.func79, Tryz.ntmps79
        go_wp2_with (go_at_call 80; refine (hm _).mono ?_; rintro e w1 ⟨rfl, hB1⟩; have e1 := (hB1.cell (p := ⟨bd, 0, none⟩) hbd').trans hcd; have e2 := (hB1.frozen (p := ⟨bd, 0, none⟩) hbd').trans hfd)
        refine bodyPost_end (results_none rfl _ _ _) rfl ?_
        have hst := step.out w1 (w1.setCell ⟨bd, 0, none⟩ (.int .i64 (k : Int))) k hB1 (grownBy_set (grownBy_refl _ _) _) ?_ ?_ (by simp [hd])
        · exact ⟨hst.1, .inl ⟨rfl, fun _ => hst.2, fun h => absurd hkp (by omega)⟩⟩
        · simp [go_sem, e1]
        · rw [World.frozen?_setCell]; exact e2
      · have h0' : ((dp : Int) == 0) = false := by simp; omega
        go_enter Tryz.func79, Tryz.ntmps79
        go_wp2_with (go_at_call 80; refine (hm _).mono ?_; rintro e w1 ⟨rfl, hB1⟩; have e1 := (hB1.cell (p := ⟨bd, 0, none⟩) hbd').trans hcd; have e2 := (hB1.frozen (p := ⟨bd, 0, none⟩) hbd').trans hfd)
        refine bodyPost_end (results_none rfl _ _ _) rfl ?_
        have hst := step.out w1 w1 dp hB1 (grownBy_refl _ _) e1 e2 (by simp [h0])
        exact ⟨hst.1, .inl ⟨rfl, fun _ => hst.2, fun h => absurd hkp (by omega)⟩⟩
    · have hd' : decide ((64 : Int) < (st.length : Int) + 1) = false := by simp; omega
      go_enter Tryz.func79, Tryz.ntmps79
      go_wp2_with (go_at_call 80; refine (hm _).mono ?_; rintro e w1 ⟨rfl, hB1⟩; have e1 := (hB1.cell (p := ⟨bd, 0, none⟩) hbd').trans hcd; have e2 := (hB1.frozen (p := ⟨bd, 0, none⟩) hbd').trans hfd)
      refine bodyPost_end (results_none rfl _ _ _) rfl ?_
      have hst := step.out w1 w1 dp hB1 (grownBy_refl _ _) e1 e2 (by simp [hd])
      exact ⟨hst.1, .inl ⟨rfl, fun _ => hst.2, fun h => absurd hkp (by omega)⟩⟩
end Go.Proofs.YthdlfeejeboboaaGreatDoor
namespace Go.Proofs.YthdlfeejeboboaaGreatDoor
open Go.RowKit
set_option maxRecDepth 100000
set_option linter.unusedSimpArgs false

theorem ccatch_idle (p q : Addr) (w : World) :
    CallsD Tryz.prog 77 #[.pointer (some p), .pointer (some q)] .returning w fun e u' w' => e = .returned (.tuple #[]) ∧ u' = .returning ∧ w' = w := by
  refine callsD_of_wpS Tryz.func77 rfl fun c₀ cs hu => ?_
  apply wpS_seq
  apply wpS_region
  simp [wpOpsS, go_sem, recoverD, hu, Tryz.ntmps77, Exit.thenS]
  apply wpS_seq
  apply wpS_region
  simp [wpOpsS, go_sem, Exit.thenS]
  refine wpS_cond (t := false) (by simp [Act.eval, Array.replicate]) ?_
  simp only [Bool.false_eq_true, if_false]
  refine wpS_of_wp (wp_skip ?_)
  cases c₀
  simp_all [bodyPostS, results, Tryz.results77]

set_option maxHeartbeats 1000000 in
theorem ccatch_panicking (bp bq : Nat) (x y : Int) (k : Nat) (older : List PanicEntry) (w : World) (hp : w.cell? ⟨bp, 0, none⟩ = some (.int .i64 x)) (hq : w.cell? ⟨bq, 0, none⟩ = some (.int .i64 y)) (fp : w.frozen? ⟨bp, 0, none⟩ = false) (fq : w.frozen? ⟨bq, 0, none⟩ = false) (hne : bp ≠ bq) :
    CallsD Tryz.prog 77 #[.pointer (some ⟨bp, 0, none⟩), .pointer (some ⟨bq, 0, none⟩)] (.panicking ({ v := .iface 161 (.agg #[.int .i64 (k : Int)]), recovered := false } :: older)) w fun e u' w' =>
      e = .returned (.tuple #[]) ∧ u' = .panicking ({ v := .iface 161 (.agg #[.int .i64 (k : Int)]), recovered := true } :: older) ∧ w' = ((w.setCell ⟨bp, 0, none⟩ (.int .i64 18)).setCell ⟨bq, 0, none⟩ (.int .i64 (k : Int))).drew := by
  refine callsD_of_wpS Tryz.func77 rfl fun c₀ cs hu => ?_
  apply wpS_seq
  apply wpS_region
  simp [wpOpsS, go_sem, recoverD, hu, Tryz.ntmps77, Exit.thenS]
  apply wpS_seq
  apply wpS_region
  simp [wpOpsS, go_sem, Exit.thenS]
  refine wpS_cond (t := true) (by simp [Act.eval, Array.replicate]) ?_
  simp only [if_true]
  refine wpS_of_wp ?_
  have hta : ∀ w : World, (Instr.typeAssert (.iface 161 (.agg #[.int .i64 (k : Int)])) 20 161 false).run Tryz.prog w = .ok (.agg #[.int .i64 (k : Int)]) w := fun w => by kernel_rfl
  have hfi : ∀ w : World, (Instr.field 161 (.agg #[.int .i64 (k : Int)]) 0).run Tryz.prog w = .ok (.int .i64 (k : Int)) w := fun w => by kernel_rfl
  go_region
  all_goals simp [bodyPostS, results, Tryz.results77, go_sem]

theorem Off.fresh {w : World} {v : Value} {l : List Tr.Nd} {b : Nat} (h : IsNodes w v l) (hn : 0 < l.length) (hb : w.heap.size ≤ b) : Off v (some b) := by
  rcases h with ⟨rfl, _⟩ | ⟨b1, o, c, rfl, _, h2, _⟩
  · simp at hn
  · intro b2 o2 n c2 h e
    simp at h e
    omega

theorem Tr.ck_pop (may : Tr.Nd → Bool) (l : List Tr.Nd) (r : List Nat) (i dp : Nat) : Tr.ck may l (0 :: r) i dp = Tr.ck may l r i dp := by cases l <;> rfl
def chkN (l : List Tr.Nd) : Nat × Nat := Tr.check Tr.mayB l
theorem chkN_many {l : List Tr.Nd} (h : l.length = 0 ∨ 4096 < l.length) : chkN l = (17, 0) := by unfold chkN Tr.check; rw [if_pos h]
theorem chkN_ck {l : List Tr.Nd} (h : ¬ (l.length = 0 ∨ 4096 < l.length)) : chkN l = Tr.ck Tr.mayB l [1] 0 0 := by unfold chkN Tr.check; rw [if_neg h]

set_option maxHeartbeats 2000000 in
theorem treeCheck_any (l : List Tr.Nd) (hf : Fits l) (v : Value) (w : World) (hl : IsNodes w v l) :
    Calls Tryz.prog 50 #[v] w fun e w' => e = .returned (.tuple #[.int .i64 ((chkN l).1 : Int), .int .i64 ((chkN l).2 : Int)]) ∧ Below w.heap.size w w' := by
  have hmf : ∀ (fn : Fn) (first cap : Array Value) (w : World), (Instr.makeFunc fn first cap).run Tryz.prog w = .ok (.func fn first cap) w := fun _ _ _ _ => rfl
  obtain ⟨a, c, rfl⟩ := hl.form
  have hB0 : ∀ o1 o2 o3 o4 : Obj, Below w.heap.size w ((((w.alloc o1).alloc o2).alloc o3).alloc o4) := fun o1 o2 o3 o4 => balloc (balloc (balloc (balloc (Below.refl _ _) _) _) _) _
  by_cases h0 : l.length = 0
  · have HN : Aside (chkN l = (17, 0)) := chkN_many (.inl h0)
    have h0' : ((l.length : Int) == 0) = true := by rw [h0]; rfl
    go_enter_defers Tryz.func50, Tryz.ntmps50
    go_wp2_with fail
    simp [bodyPostD, Leaves, settle, results, Tryz.results50, go_sem, HN.out]
    exact balloc (balloc (balloc (Below.refl _ _) _) _) _
  · have hp : 0 < l.length := by omega
    have h0' : ((l.length : Int) == 0) = false := by simpa using h0
    by_cases h1 : 4096 < l.length
    · have HN : Aside (chkN l = (17, 0)) := chkN_many (.inr h1)
      have h1' : (4096 : Int) < (l.length : Int) := by omega
      go_enter_defers Tryz.func50, Tryz.ntmps50
      go_wp2_with fail
      simp [bodyPostD, Leaves, settle, results, Tryz.results50, go_sem, HN.out]
      exact balloc (balloc (balloc (Below.refl _ _) _) _) _
    · have HN : Aside (chkN l = Tr.ck Tr.mayB l [1] 0 0) := chkN_ck (by omega)
      have h1' : decide ((4096 : Int) < (l.length : Int)) = false := by simp; omega
      have hl4 : l.length ≤ 4096 := by omega
      generalize hW : (((w.alloc (.cells #[.slice a l.length c] 22)).alloc (.cells #[.int .i64 0] 31)).alloc (.cells #[.int .i64 0] 3)).alloc (.cells #[.int .i64 0] 3) = W
      have hWs : W.heap.size = w.heap.size + 4 := by rw [← hW]; simp
      have hBW : Below w.heap.size w W := by rw [← hW]; exact hB0 _ _ _ _
      have k0 : W.cell? ⟨w.heap.size, 0, none⟩ = some (.slice a l.length c) := by rw [← hW]; simp [go_sem]
      have k1 : W.cell? ⟨w.heap.size + 1, 0, none⟩ = some (.int .i64 0) := by rw [← hW]; simp [go_sem]
      have k2 : W.cell? ⟨w.heap.size + 2, 0, none⟩ = some (.int .i64 0) := by rw [← hW]; simp [go_sem]
      have k3 : W.cell? ⟨w.heap.size + 3, 0, none⟩ = some (.int .i64 0) := by rw [← hW]; simp [go_sem]
      have f1 : W.frozen? ⟨w.heap.size + 1, 0, none⟩ = false := by rw [← hW]; simp [go_sem]
      have f2 : W.frozen? ⟨w.heap.size + 2, 0, none⟩ = false := by rw [← hW]; simp [go_sem]
      have f3 : W.frozen? ⟨w.heap.size + 3, 0, none⟩ = false := by rw [← hW]; simp [go_sem]
      have hlW := hl.below hBW
      have hoff : Off (.slice a l.length c) (some (w.heap.size + 3)) := Off.fresh hl hp (by omega)
      have hI0 : CI l (.slice a l.length c) w.heap.size (w.heap.size + 3) 0 [1] W := ⟨0, k0, k3, f3, rfl⟩
      have hWk := walk_any l hf.len hf.kids (.slice a l.length c) 79 #[.pointer (some ⟨w.heap.size, 0, none⟩), .pointer (some ⟨w.heap.size + 3, 0, none⟩)] (some (w.heap.size + 3)) 0 (by omega) W (CI l (.slice a l.length c) w.heap.size (w.heap.size + 3)) (CJ l (w.heap.size + 3)) entersCheck2 hlW hoff (fun b h => by cases h; omega) (check2_any l hf _ _ _ _ hoff (by omega) (by omega) (by omega))
        (fun k st w1 w2 h hB => by
          obtain ⟨dp, a1, a2, a3, a4⟩ := h
          exact ⟨dp, (hB.cell (p := ⟨w.heap.size, 0, none⟩) (by simp; omega)).trans a1, (hB.cell (p := ⟨w.heap.size + 3, 0, none⟩) (by simp; omega)).trans a2, (hB.frozen (p := ⟨w.heap.size + 3, 0, none⟩) (by simp; omega)).trans a3, a4⟩)
        (fun k r w1 h => by
          obtain ⟨dp, a1, a2, a3, a4⟩ := h
          exact ⟨dp, a1, a2, a3, by rw [a4]; exact Tr.ck_pop _ _ _ _ _⟩) hI0
      have HW : Aside (_ = W) := hW
      clear hI0 hlW hl hoff k0 k3 f3 hB0 hW
      go_enter_defers Tryz.func50, Tryz.ntmps50
      go_wp2_with fail
      rw [HW.out]
      refine hWk.mono ?_
      rintro e w2 ⟨hg2, hend⟩
      have hB2 : Below w.heap.size w w2 := hBW.grown hg2 (by omega) (fun k e => by cases e; omega)
      have c1 : w2.cell? ⟨w.heap.size + 1, 0, none⟩ = some (.int .i64 0) := hg2.cell k1 (by simp)
      have c2 : w2.cell? ⟨w.heap.size + 2, 0, none⟩ = some (.int .i64 0) := hg2.cell k2 (by simp)
      have g1 : w2.frozen? ⟨w.heap.size + 1, 0, none⟩ = false := (World.frozen?_of_block (w := W) (hg2.block _ (by simp; omega) (by simp))).trans f1
      have g2 : w2.frozen? ⟨w.heap.size + 2, 0, none⟩ = false := (World.frozen?_of_block (w := W) (hg2.block _ (by simp; omega) (by simp))).trans f2
      cases hend with
      | done j st hj hst hI =>
        obtain ⟨dp, a1, a2, a3, a4⟩ := hI
        have hjl : j ≤ 4096 := by omega
        have hfinB : ∀ u v : Value, Below w.heap.size w ((w2.setCell ⟨w.heap.size + 1, 0, none⟩ u).setCell ⟨w.heap.size + 2, 0, none⟩ v) := fun u v => (hB2.setCell (by simp) _).setCell (by simp) _
        by_cases hjl2 : j < l.length
        · have H18 : Aside (chkN l = (18, j)) := by
            show _ = _
            rw [HN.out, a4, drop_node (List.getElem?_eq_getElem hjl2), Tr.ck, if_pos hst]
          have hj' : (j : Int) < (l.length : Int) := by omega
          clear a4
          go_wp2_with fail
          refine leaves_cons (f := 77) (args := #[.pointer (some ⟨w.heap.size + 1, 0, none⟩), .pointer (some ⟨w.heap.size + 2, 0, none⟩)]) (by simp) (by simp [go_sem]) ?_
          refine (ccatch_idle ⟨w.heap.size + 1, 0, none⟩ ⟨w.heap.size + 2, 0, none⟩ _).mono ?_
          rintro e u' w'' ⟨rfl, rfl, rfl⟩
          simp [Leaves, settle, results, Tryz.results50, go_sem, H18.out, c1, c2]
          exact hfinB _ _
        · have hjl3 : j = l.length := by omega
          have hj' : decide ((j : Int) < (l.length : Int)) = false := by simp; omega
          have H0 : Aside (chkN l = Tr.fin dp) := by
            show _ = _
            rw [HN.out, a4, hjl3, List.drop_length, Tr.ck, if_pos hst]
          clear a4 hjl3
          by_cases hdp : 0 < dp
          · have hdp' : (0 : Int) < (dp : Int) := by omega
            have H16 : Aside (chkN l = (16, dp)) := by show _ = _; rw [H0.out]; unfold Tr.fin; rw [if_pos hdp]
            go_wp2_with fail
            go_region
            all_goals
              go_wp2_with fail
              refine leaves_cons (f := 77) (args := #[.pointer (some ⟨w.heap.size + 1, 0, none⟩), .pointer (some ⟨w.heap.size + 2, 0, none⟩)]) (by simp) (by simp [go_sem]) ?_
              refine (ccatch_idle ⟨w.heap.size + 1, 0, none⟩ ⟨w.heap.size + 2, 0, none⟩ _).mono ?_
              rintro e u' w'' ⟨rfl, rfl, rfl⟩
              simp [Leaves, settle, results, Tryz.results50, go_sem, H16.out, c1, c2]
              exact below_drew (hfinB _ _)
          · have hdp' : decide ((0 : Int) < (dp : Int)) = false := by simp; omega
            have H00 : Aside (chkN l = (0, 0)) := by show _ = _; rw [H0.out]; unfold Tr.fin; rw [if_neg hdp]
            go_wp2_with fail
            refine leaves_cons (f := 77) (args := #[.pointer (some ⟨w.heap.size + 1, 0, none⟩), .pointer (some ⟨w.heap.size + 2, 0, none⟩)]) (by simp) (by simp [go_sem]) ?_
            refine (ccatch_idle ⟨w.heap.size + 1, 0, none⟩ ⟨w.heap.size + 2, 0, none⟩ _).mono ?_
            rintro e u' w'' ⟨rfl, rfl, rfl⟩
            simp [Leaves, settle, results, Tryz.results50, go_sem, H00.out, c1, c2]
            exact hfinB _ _
      | short st hst hI =>
        obtain ⟨dp, a1, a2, a3, a4⟩ := hI
        have H18 : Aside (chkN l = (18, l.length)) := by
          show _ = _
          rw [HN.out, a4, List.drop_length, Tr.ck, if_neg hst]
        clear a4
        go_wp2_with fail
        refine leaves_cons (f := 77) (args := #[.pointer (some ⟨w.heap.size + 1, 0, none⟩), .pointer (some ⟨w.heap.size + 2, 0, none⟩)]) (by simp) (by simp [go_sem]) ?_
        refine (ccatch_panicking (w.heap.size + 1) (w.heap.size + 2) 0 0 l.length [] _ c1 c2 g1 g2 (by omega)).mono ?_
        rintro e u' w'' ⟨rfl, rfl, rfl⟩
        simp [Leaves, settle, results, Tryz.results50, go_sem, H18.out, c1, c2]
        exact below_drew ((hB2.setCell (by simp) _).setCell (by simp) _)
      | bad j st hj hst hJ =>
        obtain ⟨_, a4⟩ := hJ
        have H18 : Aside (chkN l = (18, j)) := by show _ = _; rw [HN.out, a4]
        clear a4
        go_wp2_with fail
        refine leaves_cons (f := 77) (args := #[.pointer (some ⟨w.heap.size + 1, 0, none⟩), .pointer (some ⟨w.heap.size + 2, 0, none⟩)]) (by simp) (by simp [go_sem]) ?_
        refine (ccatch_panicking (w.heap.size + 1) (w.heap.size + 2) 0 0 j [] _ c1 c2 g1 g2 (by omega)).mono ?_
        rintro e u' w'' ⟨rfl, rfl, rfl⟩
        simp [Leaves, settle, results, Tryz.results50, go_sem, H18.out, c1, c2]
        exact below_drew ((hB2.setCell (by simp) _).setCell (by simp) _)
end Go.Proofs.YthdlfeejeboboaaGreatDoor
