/- What the program's walk does, whatever it visits with. -/
import Derived.Test.YtpikfdkgblghhaaGreatDoorXam
import Derived.Laws.OwnMore
import Derived.WalkSmall
import Derived.WalkMore
namespace Go.Proofs.YtpikfdkgblghhaaGreatDoor
open Go.RowKit
set_option maxRecDepth 100000

namespace Tr
def ncells (x : Nd) : List Value := [.int .i8 x.kind, .int .i64 x.kids, .int .i64 x.n, .string x.s, .string x.t, .string x.u, .int .i64 x.ln, .int .i64 x.co]
/-- The counts as they lie, the top one last. -/
def row (st : List Nat) : List Value := st.reverse.map fun (m : Nat) => Value.int .i64 (m : Int)
theorem row_cons (m : Nat) (r : List Nat) : row (m :: r) = row r ++ [.int .i64 (m : Int)] := by simp [row]
theorem row_len (st : List Nat) : (row st).length = st.length := by simp [row]
end Tr

/-- A list of nodes, wherever it lies. -/
def IsNodes (w : World) (v : Value) (l : List Tr.Nd) : Prop :=
  (l = [] ∧ ∃ a c, v = .slice a 0 c) ∨ ∃ b o c, v = .slice (some ⟨b, o, none⟩) l.length c ∧ l.length ≤ c ∧ b < w.heap.size ∧ ∀ j x, l[j]? = some x → ∀ i u, (Tr.ncells x)[i]? = some u → w.cell? ⟨b, o + j * 8 + i, none⟩ = some u
theorem IsNodes.form {w : World} {v : Value} {l : List Tr.Nd} (h : IsNodes w v l) : ∃ a c, v = .slice a l.length c := by
  rcases h with ⟨rfl, a, c, rfl⟩ | ⟨b, o, c, rfl, _⟩
  · exact ⟨a, c, rfl⟩
  · exact ⟨_, c, rfl⟩
theorem IsNodes.at {w : World} {a : Option Addr} {n c : Nat} {l : List Tr.Nd} (h : IsNodes w (.slice a n c) l) {k : Nat} {x : Tr.Nd} (hx : l[k]? = some x) :
    ∃ b o, a = some ⟨b, o, none⟩ ∧ n ≤ c ∧ b < w.heap.size ∧ ∀ i u, (Tr.ncells x)[i]? = some u → w.cell? ⟨b, o + k * 8 + i, none⟩ = some u := by
  rcases h with ⟨rfl, _⟩ | ⟨b, o, c', h0, h1, h2, h3⟩
  · simp at hx
  · obtain ⟨rfl, rfl, rfl⟩ : a = some ⟨b, o, none⟩ ∧ n = l.length ∧ c = c' := by simpa using h0
    exact ⟨b, o, rfl, h1, h2, h3 k x hx⟩
/-- The block that a list lies in is not this one. -/
def Off (v : Value) (r : Option Nat) : Prop := ∀ b o n c, v = .slice (some ⟨b, o, none⟩) n c → some b ≠ r
theorem IsNodes.next {w w' : World} {v : Value} {l : List Tr.Nd} {r : Option Nat} (h : IsNodes w v l) (hg : w.grownBy w' r) (hne : Off v r) : IsNodes w' v l := by
  rcases h with h | ⟨b, o, c, rfl, h1, h2, h3⟩
  · exact .inl h
  · exact .inr ⟨b, o, c, rfl, h1, Nat.lt_of_lt_of_le h2 hg.size, fun j x hx i u hu => hg.cell (h3 j x hx i u hu) (hne b o _ _ rfl)⟩
theorem IsNodes.below {w w' : World} {v : Value} {l : List Tr.Nd} (h : IsNodes w v l) (hB : Below w.heap.size w w') : IsNodes w' v l := by
  rcases h with h | ⟨b, o, c, rfl, h1, h2, h3⟩
  · exact .inl h
  · exact .inr ⟨b, o, c, rfl, h1, Nat.lt_of_lt_of_le h2 hB.size, fun j x hx i u hu => (hB.cell (p := ⟨b, o + j * 8 + i, none⟩) h2).trans (h3 j x hx i u hu)⟩

/-- What is thrown where no part goes on. -/
def thrown (k : Nat) : List PanicEntry := [{ v := .iface 95 (.agg #[.int .i64 (k : Int)]), recovered := false }]

theorem grown_of_below {w w1 w2 : World} {r : Option Nat} (h : w.grownBy w1 r) (hB : Below w.heap.size w1 w2) : w.grownBy w2 r :=
  ⟨hB.os.trans h.os, hB.tape.trans h.tape, hB.output.trans h.output, Nat.le_trans h.size hB.size, fun k hk hne => (hB.block k hk).trans (h.block k hk hne)⟩
theorem grown_then {w w1 w2 : World} {r : Option Nat} (h : w.grownBy w1 r) (h2 : w1.grownBy w2 r) : w.grownBy w2 r := grownBy_trans h h2

/-- How a walk ends: at k, the counts being st. -/
inductive WEnd (l : List Tr.Nd) (I J : Nat → List Nat → World → Prop) (w' : World) : Ending → Prop
  | done (k : Nat) (st : List Nat) (hk : k ≤ l.length) (hst : Tr.popz st = []) (hI : I k st w') : WEnd l I J w' (.returned (.int .i64 (k : Int)))
  | short (st : List Nat) (hst : Tr.popz st ≠ []) (hI : I l.length st w') : WEnd l I J w' (.panicked (thrown l.length))
  | bad (k : Nat) (st : List Nat) (hk : k < l.length) (hst : Tr.popz st ≠ []) (hJ : J k st w') : WEnd l I J w' (.panicked (thrown k))

/-- What a visit does. -/
def Visits (l : List Tr.Nd) (v : Value) (F : Nat) (caps : Array Value) (r : Option Nat) (base : Nat) (I J : Nat → List Nat → World → Prop) : Prop :=
  ∀ (k : Nat) (m : Nat) (st : List Nat) (x : Tr.Nd) (w : World), l[k]? = some x → st.length ≤ k → IsNodes w v l → base ≤ w.heap.size → I k ((m + 1) :: st) w →
    Calls Tryz.prog F (#[.int .i64 (k : Int), .int .i64 ((st.length + 1 : Nat) : Int)] ++ caps) w fun e w' => w.grownBy w' r ∧
      ((e = .returned (.tuple #[]) ∧ (0 ≤ x.kids → I (k + 1) (x.kids.toNat :: m :: st) w') ∧ (x.kids < 0 → J k ((m + 1) :: st) w')) ∨ (e = .panicked (thrown k) ∧ J k ((m + 1) :: st) w'))

set_option maxHeartbeats 4000000 in
theorem walk_any (l : List Tr.Nd) (hlen : l.length ≤ 2199023255552) (hwf : ∀ x ∈ l, x.kids ≤ 9223372036854775807) (v : Value) (F : Nat) (caps : Array Value) (r : Option Nat) (at0 : Nat) (h0 : at0 ≤ l.length) (w : World) (I J : Nat → List Nat → World → Prop)
    (hE : ∀ args w, (callFunc F args).run Tryz.prog w = .ok (.enter F args) w) (hl : IsNodes w v l) (hoff : Off v r) (hr : ∀ b, r = some b → b < w.heap.size)
    (hV : Visits l v F caps r w.heap.size I J) (hI : ∀ k st w1 w2, I k st w1 → Below w.heap.size w1 w2 → I k st w2) (hP : ∀ k r w1, I k (0 :: r) w1 → I k r w1)
    (h1 : I at0 [1] w) :
    Calls Tryz.prog 50 #[v, .int .i64 (at0 : Int), .func (.func F) #[] caps] w fun e w' => w.grownBy w' r ∧ WEnd l I J w' e := by
  obtain ⟨a, c, rfl⟩ := hl.form
  obtain ⟨i0, hi, hz0, hz1, hz2⟩ := info_parts info3
  go_enter Tryz.func50, Tryz.ntmps50
  go_wp2_with fail
  go_loopg [1, 7] (2 * (l.length - at0) + 1) (fun g t vm wr => ∃ (k : Nat) (st : List Nat), g = 2 * (l.length - k) + st.length ∧ k ≤ l.length ∧ at0 ≤ k ∧ st.length ≤ k + 1 ∧ t = .int .i64 (k : Int) ∧ wr.ownsRow w.heap.size 3 1 vm st.length (Tr.row st) ∧ w.grownBy wr r ∧ (∀ m ∈ st, m ≤ 9223372036854775807) ∧ Aside (I k st wr))
  case atStart =>
    refine ⟨at0, [1], by simp, h0, Nat.le_refl _, by simp, rfl, ?_, World.grownBy_alloc _ _ _, by simp, hI _ _ _ _ h1 ((Below.refl _ _).alloc (Nat.le_refl _) _)⟩
    exact own_lit w (Tr.row [1]) 3 (by decide)
  case round =>
    obtain ⟨k, st, hg, hk, hk0, hst, rfl, hown, hgr, hmx, HI⟩ := hrel
    cases st with
    | nil =>
      obtain ⟨va, vc, rfl⟩ := own_len hown
      go_wp2_with fail
      go_ret
      exact ⟨hgr, .done k [] hk rfl HI.out⟩
    | cons m st =>
      rw [Tr.row_cons] at hown
      obtain ⟨b, cap, hv, hcap, hbg, hcell⟩ := own_cells hown (by simp)
      simp only [List.length_cons] at hcap hown hst hg hv
      subst hv
      have hbl : b < wr.heap.size := (hown.lt b rfl).2
      have hrb : some b ≠ r := fun e => by have := hr b e.symm; omega
      have hm9 := hmx m (by simp)
      have hm8 : ∀ x ∈ st, x ≤ 9223372036854775807 := fun x hx => hmx x (by simp [hx])
      have c0 : wr.cell? ⟨b, st.length, none⟩ = some (.int .i64 (m : Int)) := by
        rw [hcell st.length (by simp), List.getElem?_append_right (by rw [Tr.row_len]; exact Nat.le_refl _), Tr.row_len]; simp
      have f0 : wr.frozen? ⟨b, st.length, none⟩ = false := hown.frozenAt _
      have hsl : st.length ≤ k := by simpa using hst
      have hk63 : k ≤ 2199023255552 := by omega
      clear hcell hmx
      cases m with
      | zero =>
        have hpop := ownsRow_pop (by rw [Tr.row_len]; simp) hown
        have hc1 : (st.length : Int) ≤ (cap : Int) := by omega
        have hc2 : (0 : Int) ≤ (st.length : Int) := by omega
        go_wp2_with fail
        go_roundg (2 * (l.length - k) + st.length)
        case measure => omega
        case rel => exact ⟨k, st, rfl, hk, hk0, by omega, rfl, hpop, hgr, hm8, hP _ _ _ HI.out⟩
      | succ m =>
        have hm0 : ((((m + 1 : Nat) : Int)) == 0) = false := by simp; omega
        have hB1 : Below w.heap.size wr (wr.setCell ⟨b, st.length, none⟩ (.int .i64 (m : Int))) := (Below.refl _ _).setCell hbg _
        have hown1 : (wr.setCell ⟨b, st.length, none⟩ (.int .i64 (m : Int))).ownsRow w.heap.size 3 1 (.slice (some ⟨b, 0, none⟩) (st.length + 1) cap) (st.length + 1) (Tr.row (m :: st)) := by
          have := (hown.stored st.length (.int .i64 (m : Int))).1
          rw [Tr.row_cons]
          simpa [List.set_append_right, Tr.row_len] using this
        have hI1 : Aside (I k ((m + 1) :: st) (wr.setCell ⟨b, st.length, none⟩ (.int .i64 (m : Int)))) := hI _ _ _ _ HI.out hB1
        have hgr1 : w.grownBy (wr.setCell ⟨b, st.length, none⟩ (.int .i64 (m : Int))) r := grown_of_below hgr hB1
        have hsz1 : (wr.setCell ⟨b, st.length, none⟩ (.int .i64 (m : Int))).heap.size = wr.heap.size := by simp [World.setCell]
        have hws : w.heap.size ≤ wr.heap.size := hgr.size
        have hl1 : IsNodes (wr.setCell ⟨b, st.length, none⟩ (.int .i64 (m : Int))) (.slice a l.length c) l := hl.next hgr1 hoff
        clear HI hP hgr
        have hc2 : (0 : Int) ≤ (st.length : Int) := by omega
        have hc3 : (st.length : Int) ≤ (cap : Int) := by omega
        by_cases hkl : k = l.length
        · subst hkl
          go_wp2_with fail
          exact ⟨rfl, hgr1, .short _ (by simp [Tr.popz]) hI1.out⟩
        · have hkl' : ((k : Int) == (l.length : Int)) = false := by simp; omega
          have hklt : k < l.length := by omega
          obtain ⟨x, hx⟩ : ∃ x, l[k]? = some x := ⟨l[k], List.getElem?_eq_getElem hklt⟩
          have hV' := hV k m st x _ hx hsl hl1 (by rw [hsz1]; exact hws) hI1.out
          generalize hW1 : wr.setCell ⟨b, st.length, none⟩ (.int .i64 (m : Int)) = w1 at *
          clear hkl hV
          go_wp2_with fail
          rw [show ((st.length : Int) + 1) = ((st.length + 1 : Nat) : Int) by omega]
          refine hV'.mono ?_
          rintro e w2 ⟨hg2, ⟨rfl, hIn, hJn⟩ | ⟨rfl, hJn⟩⟩
          · have hl2 := hl1.next hg2 hoff
            have hgr2 := grown_then hgr1 hg2
            have hws2 : w.heap.size ≤ w2.heap.size := hgr2.size
            have hown2 := hown1.kept hg2 (.inr (by simpa [Value.ownBlock] using hrb))
            obtain ⟨b1, o1, rfl, hlc, hb1, hcx⟩ := hl2.at hx
            have c1 : w2.cell? ⟨b1, o1 + k * 8 + 1, none⟩ = some (.int .i64 x.kids) := hcx 1 _ rfl
            have hk'' : (k : Int) < (l.length : Int) := by omega
            have hk2 : (0 : Int) ≤ (k : Int) := by omega
            clear hcx hown1 hl1 hl2 hgr1 hV' hg2
            by_cases hneg : x.kids < 0
            · go_wp2_with fail
              exact ⟨rfl, hgr2, .bad k _ hklt (by simp [Tr.popz]) (hJn hneg)⟩
            · have hneg' : decide (x.kids < 0) = false := by simpa using hneg
              have hkt : ((x.kids.toNat : Nat) : Int) = x.kids := by omega
              have HI2 : Aside (I (k + 1) (x.kids.toNat :: m :: st) w2) := hIn (by omega)
              clear hIn hJn hneg
              have hcap2 : st.length + 1 + 1 ≤ maxLen := by unfold maxLen; omega
              go_wp2_with (at_builtin; go_must (refine wpList_append_own _ rfl _ _ 47 rfl w.heap.size 3 i0 (.int .i64 0) 1 8 tyInts hi hz0 hz1 hz2 rfl (by decide) (.slice (some ⟨b, 0, none⟩) (st.length + 1) cap) _ _ rfl (hown2.alloc _) ⟨w2.heap.size, 0, none⟩ 1 1 [.int .i64 x.kids] rfl rfl (cells_list_new _ [.int .i64 x.kids] 3) (fun u hu => by simp at hu; subst hu; rfl) (by unfold maxLen; omega) (by omega) (by simp; omega) ?_); intro v3 w3 hown3 hg3 _)
              go_roundg (2 * (l.length - (k + 1)) + (st.length + 2))
              case measure => omega
              case rel =>
                have hB3 : Below w.heap.size w2 w3 := (Below.refl _ _).grown (grownBy_alloc_pre hg3) (Nat.le_trans hgr2.size (Nat.le_refl _)) (fun y e => by cases e; exact hbg)
                refine ⟨k + 1, x.kids.toNat :: m :: st, by simp, by omega, by omega, by simp; omega, by go_num, ?_, grown_of_below hgr2 hB3, ?_, hI _ _ _ _ HI2.out hB3⟩
                · rw [Tr.row_cons, hkt]; exact hown3
                · intro y hy
                  simp only [List.mem_cons] at hy
                  rcases hy with rfl | rfl | hy
                  · have := hwf x (List.mem_of_getElem? hx); omega
                  · omega
                  · exact hm8 y hy
          · exact ⟨rfl, grown_then hgr1 hg2, .bad k _ hklt (by simp [Tr.popz]) hJn⟩
end Go.Proofs.YtpikfdkgblghhaaGreatDoor
