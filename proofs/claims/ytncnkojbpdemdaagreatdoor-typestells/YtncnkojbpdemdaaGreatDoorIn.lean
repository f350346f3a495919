/- What the program's made and within do; the closures of whole and arm. -/
import Derived.Test.YtncnkojbpdemdaaGreatDoorTake
import Derived.Deep.CutRange
import Derived.Deep.DeepCutAuto
namespace Go.Proofs.YtncnkojbpdemdaaGreatDoor
open Go.RowKit

/-- How the reader stands behind a reading. -/
def St (w : World) (rb : Nat) (ws : ByteArray) (op : Nat) (r : Tp.Res) : Prop :=
  match r with
  | .ok (_, q) => RdAt w rb ws q op
  | .error (e, p) => RdBad w rb ws op e p
/-- What is handed back. -/
def Val (r : Tp.Res) (g : List UInt8) : Prop :=
  match r with
  | .ok (a, _) => g = Tp.val a
  | .error _ => True
def Ends (w : World) (rb : Nat) (ws : ByteArray) (op : Nat) (r : Tp.Res) (e : Ending) : Prop :=
  ∃ g, e = .returned (.string (S g)) ∧ g.length ≤ 64 ∧ Val r g ∧ St w rb ws op r
theorem St.rd {w : World} {rb : Nat} {ws : ByteArray} {op : Nat} {r : Tp.Res} (h : St w rb ws op r) : ∃ tok at_ fl, Rd w rb ws tok at_ op fl := by
  match r, h with
  | .ok (_, q), h => exact ⟨_, _, _, h.1⟩
  | .error (e, p), h => exact ⟨_, _, _, h.1⟩
theorem St.setOp {w : World} {rb : Nat} {ws : ByteArray} {op : Nat} {r : Tp.Res} (h : St w rb ws op r) {x : Int} (k : Nat) (hx : x = k) : St (w.setCell ⟨rb, 3, none⟩ (.int .i64 x)) rb ws k r := by
  match r, h with
  | .ok (_, q), h => exact ⟨Rd.setOp h.1 k hx, h.2⟩
  | .error (e, p), h => exact ⟨Rd.setOp h.1 k hx, h.2⟩
theorem St.kept {w w' : World} {rb : Nat} {ws : ByteArray} {op : Nat} {r : Tp.Res} (h : St w rb ws op r) (hg : w.grownBy w' none) : St w' rb ws op r := by
  match r, h with
  | .ok (_, q), h => exact ⟨Rd.kept h.1 hg, h.2⟩
  | .error (e, p), h => exact ⟨Rd.kept h.1 hg, h.2⟩

set_option maxRecDepth 100000 in
set_option maxHeartbeats 1000000 in
theorem made_any (h : UInt8) (v : Value) (ps : List (List UInt8)) (w : World) (hv : IsTexts w v ps) (hp : ps.length ≤ 2) :
    Calls Tryz.prog 82 #[.int .u8 (h.toNat : Int), v] w fun e w' => e = .returned (.string (S (Tp.mkF h ps).2)) ∧ Below w.heap.size w w' := by
  have hm := make_any h v ps w hv (by omega)
  go_enter Tryz.func82, Tryz.ntmps82
  go_wp2_with (go_at_call 92; refine hm.mono ?_; rintro e w1 ⟨rfl, hB⟩)
  go_ret
  exact ⟨rfl, hB⟩

set_option maxRecDepth 100000 in
set_option maxHeartbeats 2000000 in
theorem within_deep (w : World) (rb : Nat) (ws : ByteArray) (q : Nat) (h : RdAt w rb ws q 64) (ht : Tp.tk ws.data.toList q ≠ []) (F : Nat) (caps : Array Value) (r : Tp.Res) (hr : r = .error (16, q)) :
    Calls Tryz.prog 80 #[.pointer (some ⟨rb, 0, none⟩), .func (.func F) #[] caps] w fun e w' => Ends w' rb ws 64 r e ∧ w.grownBy w' (some rb) := by
  obtain ⟨-, -, -, c3, -⟩ := h.1.c
  have hF := refuse_any w rb ws 64 q h 16 (by decide)
  have HE : Aside (refErr ws q 16 = 16) := refErr_no (fun h => ht h.1)
  go_enter Tryz.func80, Tryz.ntmps80
  go_wp2_with (go_at_call 68; refine hF.mono ?_; rintro e w1 ⟨rfl, h1, g1⟩)
  go_ret
  rw [HE.out] at h1
  subst hr
  exact ⟨⟨[], rfl, by simp, trivial, h1⟩, g1⟩

set_option maxRecDepth 100000 in
set_option maxHeartbeats 2000000 in
theorem within_ok (w : World) (rb : Nat) (ws : ByteArray) (q op : Nat) (h : RdAt w rb ws q op) (hs : ws.size ≤ 2147483647) (hop : op < 64) (F : Nat) (caps : Array Value) (r : Tp.Res) (hE : ∀ args w, (callFunc F args).run Tryz.prog w = .ok (.enter F args) w)
    (hF : ∀ w1, RdAt w1 rb ws (Tp.nx ws.data.toList q) (op + 1) → w.grownBy w1 (some rb) → Calls Tryz.prog F caps w1 fun e w' => Ends w' rb ws (op + 1) r e ∧ w1.grownBy w' (some rb)) :
    Calls Tryz.prog 80 #[.pointer (some ⟨rb, 0, none⟩), .func (.func F) #[] caps] w fun e w' => Ends w' rb ws op r e ∧ w.grownBy w' (some rb) := by
  obtain ⟨-, -, -, c3, -⟩ := h.1.c
  have f3 := h.1.f 3
  have hop' : ((op : Int) == 64) = false := by simp; omega
  have h1 : RdAt (w.setCell ⟨rb, 3, none⟩ (.int .i64 ((op : Int) + 1))) rb ws q (op + 1) := ⟨Rd.setOp h.1 (op + 1) (by omega), h.2⟩
  have g1 : w.grownBy (w.setCell ⟨rb, 3, none⟩ (.int .i64 ((op : Int) + 1))) (some rb) := grownBy_set (grownBy_refl _ _) _
  go_enter Tryz.func80, Tryz.ntmps80
  go_wp2_with fail
  generalize w.setCell ⟨rb, 3, none⟩ (.int .i64 ((op : Int) + 1)) = W at *
  refine (next_at W rb ws (op + 1) q h1 hs).mono ?_
  rintro e w2 ⟨rfl, h2, g2⟩
  go_wp2_with fail
  refine (hF w2 h2 (grownBy_trans g1 g2)).mono ?_
  rintro e w3 ⟨⟨g, rfl, hg, hv, hst⟩, g3⟩
  obtain ⟨tok, at_, fl, hR3⟩ := hst.rd
  obtain ⟨-, -, -, d3, -⟩ := hR3.c
  have e3 := hR3.f 3
  go_wp2_with fail
  go_ret
  exact ⟨⟨g, rfl, hg, hv, hst.setOp op (by omega)⟩, grownBy_set (grownBy_trans (grownBy_trans g1 g2) g3) _⟩

/-- What whole, arm read where d more may be open. -/
def WholeC (ws : ByteArray) (d : Nat) : Prop := ∀ (w : World) (rb q op : Nat), RdAt w rb ws q op → op + d = 64 →
  Calls Tryz.prog 67 #[.pointer (some ⟨rb, 0, none⟩)] w fun e w' => Ends w' rb ws op ((Tp.pr ws.data.toList d).1 q) e ∧ w.grownBy w' (some rb)
def ArmC (ws : ByteArray) (d : Nat) : Prop := ∀ (w : World) (rb q op : Nat), RdAt w rb ws q op → op + d = 64 →
  Calls Tryz.prog 79 #[.pointer (some ⟨rb, 0, none⟩)] w fun e w' => Ends w' rb ws op ((Tp.pr ws.data.toList d).2 q) e ∧ w.grownBy w' (some rb)

theorem grownBy_of_drew {w w' : World} {r : Option Nat} (h : w.drew.grownBy w' r) : w.grownBy w' r := ⟨h.os, h.tape, h.output, h.size, h.block⟩
theorem texts2 (w : World) (a b : List UInt8) : IsTexts (w.alloc (.cells #[.string (S a), .string (S b)] 9)) (.slice (some ⟨w.heap.size, 0, none⟩) 2 2) [a, b] :=
  IsTexts.own (own_lit w (tcells [a, b]) 9 (by simp [tcells, maxLen]))
theorem texts1 (w : World) (a : List UInt8) : IsTexts (w.alloc (.cells #[.string (S a)] 9)) (.slice (some ⟨w.heap.size, 0, none⟩) 1 1) [a] :=
  IsTexts.own (own_lit w (tcells [a]) 9 (by simp [tcells, maxLen]))
theorem made62 (w : World) (a b : List UInt8) : Calls Tryz.prog 82 #[.int .u8 62, .slice (some ⟨w.heap.size, 0, none⟩) 2 2] (w.alloc (.cells #[.string (S a), .string (S b)] 9)) fun e w' => e = .returned (.string (S (Tp.mkF 62 [a, b]).2)) ∧ w.grownBy w' none := by
  refine (made_any 62 _ [a, b] _ (texts2 w a b) (by simp)).mono ?_
  rintro e w' ⟨rfl, hB⟩
  exact ⟨rfl, grownBy_alloc_pre (grown_of hB)⟩
theorem made44 (w : World) (a b : List UInt8) : Calls Tryz.prog 82 #[.int .u8 44, .slice (some ⟨w.heap.size, 0, none⟩) 2 2] (w.alloc (.cells #[.string (S a), .string (S b)] 9)) fun e w' => e = .returned (.string (S (Tp.mkF 44 [a, b]).2)) ∧ w.grownBy w' none := by
  refine (made_any 44 _ [a, b] _ (texts2 w a b) (by simp)).mono ?_
  rintro e w' ⟨rfl, hB⟩
  exact ⟨rfl, grownBy_alloc_pre (grown_of hB)⟩
theorem made108 (w : World) (a : List UInt8) : Calls Tryz.prog 82 #[.int .u8 108, .slice (some ⟨w.heap.size, 0, none⟩) 1 1] (w.alloc (.cells #[.string (S a)] 9)) fun e w' => e = .returned (.string (S (Tp.mkF 108 [a]).2)) ∧ w.grownBy w' none := by
  refine (made_any 108 _ [a] _ (texts1 w a) (by simp)).mono ?_
  rintro e w' ⟨rfl, hB⟩
  exact ⟨rfl, grownBy_alloc_pre (grown_of hB)⟩
theorem made120 (w : World) (a : List UInt8) : Calls Tryz.prog 82 #[.int .u8 120, .slice (some ⟨w.heap.size, 0, none⟩) 1 1] (w.alloc (.cells #[.string (S a)] 9)) fun e w' => e = .returned (.string (S (Tp.mkF 120 [a]).2)) ∧ w.grownBy w' none := by
  refine (made_any 120 _ [a] _ (texts1 w a) (by simp)).mono ?_
  rintro e w' ⟨rfl, hB⟩
  exact ⟨rfl, grownBy_alloc_pre (grown_of hB)⟩
theorem grownBy_more {a b c : World} {rb : Nat} (h : a.grownBy b (some rb)) (k : b.grownBy c none) : a.grownBy c (some rb) :=
  grownBy_high h k (fun x e => by cases e)

/-- What comes of a function's second part. -/
theorem fun_ends {w : World} {rb : Nat} {ws : ByteArray} {op : Nat} {wf : Nat → Tp.Res} {a : Tp.Ty} {q0 : Nat} {g : List UInt8} (hv : Val (wf (Tp.nx ws.data.toList q0)) g) (hst : St w rb ws op (wf (Tp.nx ws.data.toList q0))) :
    Ends w rb ws op (Tp.funF ws.data.toList wf a q0) (.returned (.string (S (Tp.mkF 62 [Tp.val a, g]).2))) := by
  refine ⟨_, rfl, Tp.mk_len _ _, ?_, ?_⟩
  · unfold Tp.funF
    revert hv
    cases wf (Tp.nx ws.data.toList q0) with
    | error e => exact fun _ => trivial
    | ok x =>
      obtain ⟨b, r⟩ := x
      intro hv
      obtain rfl : g = Tp.val b := hv
      exact Tp.made_val (.tf a b)
  · unfold Tp.funF
    revert hst
    cases wf (Tp.nx ws.data.toList q0) with
    | error e => exact id
    | ok x => exact id

set_option maxRecDepth 100000 in
set_option maxHeartbeats 2000000 in
theorem clo33_any (ws : ByteArray) (d : Nat) (hW : WholeC ws d) (a : Tp.Ty) (w : World) (rb q0 op R A : Nat) (h : RdAt w rb ws (Tp.nx ws.data.toList q0) op) (hd : op + d = 64)
    (hA : w.heap[A]? = some (.cells #[.string (S (Tp.val a))] 9 (0, 0))) (hR : w.heap[R]? = some (.cells #[.pointer (some ⟨rb, 0, none⟩)] 138 (0, 0))) (nA : A ≠ rb) :
    Calls Tryz.prog 81 #[.pointer (some ⟨A, 0, none⟩), .pointer (some ⟨R, 0, none⟩)] w fun e w' => Ends w' rb ws op (Tp.funF ws.data.toList (Tp.pr ws.data.toList d).1 a q0) e ∧ w.grownBy w' (some rb) := by
  have cA : w.cell? ⟨A, 0, none⟩ = some (.string (S (Tp.val a))) := by simp [World.cell?, hA]
  have cR : w.cell? ⟨R, 0, none⟩ = some (.pointer (some ⟨rb, 0, none⟩)) := by simp [World.cell?, hR]
  have hC := hW w rb _ op h hd
  clear hC
  go_enter Tryz.func81, Tryz.ntmps81
  go_wp2_with fail
  go_region_with (first | (go_at_call 67; refine (hW _ rb _ op (by exact h) hd).mono ?_; rintro e w1 ⟨⟨g, rfl, hg, hv, hst⟩, g1⟩; have cA1 : w1.cell? ⟨A, 0, none⟩ = some (.string (S (Tp.val a))) := grownBy_cell g1 nA cA) | (go_at_call 82; refine (made62 _ _ _).mono ?_; rintro e w2 ⟨rfl, g2⟩))
  all_goals (go_wp2_with fail; go_ret; exact ⟨fun_ends hv (hst.kept g2), grownBy_more (grownBy_of_drew g1) g2⟩)

theorem box_ends {w : World} {rb : Nat} {ws : ByteArray} {op : Nat} {wf : Nat → Tp.Res} {p : Nat} {g : List UInt8} (hv : Val (wf (Tp.nx ws.data.toList p)) g) (hst : St w rb ws op (wf (Tp.nx ws.data.toList p))) :
    Ends w rb ws op (Tp.boxF ws.data.toList wf p) (.returned (.string (S (Tp.mkF 120 [g]).2))) := by
  refine ⟨_, rfl, Tp.mk_len _ _, ?_, ?_⟩
  · unfold Tp.boxF
    revert hv
    cases wf (Tp.nx ws.data.toList p) with
    | error e => exact fun _ => trivial
    | ok x =>
      obtain ⟨b, r⟩ := x
      intro hv
      obtain rfl : g = Tp.val b := hv
      exact Tp.made_val (.tx b)
  · unfold Tp.boxF
    revert hst
    cases wf (Tp.nx ws.data.toList p) with
    | error e => exact id
    | ok x => exact id

set_option maxRecDepth 100000 in
set_option maxHeartbeats 2000000 in
theorem clo53_any (ws : ByteArray) (d : Nat) (hW : ArmC ws d) (w : World) (rb p op R : Nat) (h : RdAt w rb ws (Tp.nx ws.data.toList p) op) (hd : op + d = 64)
    (hR : w.heap[R]? = some (.cells #[.pointer (some ⟨rb, 0, none⟩)] 138 (0, 0))) :
    Calls Tryz.prog 91 #[.pointer (some ⟨R, 0, none⟩)] w fun e w' => Ends w' rb ws op (Tp.boxF ws.data.toList (Tp.pr ws.data.toList d).2 p) e ∧ w.grownBy w' (some rb) := by
  have cR : w.cell? ⟨R, 0, none⟩ = some (.pointer (some ⟨rb, 0, none⟩)) := by simp [World.cell?, hR]
  go_enter Tryz.func91, Tryz.ntmps91
  go_wp2_with (first | (go_at_call 79; refine (hW _ rb _ op (by exact h) hd).mono ?_; rintro e w1 ⟨⟨g, rfl, hg, hv, hst⟩, g1⟩) | (go_at_call 82; refine (made120 _ _).mono ?_; rintro e w2 ⟨rfl, g2⟩))
  go_ret
  exact ⟨box_ends hv (hst.kept g2), grownBy_more g1 g2⟩

theorem list_ends {w : World} {rb : Nat} {ws : ByteArray} {op : Nat} {wf : Nat → Tp.Res} {p : Nat} {g : List UInt8} (hv : Val (wf (Tp.nx ws.data.toList p)) g) {r : Tp.Res} (hr : Tp.listF ws.data.toList wf p = r) (hst : St w rb ws op r) :
    Ends w rb ws op (Tp.listF ws.data.toList wf p) (.returned (.string (S (Tp.mkF 108 [g]).2))) := by
  refine ⟨_, rfl, Tp.mk_len _ _, ?_, by rw [hr]; exact hst⟩
  clear hr hst
  unfold Tp.listF
  revert hv
  cases wf (Tp.nx ws.data.toList p) with
  | error e => exact fun _ => trivial
  | ok x =>
    obtain ⟨b, r⟩ := x
    intro hv
    obtain rfl : g = Tp.val b := hv
    show Val (Tp.close _ _ _ _) _
    unfold Tp.close
    split
    · exact Tp.made_val (.tl b)
    · trivial
theorem S_inj {a b : List UInt8} (h : S a = S b) : a = b := by have := congrArg (fun s => s.data.toList) h; exact this
theorem isE_93 : (⟨#[93]⟩ : ByteArray).toList.isEmpty = false := by rw [ByteArray.toList_eq]; rfl
theorem isE_41 : (⟨#[41]⟩ : ByteArray).toList.isEmpty = false := by rw [ByteArray.toList_eq]; rfl

/-- take, behind a reading: what the document's own closing says. -/
theorem take_close (w : World) (rb : Nat) (ws : ByteArray) (op : Nat) (hs : ws.size ≤ 2147483647) (c : UInt8) (q : Nat) (v : Tp.Ty) (h : RdAt w rb ws q op) :
    Calls Tryz.prog 89 #[.pointer (some ⟨rb, 0, none⟩), .string ⟨#[c]⟩] w fun e w' => e = .returned (.tuple #[]) ∧ St w' rb ws op (Tp.close ws.data.toList [c] q v) ∧ w.grownBy w' (some rb) := by
  unfold Tp.close
  by_cases ht : Tp.tk ws.data.toList q = [c]
  · rw [if_pos ht]
    exact take_ok w rb ws op q h hs ⟨#[c]⟩ (by rw [ht]; rfl)
  · rw [if_neg ht]
    exact take_no w rb ws op q h ⟨#[c]⟩ (fun e => ht (S_inj (b := [c]) e))

def thenClose (bs : List UInt8) (c : UInt8) (f : Tp.Ty → Tp.Ty) : Tp.Res → Tp.Res
  | .error e => .error e
  | .ok (a, q) => Tp.close bs [c] q (f a)
/-- take, behind whatever was read. -/
theorem take_after (w : World) (rb : Nat) (ws : ByteArray) (op : Nat) (hs : ws.size ≤ 2147483647) (c : UInt8) (r : Tp.Res) (f : Tp.Ty → Tp.Ty) (h : St w rb ws op r) :
    Calls Tryz.prog 89 #[.pointer (some ⟨rb, 0, none⟩), .string ⟨#[c]⟩] w fun e w' => e = .returned (.tuple #[]) ∧ St w' rb ws op (thenClose ws.data.toList c f r) ∧ w.grownBy w' (some rb) := by
  match r, h with
  | .error (e, p), h => exact take_bad w rb ws op e p h ⟨#[c]⟩ (by rw [ByteArray.toList_eq]; rfl)
  | .ok (a, q), h => exact take_close w rb ws op hs c q (f a) h

set_option maxRecDepth 100000 in
set_option maxHeartbeats 2000000 in
theorem clo52_any (ws : ByteArray) (d : Nat) (hs : ws.size ≤ 2147483647) (hW : WholeC ws d) (w : World) (rb p op R : Nat) (h : RdAt w rb ws (Tp.nx ws.data.toList p) op) (hd : op + d = 64)
    (hR : w.heap[R]? = some (.cells #[.pointer (some ⟨rb, 0, none⟩)] 138 (0, 0))) (nR : R ≠ rb) :
    Calls Tryz.prog 90 #[.pointer (some ⟨R, 0, none⟩)] w fun e w' => Ends w' rb ws op (Tp.listF ws.data.toList (Tp.pr ws.data.toList d).1 p) e ∧ w.grownBy w' (some rb) := by
  have cR : w.cell? ⟨R, 0, none⟩ = some (.pointer (some ⟨rb, 0, none⟩)) := by simp [World.cell?, hR]
  go_enter Tryz.func90, Tryz.ntmps90
  go_wp2_with (first | (go_at_call 67; refine (hW _ rb _ op (by exact h) hd).mono ?_; rintro e w1 ⟨⟨g, rfl, hg, hv, hst⟩, g1⟩) | (go_at_call 82; refine (made108 _ _).mono ?_; rintro e w2 ⟨rfl, g2⟩; have cR2 : w2.cell? ⟨R, 0, none⟩ = some (.pointer (some ⟨rb, 0, none⟩)) := grownBy_cell (grownBy_more g1 g2) nR cR) | (go_at_call 89; refine (take_after _ rb ws op hs 93 _ .tl (hst.kept g2)).mono ?_; rintro e w3 ⟨rfl, h3, g3⟩))
  go_ret
  refine ⟨list_ends hv ?_ h3, grownBy_trans (grownBy_more g1 g2) g3⟩
  unfold Tp.listF
  cases (Tp.pr ws.data.toList d).1 (Tp.nx ws.data.toList p) <;> rfl

theorem toList_S (l : List UInt8) : (S l).toList = l := by rw [ByteArray.toList_eq]; rfl
theorem pair_ends {w : World} {rb : Nat} {ws : ByteArray} {op : Nat} {wf : Nat → Tp.Res} {p : Nat} {a : Tp.Ty} {q : Nat} {g g2 : List UInt8} (h1 : wf (Tp.nx ws.data.toList p) = .ok (a, q)) (ht : Tp.tk ws.data.toList q = [44]) (hv1 : g = Tp.val a) (hv : Val (wf (Tp.nx ws.data.toList q)) g2)
    (hst : St w rb ws op (thenClose ws.data.toList 41 (.tp a) (wf (Tp.nx ws.data.toList q)))) :
    Ends w rb ws op (Tp.parenF ws.data.toList wf p) (.returned (.string (S (Tp.mkF 44 [g, g2]).2))) := by
  have e : Tp.parenF ws.data.toList wf p = thenClose ws.data.toList 41 (.tp a) (wf (Tp.nx ws.data.toList q)) := by
    unfold Tp.parenF
    rw [h1]
    show Tp.pairF _ _ _ _ = _
    unfold Tp.pairF
    rw [if_pos ht]
    cases wf (Tp.nx ws.data.toList q) <;> rfl
  rw [e]
  refine ⟨_, rfl, Tp.mk_len _ _, ?_, hst⟩
  subst hv1
  clear hst e
  revert hv
  cases wf (Tp.nx ws.data.toList q) with
  | error e => exact fun _ => trivial
  | ok x =>
    obtain ⟨b, r⟩ := x
    intro hv
    obtain rfl : g2 = Tp.val b := hv
    show Val (Tp.close _ _ _ _) _
    unfold Tp.close
    split
    · exact Tp.made_val (.tp a b)
    · trivial
theorem paren_ends {w : World} {rb : Nat} {ws : ByteArray} {op : Nat} {wf : Nat → Tp.Res} {p : Nat} {a : Tp.Ty} {q : Nat} {g : List UInt8} (h1 : wf (Tp.nx ws.data.toList p) = .ok (a, q)) (ht : Tp.tk ws.data.toList q ≠ [44]) (hl : g.length ≤ 64) (hv1 : g = Tp.val a)
    (hst : St w rb ws op (Tp.close ws.data.toList [41] q a)) :
    Ends w rb ws op (Tp.parenF ws.data.toList wf p) (.returned (.string (S g))) := by
  have e : Tp.parenF ws.data.toList wf p = Tp.close ws.data.toList [41] q a := by
    unfold Tp.parenF
    rw [h1]
    show Tp.pairF _ _ _ _ = _
    unfold Tp.pairF
    rw [if_neg ht]
  rw [e]
  refine ⟨_, rfl, hl, ?_, hst⟩
  unfold Tp.close
  split
  · exact hv1
  · trivial
theorem parenBad_ends {w : World} {rb : Nat} {ws : ByteArray} {op : Nat} {wf : Nat → Tp.Res} {p e1 e2 : Nat} {g : List UInt8} (h1 : wf (Tp.nx ws.data.toList p) = .error (e1, e2)) (hl : g.length ≤ 64)
    (hst : RdBad w rb ws op e1 e2) : Ends w rb ws op (Tp.parenF ws.data.toList wf p) (.returned (.string (S g))) := by
  have e : Tp.parenF ws.data.toList wf p = .error (e1, e2) := by
    unfold Tp.parenF
    rw [h1]
  rw [e]
  exact ⟨_, rfl, hl, trivial, hst⟩

set_option maxRecDepth 100000 in
set_option maxHeartbeats 4000000 in
theorem clo50_any (ws : ByteArray) (d : Nat) (hs : ws.size ≤ 2147483647) (hW : WholeC ws d) (w : World) (rb p op R : Nat) (h : RdAt w rb ws (Tp.nx ws.data.toList p) op) (hd : op + d = 64)
    (hR : w.heap[R]? = some (.cells #[.pointer (some ⟨rb, 0, none⟩)] 138 (0, 0))) (nR : R ≠ rb) :
    Calls Tryz.prog 88 #[.pointer (some ⟨R, 0, none⟩)] w fun e w' => Ends w' rb ws op (Tp.parenF ws.data.toList (Tp.pr ws.data.toList d).1 p) e ∧ w.grownBy w' (some rb) := by
  have cR : w.cell? ⟨R, 0, none⟩ = some (.pointer (some ⟨rb, 0, none⟩)) := by simp [World.cell?, hR]
  go_enter Tryz.func88, Tryz.ntmps88
  go_wp2_with fail
  refine (hW _ rb _ op (by exact h) hd).mono ?_
  rintro e w1 ⟨⟨g, rfl, hg, hv, hst⟩, g1⟩
  have cR1 : w1.cell? ⟨R, 0, none⟩ = some (.pointer (some ⟨rb, 0, none⟩)) := grownBy_cell g1 nR cR
  cases hr : (Tp.pr ws.data.toList d).1 (Tp.nx ws.data.toList p) with
  | error x =>
    obtain ⟨e1, e2⟩ := x
    rw [hr] at hst
    replace hst : RdBad w1 rb ws op e1 e2 := hst
    obtain ⟨-, c1, -, -, -⟩ := hst.1.c
    have hT := take_bad w1 rb ws op e1 e2 hst ⟨#[41]⟩ isE_41
    have HR : Aside _ := hr
    clear hr hv cR
    go_wp2_with (go_at_call 89; refine hT.mono ?_; rintro e w3 ⟨rfl, h3, g3⟩)
    go_ret
    exact ⟨parenBad_ends HR.out hg h3, grownBy_trans g1 g3⟩
  | ok x =>
    obtain ⟨a, q⟩ := x
    rw [hr] at hst hv
    replace hst : RdAt w1 rb ws q op := hst
    have HR : Aside _ := hr
    have HV : Aside (g = Tp.val a) := hv
    obtain ⟨-, c1, -, -, -⟩ := hst.1.c
    clear hr hv cR
    by_cases ht : Tp.tk ws.data.toList q = [44]
    · have HT : Aside _ := ht
      have hN := next_at w1 rb ws op q hst hs
      rw [ht] at c1
      have heq : ((S [44]).toList == [44]) = true := by rw [toList_S]; rfl
      generalize S [44] = tok at *
      go_wp2_with fail
      refine hN.mono ?_
      rintro e w2 ⟨rfl, h2, g2⟩
      have cR2 : w2.cell? ⟨R, 0, none⟩ = some (.pointer (some ⟨rb, 0, none⟩)) := grownBy_cell g2 nR cR1
      clear hN c1
      go_wp2_with (first | (go_at_call 67; refine (hW _ rb _ op (by exact h2) hd).mono ?_; rintro e w3 ⟨⟨g', rfl, hg', hv', hst'⟩, g3⟩) | (go_at_call 82; refine (made44 _ _ _).mono ?_; rintro e w4 ⟨rfl, g4⟩; have cR4 : w4.cell? ⟨R, 0, none⟩ = some (.pointer (some ⟨rb, 0, none⟩)) := grownBy_cell (grownBy_more g3 g4) nR cR2) | (go_at_call 89; refine (take_after _ rb ws op hs 41 _ (.tp a) (hst'.kept g4)).mono ?_; rintro e w5 ⟨rfl, h5, g5⟩))
      go_ret
      exact ⟨pair_ends HR.out HT.out HV.out hv' h5, grownBy_trans (grownBy_trans g1 g2) (grownBy_trans (grownBy_more g3 g4) g5)⟩
    · have hne : ((S (Tp.tk ws.data.toList q)).toList == [44]) = false := by rw [toList_S]; simpa using ht
      have HT : Aside _ := ht
      have hT := take_close w1 rb ws op hs 41 q a hst
      generalize S (Tp.tk ws.data.toList q) = tok at *
      go_wp2_with (go_at_call 89; refine hT.mono ?_; rintro e w3 ⟨rfl, h3, g3⟩)
      go_ret
      exact ⟨paren_ends HR.out HT.out hg HV.out h3, grownBy_trans g1 g3⟩
end Go.Proofs.YtncnkojbpdemdaaGreatDoor
