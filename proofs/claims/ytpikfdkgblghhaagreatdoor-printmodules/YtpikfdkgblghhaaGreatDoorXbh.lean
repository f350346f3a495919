/- Which modules may be: plain; what the program's Modules answers. What the program's Modules answers. -/
import Derived.Test.YtpikfdkgblghhaaGreatDoorXbg
import Derived.Test.YtpikfdkgblghhaaGreatDoorXas
import Derived.Deep.CutRange
import Derived.Deep.DeepCutAuto
namespace Go.Proofs.YtpikfdkgblghhaaGreatDoor
open Go.RowKit
set_option maxRecDepth 100000
set_option linter.unusedSimpArgs false

def imB (x : Im) : Bool := nameB x.frm.data.toList && nameB x.name.data.toList && noteB x.t.data.toList
def dfB (x : Df) : Bool := nameB x.name.data.toList && noteB x.t.data.toList
/-- What is wrong with defs, a module, modules: 0: nothing. -/
def chkDs : List Df → Nat
  | [] => 0
  | d :: r => if dfB d then (if (chkN d.tree).1 = 0 then chkDs r else (chkN d.tree).1) else 18
def chkM (m : Md) : Nat := if nameB m.name.data.toList then (if m.imps.all imB then chkDs m.defs else 18) else 18
def chkMs : List Md → Nat
  | [] => 0
  | m :: r => if chkM m = 0 then chkMs r else chkM m
def sumT : List Df → Nat
  | [] => 0
  | d :: r => d.tree.length + sumT r
def sumM : List Md → Nat
  | [] => 0
  | m :: r => sumT m.defs + sumM r
def big (m : Md) : Bool := decide (64 < m.imps.length + m.defs.length)
def modN (l : List Md) : Nat := if 8 < l.length then 17 else if l.any big then 17 else if chkMs l = 0 then (if 4096 < sumM l then 17 else 0) else chkMs l
/-- Modules that memory can hold. -/
structure FitsM (l : List Md) : Prop where
  len : l.length ≤ 2199023255552
  imps : ∀ m ∈ l, m.imps.length ≤ 2199023255552
  defs : ∀ m ∈ l, m.defs.length ≤ 2199023255552
  name : ∀ m ∈ l, m.name.size ≤ maxLen
  istr : ∀ m ∈ l, ∀ x ∈ m.imps, x.frm.size ≤ maxLen ∧ x.name.size ≤ maxLen ∧ x.t.size ≤ maxLen
  dstr : ∀ m ∈ l, ∀ x ∈ m.defs, x.name.size ≤ maxLen ∧ x.t.size ≤ maxLen
  tree : ∀ m ∈ l, ∀ x ∈ m.defs, Fits x.tree
theorem drop_at {α : Type} {l : List α} {k : Nat} {x : α} (h : l[k]? = some x) : l.drop k = x :: l.drop (k + 1) := by
  obtain ⟨h1, rfl⟩ := List.getElem?_eq_some_iff.1 h
  exact List.drop_eq_getElem_cons h1
theorem sumT_split : ∀ (l : List Df) (k : Nat), sumT l = sumT (l.take k) + sumT (l.drop k)
  | [], k => by simp [sumT]
  | d :: r, 0 => by simp [sumT]
  | d :: r, k + 1 => by simp only [List.take_succ_cons, List.drop_succ_cons, sumT]; have := sumT_split r k; omega
theorem sumM_split : ∀ (l : List Md) (k : Nat), sumM l = sumM (l.take k) + sumM (l.drop k)
  | [], k => by simp [sumM]
  | d :: r, 0 => by simp [sumM]
  | d :: r, k + 1 => by simp only [List.take_succ_cons, List.drop_succ_cons, sumM]; have := sumM_split r k; omega
theorem sumT_next {l : List Df} {k : Nat} {x : Df} (h : l[k]? = some x) : sumT (l.take (k + 1)) = sumT (l.take k) + x.tree.length := by
  have h1 := sumT_split l k
  have h2 := sumT_split l (k + 1)
  rw [drop_at h, sumT] at h1
  omega
theorem sumM_next {l : List Md} {k : Nat} {x : Md} (h : l[k]? = some x) : sumM (l.take (k + 1)) = sumM (l.take k) + sumT x.defs := by
  have h1 := sumM_split l k
  have h2 := sumM_split l (k + 1)
  rw [drop_at h, sumM] at h1
  omega
theorem sumT_le : ∀ (l : List Df), (∀ x ∈ l, x.tree.length ≤ 2199023255552) → sumT l ≤ l.length * 2199023255552
  | [], _ => by simp [sumT]
  | d :: r, h => by
    have h1 := sumT_le r (fun x hx => h x (List.mem_cons_of_mem _ hx))
    have h2 := h d (List.mem_cons_self ..)
    simp only [sumT, List.length_cons]; omega
theorem chkDs_next {l : List Df} {k : Nat} {x : Df} (h : l[k]? = some x) (h1 : dfB x = true) (h2 : (chkN x.tree).1 = 0) : chkDs (l.drop k) = chkDs (l.drop (k + 1)) := by rw [drop_at h, chkDs, if_pos h1, if_pos h2]
theorem chkDs_bad {l : List Df} {k : Nat} {x : Df} (h : l[k]? = some x) (h1 : dfB x = false) : chkDs (l.drop k) = 18 := by rw [drop_at h, chkDs, h1]; rfl
theorem chkDs_tree {l : List Df} {k : Nat} {x : Df} (h : l[k]? = some x) (h1 : dfB x = true) (h2 : (chkN x.tree).1 ≠ 0) : chkDs (l.drop k) = (chkN x.tree).1 := by rw [drop_at h, chkDs, if_pos h1, if_neg h2]
theorem imps_next {l : List Im} {k : Nat} {x : Im} (h : l[k]? = some x) : (l.drop k).all imB = (imB x && (l.drop (k + 1)).all imB) := by rw [drop_at h, List.all_cons]

set_option maxHeartbeats 8000000 in
theorem checkModule_any (m : Md) (hl : m.imps.length ≤ 2199023255552) (hl2 : m.defs.length ≤ 2199023255552) (hn : m.name.size ≤ maxLen) (hi : ∀ x ∈ m.imps, x.frm.size ≤ maxLen ∧ x.name.size ≤ maxLen ∧ x.t.size ≤ maxLen) (hd : ∀ x ∈ m.defs, x.name.size ≤ maxLen ∧ x.t.size ≤ maxLen) (ht : ∀ x ∈ m.defs, Fits x.tree) (ia da : Option Addr) (ic dc : Nat) (w : World) (hI : IsImps w (.slice ia m.imps.length ic) m.imps) (hD : IsDefs w (.slice da m.defs.length dc) m.defs) :
    Calls Tryz.prog 66 #[.agg #[.string m.name, .slice ia m.imps.length ic, .slice da m.defs.length dc, .int .i64 m.ln, .int .i64 m.co]] w fun e w' => e = .returned (.int .i64 (chkM m : Int)) ∧ Below w.heap.size w w' := by
  have hB0 : ∀ o1, Below w.heap.size w (w.alloc o1) := fun o1 => (Below.refl _ _).alloc (Nat.le_refl _) o1
  have HB0 : Aside (∀ o1 W, Below (w.alloc o1).heap.size (w.alloc o1) W → Below w.heap.size w W ∧ W.heap[w.heap.size]? = some o1) := fun o1 W h => ⟨(hB0 o1).trans (h.mono (by simp)), (h.block w.heap.size (by simp)).trans (heap_alloc_new _ _)⟩
  have hnm := isName_any m.name hn
  by_cases h1 : nameB m.name.data.toList = true
  · have HM : Aside (chkM m = if m.imps.all imB then chkDs m.defs else 18) := by show _ = _; unfold chkM; rw [if_pos h1]
    rw [h1] at hnm
    clear h1
    go_enter Tryz.func66, Tryz.ntmps66
    go_upto_region 3 with (go_at_call 102; refine (hnm _).mono ?_; rintro e w1 ⟨rfl, hB1⟩; obtain ⟨hA1, hblk⟩ := HB0.out _ _ hB1)
    have hbc := (block_cells hblk).1
    have hb1 : w1.cell? ⟨w.heap.size, 1, none⟩ = some (.slice ia m.imps.length ic) := hbc 1
    have hb2 : w1.cell? ⟨w.heap.size, 2, none⟩ = some (.slice da m.defs.length dc) := hbc 2
    have hws : w.heap.size < w1.heap.size := by have := hB1.size; simp at this; omega
    clear hbc hblk hnm
    go_wp2_with fail
    go_loopg [16] m.imps.length (fun g t wr => ∃ k : Nat, k + g = m.imps.length ∧ t = .int .i64 (k : Int) ∧ Below w1.heap.size w1 wr ∧ Aside (m.imps.all imB = (m.imps.drop k).all imB))
    case atStart => exact ⟨0, by omega, rfl, Below.refl _ _, rfl⟩
    case round =>
      obtain ⟨k, hkg, rfl, hB, HK⟩ := hrel
      have hsz := hB.size
      have hAr : Below w.heap.size w wr := hA1.trans (hB.mono hA1.size)
      by_cases hk : k < m.imps.length
      · have hk' : (k : Int) < (m.imps.length : Int) := by omega
        have hk0 : (0 : Int) ≤ (k : Int) := by omega
        obtain ⟨x, hx⟩ := getA hk
        obtain ⟨b1, o1, rfl, hlc, hb1', p0, p1, p2, p3, p4⟩ := (hI.below hAr).at hx
        obtain ⟨z1, z2, z3⟩ := hi x (List.mem_of_getElem? hx)
        have hn1 := isName_any x.frm z1
        have hn2 := isName_any x.name z2
        have hn3 := isAnn_any x.t
        have HN := imps_next hx
        have HC : Aside (∀ o1 W, Below (wr.alloc o1).heap.size (wr.alloc o1) W → Below w1.heap.size w1 W ∧ W.heap[wr.heap.size]? = some o1) := fun o1 W h => ⟨hB.trans (((Below.refl _ _).alloc (Nat.le_refl _) o1 |>.trans (h.mono (by simp))).mono hsz), (h.block wr.heap.size (by simp)).trans (heap_alloc_new _ _)⟩
        clear hI hD hi hd ht hx
        go_upto_region 6 with fail
        go_cut [35] (fun s wc => s = .bool (!imB x) ∧ Below w1.heap.size w1 wc)
        case first =>
          cases e1 : nameB x.frm.data.toList
          · rw [e1] at hn1
            have HR : Aside (imB x = false) := by show _ = _; unfold imB; rw [e1]; rfl
            go_wp2_with (go_at_call_of 102 x.frm; refine (hn1 _).mono ?_; rintro e w2 ⟨rfl, hB2⟩; obtain ⟨hA2, hblk2⟩ := HC.out _ _ hB2)
            go_meet
            case rel => exact ⟨by rw [HR.out]; rfl, hA2⟩
          · rw [e1] at hn1
            cases e2 : nameB x.name.data.toList
            · rw [e2] at hn2
              have HR : Aside (imB x = false) := by show _ = _; unfold imB; rw [e1, e2]; rfl
              go_wp2_with (first | (go_at_call_of 102 x.frm; refine (hn1 _).mono ?_; rintro e w2 ⟨rfl, hB2⟩; obtain ⟨hA2, hblk2⟩ := HC.out _ _ hB2; have r1 : w2.cell? ⟨wr.heap.size, 1, none⟩ = some (.string x.name) := (block_cells hblk2).1 1) | (go_at_call_of 102 x.name; refine (hn2 _).mono ?_; rintro e w3 ⟨rfl, hB3⟩))
              go_meet
              case rel => exact ⟨by rw [HR.out]; rfl, hA2.trans (hB3.mono hA2.size)⟩
            · rw [e2] at hn2
              have HR : Aside (imB x = noteB x.t.data.toList) := by show _ = _; unfold imB; rw [e1, e2]; rfl
              generalize noteB x.t.data.toList = q at hn3 HR
              go_wp2_with (first | (go_at_call_of 102 x.frm; refine (hn1 _).mono ?_; rintro e w2 ⟨rfl, hB2⟩; obtain ⟨hA2, hblk2⟩ := HC.out _ _ hB2; have r1 : w2.cell? ⟨wr.heap.size, 1, none⟩ = some (.string x.name) := (block_cells hblk2).1 1; have r2 : w2.cell? ⟨wr.heap.size, 2, none⟩ = some (.string x.t) := (block_cells hblk2).1 2; have hws2 : wr.heap.size < w2.heap.size := by (have := hB2.size; simp at this; omega)) | (go_at_call_of 102 x.name; refine (hn2 _).mono ?_; rintro e w3 ⟨rfl, hB3⟩; have r3 := (hB3.cell (p := ⟨wr.heap.size, 2, none⟩) hws2).trans r2) | (go_at_call 103; refine (hn3 _).mono ?_; rintro e w' ⟨rfl, hw'⟩; replace hw' := hw'.symm; subst hw'))
              go_meet
              case rel => exact ⟨by rw [HR.out], hA2.trans (hB3.mono hA2.size)⟩
        case rest =>
          obtain ⟨rfl, hBc⟩ := hcut
          cases e : imB x
          · have HR : Aside (chkM m = 18) := by show _ = _; rw [HM.out, HK.out, HN, e]; rfl
            go_wp2_with fail
            go_ret
            rw [HR.out]
            exact ⟨rfl, hA1.trans (hBc.mono hA1.size)⟩
          · have HR : Aside (m.imps.all imB = (m.imps.drop (k + 1)).all imB) := by show _ = _; rw [HK.out, HN, e]; rfl
            go_wp2_with fail
            go_roundg (m.imps.length - (k + 1))
            case measure => omega
            case rel => exact ⟨k + 1, by omega, by go_num, hBc, HR⟩
      · have hk' : ¬ (k : Int) < (m.imps.length : Int) := by omega
        have HD : Aside (chkM m = chkDs m.defs) := by
          show _ = _
          rw [HM.out, HK.out, List.drop_of_length_le (by omega)]; rfl
        have hb2r := (hB.cell (p := ⟨w.heap.size, 2, none⟩) hws).trans hb2
        clear HK HM hi hI hb1 hb2
        generalize hwr : wr = w2 at *
        clear hwr
        go_wp2_with fail
        go_loopg [40] m.defs.length (fun g t wr => ∃ k : Nat, k + g = m.defs.length ∧ t = .int .i64 (k : Int) ∧ Below w.heap.size w wr ∧ Aside (chkM m = chkDs (m.defs.drop k)))
        case atStart => exact ⟨0, by omega, rfl, hAr, HD⟩
        case round =>
          clear hB hAr hA1 hsz hB1 hws hkg hk hk'
          obtain ⟨k, hkg, rfl, hB, HK⟩ := hrel
          have hsz := hB.size
          by_cases hk : k < m.defs.length
          · have hk' : (k : Int) < (m.defs.length : Int) := by omega
            have hk0 : (0 : Int) ≤ (k : Int) := by omega
            obtain ⟨x, hx⟩ := getA hk
            obtain ⟨b1, o1, rfl, hlc, hb1', ta, tc, hnod, p0, p1, p2, p3, p4, p5⟩ := (hD.below hB).at hx
            obtain ⟨z1, z2⟩ := hd x (List.mem_of_getElem? hx)
            have hft := ht x (List.mem_of_getElem? hx)
            have hn1 := isName_any x.name z1
            have hn3 := isAnn_any x.t
            have HX : Aside (m.defs[k]? = some x) := hx
            have HC : Aside (∀ o1 W, Below (wr.alloc o1).heap.size (wr.alloc o1) W → Below wr.heap.size wr W ∧ W.heap[wr.heap.size]? = some o1) := fun o1 W h => ⟨(Below.refl _ _).alloc (Nat.le_refl _) o1 |>.trans (h.mono (by simp)), (h.block wr.heap.size (by simp)).trans (heap_alloc_new _ _)⟩
            clear hD hd ht hx
            go_upto_region 12 with fail
            go_cut [53] (fun s wc => s = .bool (!dfB x) ∧ Below wr.heap.size wr wc ∧ wr.heap.size < wc.heap.size ∧ wc.cell? ⟨wr.heap.size, 3, none⟩ = some (.slice ta x.tree.length tc))
            case first =>
              cases e1 : nameB x.name.data.toList
              · rw [e1] at hn1
                have HR : Aside (dfB x = false) := by show _ = _; unfold dfB; rw [e1]; rfl
                go_wp2_with (go_at_call 102; refine (hn1 _).mono ?_; rintro e w2 ⟨rfl, hB2⟩; obtain ⟨hA2, hblk2⟩ := HC.out _ _ hB2)
                go_meet
                case rel => exact ⟨by rw [HR.out]; rfl, hA2, by have := hB2.size; simp at this; omega, (block_cells hblk2).1 3⟩
              · rw [e1] at hn1
                have HR : Aside (dfB x = noteB x.t.data.toList) := by show _ = _; unfold dfB; rw [e1]; rfl
                generalize noteB x.t.data.toList = q at hn3 HR
                go_wp2_with (first | (go_at_call 102; refine (hn1 _).mono ?_; rintro e w2 ⟨rfl, hB2⟩; obtain ⟨hA2, hblk2⟩ := HC.out _ _ hB2; have r2 : w2.cell? ⟨wr.heap.size, 2, none⟩ = some (.string x.t) := (block_cells hblk2).1 2) | (go_at_call 103; refine (hn3 _).mono ?_; rintro e w' ⟨rfl, hw'⟩; replace hw' := hw'.symm; subst hw'))
                go_meet
                case rel => exact ⟨by rw [HR.out], hA2, by have := hB2.size; simp at this; omega, (block_cells hblk2).1 3⟩
            case rest =>
              obtain ⟨rfl, hBc, hlt, hc3⟩ := hcut
              have hAc : Below w.heap.size w wc := hB.trans (hBc.mono hsz)
              cases e : dfB x
              · have HR : Aside (chkM m = 18) := by show _ = _; rw [HK.out, chkDs_bad HX.out e]
                go_wp2_with fail
                go_ret
                rw [HR.out]
                exact ⟨rfl, hAc⟩
              · have hck := treeCheck_any x.tree hft _ wc (hnod.below hBc)
                by_cases h0 : (chkN x.tree).1 = 0
                · have HR : Aside (chkM m = chkDs (m.defs.drop (k + 1))) := by show _ = _; rw [HK.out, chkDs_next HX.out e h0]
                  rw [h0] at hck
                  generalize ((chkN x.tree).2 : Int) = r2 at hck
                  clear h0 HK HC
                  go_wp2_with (go_at_call 25; refine hck.mono ?_; rintro e w3 ⟨rfl, hB3⟩)
                  go_roundg (m.defs.length - (k + 1))
                  case measure => omega
                  case rel => exact ⟨k + 1, by omega, by go_num, hAc.trans (hB3.mono hAc.size), HR⟩
                · have HR : Aside (chkM m = (chkN x.tree).1) := by show _ = _; rw [HK.out, chkDs_tree HX.out e h0]
                  have h0' : (((chkN x.tree).1 : Int) != 0) = true := by simpa using h0
                  generalize ((chkN x.tree).2 : Int) = r2 at hck
                  clear h0 HK HC
                  go_wp2_with (go_at_call 25; refine hck.mono ?_; rintro e w3 ⟨rfl, hB3⟩)
                  go_ret
                  rw [HR.out]
                  exact ⟨rfl, hAc.trans (hB3.mono hAc.size)⟩
          · have hk' : ¬ (k : Int) < (m.defs.length : Int) := by omega
            have HR : Aside (chkM m = 0) := by show _ = _; rw [HK.out, List.drop_of_length_le (by omega)]; rfl
            go_wp2_with fail
            go_ret
            rw [HR.out]
            exact ⟨rfl, hB⟩
  · have h1' : nameB m.name.data.toList = false := by simpa using h1
    have HM : Aside (chkM m = 18) := by show _ = _; unfold chkM; rw [if_neg h1]
    rw [h1'] at hnm
    clear h1 h1'
    go_enter Tryz.func66, Tryz.ntmps66
    go_wp2_with (go_at_call 102; refine (hnm _).mono ?_; rintro e w1 ⟨rfl, hB1⟩; obtain ⟨hA1, hblk⟩ := HB0.out _ _ hB1)
    go_ret
    rw [HM.out]
    exact ⟨rfl, hA1⟩
end Go.Proofs.YtpikfdkgblghhaaGreatDoor
namespace Go.Proofs.YtpikfdkgblghhaaGreatDoor
open Go.RowKit
set_option maxRecDepth 100000
set_option linter.unusedSimpArgs false

theorem sumM_le : ∀ (l : List Md), (∀ m ∈ l, big m = false) → (∀ m ∈ l, ∀ x ∈ m.defs, x.tree.length ≤ 2199023255552) → sumM l ≤ l.length * 140737488355328
  | [], _, _ => by simp [sumM]
  | m :: r, h, h' => by
    have h1 := sumM_le r (fun x hx => h x (List.mem_cons_of_mem _ hx)) (fun x hx => h' x (List.mem_cons_of_mem _ hx))
    have h2 := h m (List.mem_cons_self ..)
    have h3 := sumT_le m.defs (h' m (List.mem_cons_self ..))
    simp [big] at h2
    have h4 : m.defs.length * 2199023255552 ≤ 64 * 2199023255552 := Nat.mul_le_mul_right _ (by omega)
    simp only [sumM, List.length_cons]; omega
theorem sumT_mono (l : List Df) (k : Nat) : sumT (l.take k) ≤ sumT l := by have := sumT_split l k; omega
theorem sumM_mono (l : List Md) (k : Nat) : sumM (l.take k) ≤ sumM l := by have := sumM_split l k; omega
theorem any_big {l : List Md} (h : ∀ j x, j < l.length → l[j]? = some x → big x = false) : l.any big = false := by
  rw [List.any_eq_false]
  intro x hx
  obtain ⟨j, hj⟩ := List.getElem?_of_mem hx
  rw [h j x (List.getElem?_eq_some_iff.1 hj).1 hj]
  simp
theorem some_big {l : List Md} {k : Nat} {x : Md} (hx : l[k]? = some x) (h : big x = true) : l.any big = true := List.any_eq_true.2 ⟨x, List.mem_of_getElem? hx, h⟩
theorem chkMs_next {l : List Md} {k : Nat} {x : Md} (h : l[k]? = some x) (h1 : chkM x = 0) : chkMs (l.drop k) = chkMs (l.drop (k + 1)) := by rw [drop_at h, chkMs, if_pos h1]
theorem chkMs_bad {l : List Md} {k : Nat} {x : Md} (h : l[k]? = some x) (h1 : chkM x ≠ 0) : chkMs (l.drop k) = chkM x := by rw [drop_at h, chkMs, if_neg h1]
theorem modN_many {l : List Md} (h : 8 < l.length) : modN l = 17 := by unfold modN; rw [if_pos h]
theorem modN_big {l : List Md} (h : ¬ 8 < l.length) (h2 : l.any big = true) : modN l = 17 := by unfold modN; rw [if_neg h, if_pos h2]
theorem modN_bad {l : List Md} (h : ¬ 8 < l.length) (h2 : l.any big = false) (h3 : chkMs l ≠ 0) : modN l = chkMs l := by unfold modN; rw [if_neg h, if_neg (by simp [h2]), if_neg h3]
theorem modN_fin {l : List Md} (h : ¬ 8 < l.length) (h2 : l.any big = false) (h3 : chkMs l = 0) : modN l = if 4096 < sumM l then 17 else 0 := by unfold modN; rw [if_neg h, if_neg (by simp [h2]), if_pos h3]

set_option maxHeartbeats 8000000 in
theorem treeModules_any (l : List Md) (hf : FitsM l) (v : Value) (w : World) (hl : IsMods w v l) :
    Calls Tryz.prog 33 #[v] w fun e w' => e = .returned (.int .i64 (modN l : Int)) ∧ Below w.heap.size w w' := by
  obtain ⟨a, c, rfl⟩ := RowOf.form hl
  by_cases h8 : 8 < l.length
  · have h8' : (8 : Int) < (l.length : Int) := by omega
    have HR : Aside (modN l = 17) := modN_many h8
    go_enter Tryz.func33, Tryz.ntmps33
    go_wp2_with fail
    go_ret
    rw [HR.out]
    exact ⟨rfl, Below.refl _ _⟩
  have h8' : decide ((8 : Int) < (l.length : Int)) = false := by simp; omega
  have HF : Aside (FitsM l) := hf
  have hl8 : l.length ≤ 8 := by omega
  clear h8 hf
  go_enter Tryz.func33, Tryz.ntmps33
  go_wp2_with fail
  clear h8'
  go_loopg [3, 16] l.length (fun g z t wr => ∃ k n : Nat, k + g = l.length ∧ t = .int .i64 (k : Int) ∧ z = .int .i64 (n : Int) ∧ n ≤ 1125899906842624 ∧ Below w.heap.size w wr ∧ Aside (n = sumM (l.take k) ∧ ∀ j x, j < k → l[j]? = some x → big x = false))
  case atStart => exact ⟨0, 0, by omega, rfl, rfl, by omega, Below.refl _ _, by simp [sumM], fun j x hj => absurd hj (by omega)⟩
  case round =>
    obtain ⟨k, n, hkg, rfl, rfl, hn, hB, HK⟩ := hrel
    have hws := hB.size
    by_cases hk : k < l.length
    · have hk' : (k : Int) < (l.length : Int) := by omega
      have hk0 : (0 : Int) ≤ (k : Int) := by omega
      obtain ⟨x, hx⟩ := getA hk
      have hxm := List.mem_of_getElem? hx
      obtain ⟨b1, o1, rfl, hlc, hb1, ia, ic, da, dc, hI, hD, p0, p1, p2, p3, p4⟩ := (hl.below hB).at hx
      have hil := HF.out.imps x hxm
      have hdl := HF.out.defs x hxm
      have htl : ∀ d ∈ x.defs, d.tree.length ≤ 2199023255552 := fun d hd => (HF.out.tree x hxm d hd).len
      by_cases hbg : 64 < x.imps.length + x.defs.length
      · have hbg' : (64 : Int) < (x.imps.length : Int) + (x.defs.length : Int) := by omega
        have HR : Aside (modN l = 17) := modN_big (by omega) (some_big hx (by unfold big; simpa using hbg))
        clear hx hl hI hD htl
        go_wp2_with fail
        go_ret
        rw [HR.out]
        exact ⟨rfl, hB.alloc hws _⟩
      · have hbg' : decide ((64 : Int) < (x.imps.length : Int) + (x.defs.length : Int)) = false := by simp; omega
        have HBG : Aside (∀ j y, j < k + 1 → l[j]? = some y → big y = false) := fun j y hj hy => by
          by_cases e : j = k
          · subst e; rw [hx] at hy; cases hy; unfold big; simpa using hbg
          · exact HK.out.2 j y (by omega) hy
        have hST : sumT x.defs ≤ 140737488355328 := by
          have h1 := sumT_le x.defs htl
          have h2 : x.defs.length * 2199023255552 ≤ 64 * 2199023255552 := Nat.mul_le_mul_right _ (by omega)
          omega
        have HN : Aside (n + sumT x.defs = sumM (l.take (k + 1))) := by show _ = _; rw [sumM_next hx, ← HK.out.1]
        have HLE : Aside (sumM (l.take (k + 1)) ≤ 1125899906842624) := by
          show _ ≤ _
          have h1 := sumM_le (l.take (k + 1)) (fun m hm => by
            obtain ⟨j, hj⟩ := List.getElem?_of_mem hm
            have hj' : j < k + 1 := by have := (List.getElem?_eq_some_iff.1 hj).1; simp at this; omega
            rw [List.getElem?_take, if_pos hj'] at hj
            exact HBG.out j m hj' hj) (fun m hm d hd => (HF.out.tree m (List.mem_of_mem_take hm) d hd).len)
          have h2 : (l.take (k + 1)).length ≤ 8 := by simp; omega
          have h3 : (l.take (k + 1)).length * 140737488355328 ≤ 8 * 140737488355328 := Nat.mul_le_mul_right _ h2
          omega
        have hB1 : ∀ o, Below w.heap.size w (wr.alloc o) := fun o => hB.alloc hws o
        have hD1 : ∀ o, IsDefs (wr.alloc o) (.slice da x.defs.length dc) x.defs := fun o => hD.below ((Below.refl _ _).alloc (Nat.le_refl _) o)
        clear HK hx hl hI
        go_upto_region 10 with fail
        have hBn := hB1 (.cells #[.string x.name, .slice ia x.imps.length ic, .slice da x.defs.length dc, .int .i64 x.ln, .int .i64 x.co] 58)
        have hDn := hD1 (.cells #[.string x.name, .slice ia x.imps.length ic, .slice da x.defs.length dc, .int .i64 x.ln, .int .i64 x.co] 58)
        clear hB1 hD1 hD hB hbg hbg' p0 p1 p2 p3 p4
        generalize wr.alloc (.cells #[.string x.name, .slice ia x.imps.length ic, .slice da x.defs.length dc, .int .i64 x.ln, .int .i64 x.co] 58) = w2 at *
        go_loopg [3, 31] x.defs.length (fun g z t w3 => ∃ j m : Nat, j + g = x.defs.length ∧ t = .int .i64 (j : Int) ∧ z = .int .i64 (m : Int) ∧ m ≤ n + 140737488355328 ∧ Below w2.heap.size w2 w3 ∧ Aside (m = n + sumT (x.defs.take j)))
        case atStart => exact ⟨0, n, by omega, rfl, rfl, by omega, Below.refl _ _, by show _ = _; simp [sumT]⟩
        case round =>
          obtain ⟨j, m, hjg, rfl, rfl, hm, hB3, HJ⟩ := hrel
          by_cases hj : j < x.defs.length
          · have hj' : (j : Int) < (x.defs.length : Int) := by omega
            have hj0 : (0 : Int) ≤ (j : Int) := by omega
            obtain ⟨y, hy⟩ := getA hj
            obtain ⟨b2, o2, rfl, hlc2, hb2, ta, tc, hnod, q0, q1, q2, q3, q4, q5⟩ := (hDn.below hB3).at hy
            have hyl := htl y (List.mem_of_getElem? hy)
            have HJ2 : Aside (m + y.tree.length = n + sumT (x.defs.take (j + 1))) := by show _ = _; rw [sumT_next hy, HJ.out]; omega
            have hm2 : m + y.tree.length ≤ n + 140737488355328 := by have h1 := sumT_mono x.defs (j + 1); have := HJ2.out; omega
            have hB4 : ∀ o, Below w2.heap.size w2 (wr.alloc o) := fun o => hB3.alloc hB3.size o
            clear hnod hy HJ hDn htl
            go_wp2_with fail
            go_roundg (x.defs.length - (j + 1))
            case measure => omega
            case rel => exact ⟨j + 1, m + y.tree.length, by omega, by go_num, by go_num, hm2, hB4 _, HJ2⟩
          · have hj' : ¬ (j : Int) < (x.defs.length : Int) := by omega
            have HE : Aside (m = sumM (l.take (k + 1))) := by show _ = _; rw [HJ.out, List.take_of_length_le (by omega), HN.out]
            have hm2 : m ≤ 1125899906842624 := by have := HE.out; have := HLE.out; omega
            clear HJ HN HLE
            go_wp2_with fail
            go_roundg (l.length - (k + 1))
            case measure => omega
            case rel => exact ⟨k + 1, m, by omega, by go_num, rfl, hm2, hBn.trans (hB3.mono hBn.size), HE.out, HBG.out⟩
    · have hk' : ¬ (k : Int) < (l.length : Int) := by omega
      have HNB : Aside (l.any big = false) := any_big fun j x hj hx => HK.out.2 j x (by omega) hx
      have HNN : Aside (n = sumM l) := by have := HK.out.1; rwa [List.take_of_length_le (by omega)] at this
      clear HK
      go_wp2_with fail
      go_loopg [44] l.length (fun g t w3 => ∃ j : Nat, j + g = l.length ∧ t = .int .i64 (j : Int) ∧ Below w.heap.size w w3 ∧ Aside (chkMs l = chkMs (l.drop j)))
      case atStart => exact ⟨0, by omega, rfl, hB, rfl⟩
      case round =>
        clear hB hws hkg hk hk'
        obtain ⟨j, hjg, rfl, hB, HJ⟩ := hrel
        have hws := hB.size
        by_cases hj : j < l.length
        · have hj' : (j : Int) < (l.length : Int) := by omega
          have hj0 : (0 : Int) ≤ (j : Int) := by omega
          obtain ⟨x, hx⟩ := getA hj
          have hxm := List.mem_of_getElem? hx
          obtain ⟨b1, o1, rfl, hlc, hb1, ia, ic, da, dc, hI, hD, p0, p1, p2, p3, p4⟩ := (hl.below hB).at hx
          have hB1 : ∀ o, Below wr.heap.size wr (wr.alloc o) := fun o => (Below.refl _ _).alloc (Nat.le_refl _) o
          have hcm := fun o => checkModule_any x (HF.out.imps x hxm) (HF.out.defs x hxm) (HF.out.name x hxm) (HF.out.istr x hxm) (HF.out.dstr x hxm) (HF.out.tree x hxm) ia da ic dc (wr.alloc o) (hI.below (hB1 o)) (hD.below (hB1 o))
          by_cases h0 : chkM x = 0
          · have HR : Aside (chkMs l = chkMs (l.drop (j + 1))) := by show _ = _; rw [HJ.out, chkMs_next hx h0]
            rw [h0] at hcm
            clear h0 HJ hx hl hI hD
            go_wp2_with (go_at_call 66; refine (hcm _).mono ?_; rintro e w4 ⟨rfl, hB4⟩)
            go_roundg (l.length - (j + 1))
            case measure => omega
            case rel => exact ⟨j + 1, by omega, by go_num, hB.trans (((hB1 _).trans (hB4.mono (by simp))).mono hws), HR⟩
          · have HR : Aside (modN l = chkM x) := by
              have h1 : chkMs l = chkM x := by rw [HJ.out, chkMs_bad hx h0]
              show _ = _
              rw [modN_bad (by omega) HNB.out (by rw [h1]; exact h0), h1]
            have h0' : ((chkM x : Int) != 0) = true := by simpa using h0
            clear h0 HJ hx hl hI hD
            go_wp2_with (go_at_call 66; refine (hcm _).mono ?_; rintro e w4 ⟨rfl, hB4⟩)
            go_ret
            rw [HR.out]
            exact ⟨rfl, hB.trans (((hB1 _).trans (hB4.mono (by simp))).mono hws)⟩
        · have hj' : ¬ (j : Int) < (l.length : Int) := by omega
          have HR : Aside (modN l = if 4096 < n then 17 else 0) := by
            show _ = _
            rw [modN_fin (by omega) HNB.out (by rw [HJ.out, List.drop_of_length_le (by omega)]; rfl), HNN.out]
          by_cases h4 : 4096 < n
          · have h4' : (4096 : Int) < (n : Int) := by omega
            go_wp2_with fail
            go_ret
            rw [HR.out, if_pos h4]
            exact ⟨rfl, hB⟩
          · have h4' : decide ((4096 : Int) < (n : Int)) = false := by simp; omega
            go_wp2_with fail
            go_ret
            rw [HR.out, if_neg h4]
            exact ⟨rfl, hB⟩
end Go.Proofs.YtpikfdkgblghhaaGreatDoor
