/- Which modules may be: plain; what the program's Modules answers. -/
import Derived.Test.YtpikfdkgblghhaaGreatDoorUbj
import Derived.Test.YtpikfdkgblghhaaGreatDoorUas
import Derived.Deep.CutRange
import Derived.Deep.DeepCutAuto
namespace Go.Proofs.YtpikfdkgblghhaaGreatDoor
open Go.RowKit
set_option maxRecDepth 100000
set_option linter.unusedSimpArgs false

def imB (x : Im) : Bool := nameB x.frm.data.toList && nameB x.name.data.toList && noteB x.t.data.toList
def dfB (x : Df) : Bool := nameB x.name.data.toList && noteB x.t.data.toList
/-- What is wrong with defs, a module, modules: 0: nothing. -/
def chkDs : List Df → Nat
  | [] => 0
  | d :: r => if dfB d then (if (chkN d.tree).1 = 0 then chkDs r else (chkN d.tree).1) else 18
def chkM (m : Md) : Nat := if nameB m.name.data.toList then (if m.imps.all imB then chkDs m.defs else 18) else 18
def chkMs : List Md → Nat
  | [] => 0
  | m :: r => if chkM m = 0 then chkMs r else chkM m
def sumT : List Df → Nat
  | [] => 0
  | d :: r => d.tree.length + sumT r
def sumM : List Md → Nat
  | [] => 0
  | m :: r => sumT m.defs + sumM r
def big (m : Md) : Bool := decide (64 < m.imps.length + m.defs.length)
def modN (l : List Md) : Nat := if 8 < l.length then 17 else if l.any big then 17 else if chkMs l = 0 then (if 4096 < sumM l then 17 else 0) else chkMs l
/-- Modules that memory can hold. -/
structure FitsM (l : List Md) : Prop where
  len : l.length ≤ 2199023255552
  imps : ∀ m ∈ l, m.imps.length ≤ 2199023255552
  defs : ∀ m ∈ l, m.defs.length ≤ 2199023255552
  name : ∀ m ∈ l, m.name.size ≤ maxLen
  istr : ∀ m ∈ l, ∀ x ∈ m.imps, x.frm.size ≤ maxLen ∧ x.name.size ≤ maxLen ∧ x.t.size ≤ maxLen
  dstr : ∀ m ∈ l, ∀ x ∈ m.defs, x.name.size ≤ maxLen ∧ x.t.size ≤ maxLen
  tree : ∀ m ∈ l, ∀ x ∈ m.defs, Fits x.tree
theorem drop_at {α : Type} {l : List α} {k : Nat} {x : α} (h : l[k]? = some x) : l.drop k = x :: l.drop (k + 1) := by
  obtain ⟨h1, rfl⟩ := List.getElem?_eq_some_iff.1 h
  exact List.drop_eq_getElem_cons h1
theorem sumT_split : ∀ (l : List Df) (k : Nat), sumT l = sumT (l.take k) + sumT (l.drop k)
  | [], k => by simp [sumT]
  | d :: r, 0 => by simp [sumT]
  | d :: r, k + 1 => by simp only [List.take_succ_cons, List.drop_succ_cons, sumT]; have := sumT_split r k; omega
theorem sumM_split : ∀ (l : List Md) (k : Nat), sumM l = sumM (l.take k) + sumM (l.drop k)
  | [], k => by simp [sumM]
  | d :: r, 0 => by simp [sumM]
  | d :: r, k + 1 => by simp only [List.take_succ_cons, List.drop_succ_cons, sumM]; have := sumM_split r k; omega
theorem sumT_next {l : List Df} {k : Nat} {x : Df} (h : l[k]? = some x) : sumT (l.take (k + 1)) = sumT (l.take k) + x.tree.length := by
  have h1 := sumT_split l k
  have h2 := sumT_split l (k + 1)
  rw [drop_at h, sumT] at h1
  omega
theorem sumM_next {l : List Md} {k : Nat} {x : Md} (h : l[k]? = some x) : sumM (l.take (k + 1)) = sumM (l.take k) + sumT x.defs := by
  have h1 := sumM_split l k
  have h2 := sumM_split l (k + 1)
  rw [drop_at h, sumM] at h1
  omega
theorem sumT_le : ∀ (l : List Df), (∀ x ∈ l, x.tree.length ≤ 2199023255552) → sumT l ≤ l.length * 2199023255552
  | [], _ => by simp [sumT]
  | d :: r, h => by
    have h1 := sumT_le r (fun x hx => h x (List.mem_cons_of_mem _ hx))
    have h2 := h d (List.mem_cons_self ..)
    simp only [sumT, List.length_cons]; omega
theorem chkDs_next {l : List Df} {k : Nat} {x : Df} (h : l[k]? = some x) (h1 : dfB x = true) (h2 : (chkN x.tree).1 = 0) : chkDs (l.drop k) = chkDs (l.drop (k + 1)) := by rw [drop_at h, chkDs, if_pos h1, if_pos h2]
theorem chkDs_bad {l : List Df} {k : Nat} {x : Df} (h : l[k]? = some x) (h1 : dfB x = false) : chkDs (l.drop k) = 18 := by rw [drop_at h, chkDs, h1]; rfl
theorem chkDs_tree {l : List Df} {k : Nat} {x : Df} (h : l[k]? = some x) (h1 : dfB x = true) (h2 : (chkN x.tree).1 ≠ 0) : chkDs (l.drop k) = (chkN x.tree).1 := by rw [drop_at h, chkDs, if_pos h1, if_neg h2]
theorem imps_next {l : List Im} {k : Nat} {x : Im} (h : l[k]? = some x) : (l.drop k).all imB = (imB x && (l.drop (k + 1)).all imB) := by rw [drop_at h, List.all_cons]

set_option maxHeartbeats 8000000 in
theorem checkModule_any (m : Md) (hl : m.imps.length ≤ 2199023255552) (hl2 : m.defs.length ≤ 2199023255552) (hn : m.name.size ≤ maxLen) (hi : ∀ x ∈ m.imps, x.frm.size ≤ maxLen ∧ x.name.size ≤ maxLen ∧ x.t.size ≤ maxLen) (hd : ∀ x ∈ m.defs, x.name.size ≤ maxLen ∧ x.t.size ≤ maxLen) (ht : ∀ x ∈ m.defs, Fits x.tree) (ia da : Option Addr) (ic dc : Nat) (w : World) (hI : IsImps w (.slice ia m.imps.length ic) m.imps) (hD : IsDefs w (.slice da m.defs.length dc) m.defs) :
    Calls Tryz.prog 66 #[.agg #[.string m.name, .slice ia m.imps.length ic, .slice da m.defs.length dc, .int .i64 m.ln, .int .i64 m.co]] w fun e w' => e = .returned (.int .i64 (chkM m : Int)) ∧ Below w.heap.size w w' := by
  have hB0 : ∀ o1, Below w.heap.size w (w.alloc o1) := fun o1 => (Below.refl _ _).alloc (Nat.le_refl _) o1
  have HB0 : Aside (∀ o1 W, Below (w.alloc o1).heap.size (w.alloc o1) W → Below w.heap.size w W ∧ W.heap[w.heap.size]? = some o1) := fun o1 W h => ⟨(hB0 o1).trans (h.mono (by simp)), (h.block w.heap.size (by simp)).trans (heap_alloc_new _ _)⟩
  have hnm := isName_any m.name hn
  by_cases h1 : nameB m.name.data.toList = true
  · have HM : Aside (chkM m = if m.imps.all imB then chkDs m.defs else 18) := by show _ = _; unfold chkM; rw [if_pos h1]
    rw [h1] at hnm
    clear h1
    go_enter Tryz.func66, Tryz.ntmps66
    go_upto_region 3 with (go_at_call 102; refine (hnm _).mono ?_; rintro e w1 ⟨rfl, hB1⟩; obtain ⟨hA1, hblk⟩ := HB0.out _ _ hB1)
    have hbc := (block_cells hblk).1
    have hb1 : w1.cell? ⟨w.heap.size, 1, none⟩ = some (.slice ia m.imps.length ic) := hbc 1
    have hb2 : w1.cell? ⟨w.heap.size, 2, none⟩ = some (.slice da m.defs.length dc) := hbc 2
    have hws : w.heap.size < w1.heap.size := by have := hB1.size; simp at this; omega
    clear hbc hblk hnm
    go_wp2_with fail
    go_loopg [16] m.imps.length (fun g t wr => ∃ k : Nat, k + g = m.imps.length ∧ t = .int .i64 (k : Int) ∧ Below w1.heap.size w1 wr ∧ Aside (m.imps.all imB = (m.imps.drop k).all imB))
    case atStart => exact ⟨0, by omega, rfl, Below.refl _ _, rfl⟩
    case round =>
      obtain ⟨k, hkg, rfl, hB, HK⟩ := hrel
      have hsz := hB.size
      have hAr : Below w.heap.size w wr := hA1.trans (hB.mono hA1.size)
      by_cases hk : k < m.imps.length
      · have hk' : (k : Int) < (m.imps.length : Int) := by omega
        have hk0 : (0 : Int) ≤ (k : Int) := by omega
        obtain ⟨x, hx⟩ := getA hk
        obtain ⟨b1, o1, rfl, hlc, hb1', p0, p1, p2, p3, p4⟩ := (hI.below hAr).at hx
        obtain ⟨z1, z2, z3⟩ := hi x (List.mem_of_getElem? hx)
        have hn1 := isName_any x.frm z1
        have hn2 := isName_any x.name z2
        have hn3 := isAnn_any x.t
        have HN := imps_next hx
        have HC : Aside (∀ o1 W, Below (wr.alloc o1).heap.size (wr.alloc o1) W → Below w1.heap.size w1 W ∧ W.heap[wr.heap.size]? = some o1) := fun o1 W h => ⟨hB.trans (((Below.refl _ _).alloc (Nat.le_refl _) o1 |>.trans (h.mono (by simp))).mono hsz), (h.block wr.heap.size (by simp)).trans (heap_alloc_new _ _)⟩
        clear hI hD hi hd ht hx
        go_upto_region 6 with fail
        go_cut [35] (fun s wc => s = .bool (!imB x) ∧ Below w1.heap.size w1 wc)
        case first =>
          cases e1 : nameB x.frm.data.toList
          · rw [e1] at hn1
            have HR : Aside (imB x = false) := by show _ = _; unfold imB; rw [e1]; rfl
            go_wp2_with (go_at_call_of 102 x.frm; refine (hn1 _).mono ?_; rintro e w2 ⟨rfl, hB2⟩; obtain ⟨hA2, hblk2⟩ := HC.out _ _ hB2)
            go_meet
            case rel => exact ⟨by rw [HR.out]; rfl, hA2⟩
          · rw [e1] at hn1
            cases e2 : nameB x.name.data.toList
            · rw [e2] at hn2
              have HR : Aside (imB x = false) := by show _ = _; unfold imB; rw [e1, e2]; rfl
              go_wp2_with (first | (go_at_call_of 102 x.frm; refine (hn1 _).mono ?_; rintro e w2 ⟨rfl, hB2⟩; obtain ⟨hA2, hblk2⟩ := HC.out _ _ hB2; have r1 : w2.cell? ⟨wr.heap.size, 1, none⟩ = some (.string x.name) := (block_cells hblk2).1 1) | (go_at_call_of 102 x.name; refine (hn2 _).mono ?_; rintro e w3 ⟨rfl, hB3⟩))
              go_meet
              case rel => exact ⟨by rw [HR.out]; rfl, hA2.trans (hB3.mono hA2.size)⟩
            · rw [e2] at hn2
              have HR : Aside (imB x = noteB x.t.data.toList) := by show _ = _; unfold imB; rw [e1, e2]; rfl
              generalize noteB x.t.data.toList = q at hn3 HR
              go_wp2_with (first | (go_at_call_of 102 x.frm; refine (hn1 _).mono ?_; rintro e w2 ⟨rfl, hB2⟩; obtain ⟨hA2, hblk2⟩ := HC.out _ _ hB2; have r1 : w2.cell? ⟨wr.heap.size, 1, none⟩ = some (.string x.name) := (block_cells hblk2).1 1; have r2 : w2.cell? ⟨wr.heap.size, 2, none⟩ = some (.string x.t) := (block_cells hblk2).1 2; have hws2 : wr.heap.size < w2.heap.size := by (have := hB2.size; simp at this; omega)) | (go_at_call_of 102 x.name; refine (hn2 _).mono ?_; rintro e w3 ⟨rfl, hB3⟩; have r3 := (hB3.cell (p := ⟨wr.heap.size, 2, none⟩) hws2).trans r2) | (go_at_call 103; refine (hn3 _).mono ?_; rintro e w' ⟨rfl, hw'⟩; replace hw' := hw'.symm; subst hw'))
              go_meet
              case rel => exact ⟨by rw [HR.out], hA2.trans (hB3.mono hA2.size)⟩
        case rest =>
          obtain ⟨rfl, hBc⟩ := hcut
          cases e : imB x
          · have HR : Aside (chkM m = 18) := by show _ = _; rw [HM.out, HK.out, HN, e]; rfl
            go_wp2_with fail
            go_ret
            rw [HR.out]
            exact ⟨rfl, hA1.trans (hBc.mono hA1.size)⟩
          · have HR : Aside (m.imps.all imB = (m.imps.drop (k + 1)).all imB) := by show _ = _; rw [HK.out, HN, e]; rfl
            go_wp2_with fail
            go_roundg (m.imps.length - (k + 1))
            case measure => omega
            case rel => exact ⟨k + 1, by omega, by go_num, hBc, HR⟩
      · have hk' : ¬ (k : Int) < (m.imps.length : Int) := by omega
        have HD : Aside (chkM m = chkDs m.defs) := by
          show _ = _
          rw [HM.out, HK.out, List.drop_of_length_le (by omega)]; rfl
        have hb2r := (hB.cell (p := ⟨w.heap.size, 2, none⟩) hws).trans hb2
        clear HK HM hi hI hb1 hb2
        generalize hwr : wr = w2 at *
        clear hwr
        go_wp2_with fail
        go_loopg [40] m.defs.length (fun g t wr => ∃ k : Nat, k + g = m.defs.length ∧ t = .int .i64 (k : Int) ∧ Below w.heap.size w wr ∧ Aside (chkM m = chkDs (m.defs.drop k)))
        case atStart => exact ⟨0, by omega, rfl, hAr, HD⟩
        case round =>
          clear hB hAr hA1 hsz hB1 hws hkg hk hk'
          obtain ⟨k, hkg, rfl, hB, HK⟩ := hrel
          have hsz := hB.size
          by_cases hk : k < m.defs.length
          · have hk' : (k : Int) < (m.defs.length : Int) := by omega
            have hk0 : (0 : Int) ≤ (k : Int) := by omega
            obtain ⟨x, hx⟩ := getA hk
            obtain ⟨b1, o1, rfl, hlc, hb1', ta, tc, hnod, p0, p1, p2, p3, p4, p5⟩ := (hD.below hB).at hx
            obtain ⟨z1, z2⟩ := hd x (List.mem_of_getElem? hx)
            have hft := ht x (List.mem_of_getElem? hx)
            have hn1 := isName_any x.name z1
            have hn3 := isAnn_any x.t
            have HX : Aside (m.defs[k]? = some x) := hx
            have HC : Aside (∀ o1 W, Below (wr.alloc o1).heap.size (wr.alloc o1) W → Below wr.heap.size wr W ∧ W.heap[wr.heap.size]? = some o1) := fun o1 W h => ⟨(Below.refl _ _).alloc (Nat.le_refl _) o1 |>.trans (h.mono (by simp)), (h.block wr.heap.size (by simp)).trans (heap_alloc_new _ _)⟩
            clear hD hd ht hx
            go_upto_region 12 with fail
            go_cut [53] (fun s wc => s = .bool (!dfB x) ∧ Below wr.heap.size wr wc ∧ wr.heap.size < wc.heap.size ∧ wc.cell? ⟨wr.heap.size, 3, none⟩ = some (.slice ta x.tree.length tc))
            case first =>
              cases e1 : nameB x.name.data.toList
              · rw [e1] at hn1
                have HR : Aside (dfB x = false) := by show _ = _; unfold dfB; rw [e1]; rfl
                go_wp2_with (go_at_call 102; refine (hn1 _).mono ?_; rintro e w2 ⟨rfl, hB2⟩; obtain ⟨hA2, hblk2⟩ := HC.out _ _ hB2)
                go_meet
                case rel => exact ⟨by rw [HR.out]; rfl, hA2, by have := hB2.size; simp at this; omega, (block_cells hblk2).1 3⟩
              · rw [e1] at hn1
                have HR : Aside (dfB x = noteB x.t.data.toList) := by show _ = _; unfold dfB; rw [e1]; rfl
                generalize noteB x.t.data.toList = q at hn3 HR
                go_wp2_with (first | (go_at_call 102; refine (hn1 _).mono ?_; rintro e w2 ⟨rfl, hB2⟩; obtain ⟨hA2, hblk2⟩ := HC.out _ _ hB2; have r2 : w2.cell? ⟨wr.heap.size, 2, none⟩ = some (.string x.t) := (block_cells hblk2).1 2) | (go_at_call 103; refine (hn3 _).mono ?_; rintro e w' ⟨rfl, hw'⟩; replace hw' := hw'.symm; subst hw'))
                go_meet
                case rel => exact ⟨by rw [HR.out], hA2, by have := hB2.size; simp at this; omega, (block_cells hblk2).1 3⟩
            case rest =>
              obtain ⟨rfl, hBc, hlt, hc3⟩ := hcut
              have hAc : Below w.heap.size w wc := hB.trans (hBc.mono hsz)
              cases e : dfB x
              · have HR : Aside (chkM m = 18) := by show _ = _; rw [HK.out, chkDs_bad HX.out e]
                go_wp2_with fail
                go_ret
                rw [HR.out]
                exact ⟨rfl, hAc⟩
              · have hck := treeCheck_any x.tree hft _ wc (hnod.below hBc)
                by_cases h0 : (chkN x.tree).1 = 0
                · have HR : Aside (chkM m = chkDs (m.defs.drop (k + 1))) := by show _ = _; rw [HK.out, chkDs_next HX.out e h0]
                  rw [h0] at hck
                  generalize ((chkN x.tree).2 : Int) = r2 at hck
                  clear h0 HK HC
                  go_wp2_with (go_at_call 25; refine hck.mono ?_; rintro e w3 ⟨rfl, hB3⟩)
                  go_roundg (m.defs.length - (k + 1))
                  case measure => omega
                  case rel => exact ⟨k + 1, by omega, by go_num, hAc.trans (hB3.mono hAc.size), HR⟩
                · have HR : Aside (chkM m = (chkN x.tree).1) := by show _ = _; rw [HK.out, chkDs_tree HX.out e h0]
                  have h0' : (((chkN x.tree).1 : Int) != 0) = true := by simpa using h0
                  generalize ((chkN x.tree).2 : Int) = r2 at hck
                  clear h0 HK HC
                  go_wp2_with (go_at_call 25; refine hck.mono ?_; rintro e w3 ⟨rfl, hB3⟩)
                  go_ret
                  rw [HR.out]
                  exact ⟨rfl, hAc.trans (hB3.mono hAc.size)⟩
          · have hk' : ¬ (k : Int) < (m.defs.length : Int) := by omega
            have HR : Aside (chkM m = 0) := by show _ = _; rw [HK.out, List.drop_of_length_le (by omega)]; rfl
            go_wp2_with fail
            go_ret
            rw [HR.out]
            exact ⟨rfl, hB⟩
  · have h1' : nameB m.name.data.toList = false := by simpa using h1
    have HM : Aside (chkM m = 18) := by show _ = _; unfold chkM; rw [if_neg h1]
    rw [h1'] at hnm
    clear h1 h1'
    go_enter Tryz.func66, Tryz.ntmps66
    go_wp2_with (go_at_call 102; refine (hnm _).mono ?_; rintro e w1 ⟨rfl, hB1⟩; obtain ⟨hA1, hblk⟩ := HB0.out _ _ hB1)
    go_ret
    rw [HM.out]
    exact ⟨rfl, hA1⟩
end Go.Proofs.YtpikfdkgblghhaaGreatDoor
