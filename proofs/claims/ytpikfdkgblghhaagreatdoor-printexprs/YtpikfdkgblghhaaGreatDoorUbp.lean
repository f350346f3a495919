/- The program's Modules, whole. -/
import Derived.Test.YtpikfdkgblghhaaGreatDoorUbo
import Derived.Test.YtpikfdkgblghhaaGreatDoorUbl
namespace Go.Proofs.YtpikfdkgblghhaaGreatDoor
open Go.RowKit Pn
set_option maxRecDepth 100000
set_option linter.unusedSimpArgs false
set_option linter.unusedVariables false
namespace Pn
theorem chkDs_all : ∀ (l : List Df), chkDs l = 0 → ∀ x ∈ l, dfB x = true ∧ (chkN x.tree).1 = 0
  | [], _, x, hx => by cases hx
  | y :: r, h, x, hx => by
    rw [chkDs] at h
    by_cases h1 : dfB y = true
    · rw [if_pos h1] at h
      by_cases h2 : (chkN y.tree).1 = 0
      · rw [if_pos h2] at h
        rcases List.mem_cons.1 hx with rfl | hx
        · exact ⟨h1, h2⟩
        · exact chkDs_all r h x hx
      · rw [if_neg h2] at h; exact absurd h h2
    · rw [if_neg h1] at h; cases h
theorem chkM_all {m : Md} (h : chkM m = 0) : nameB m.name.data.toList = true ∧ (∀ x ∈ m.imps, imB x = true) ∧ ∀ x ∈ m.defs, dfB x = true ∧ (chkN x.tree).1 = 0 := by
  unfold chkM at h
  by_cases h1 : nameB m.name.data.toList = true
  · rw [if_pos h1] at h
    by_cases h2 : m.imps.all imB = true
    · rw [if_pos h2] at h
      exact ⟨h1, fun x hx => List.all_eq_true.1 h2 x hx, chkDs_all _ h⟩
    · rw [if_neg h2] at h; cases h
  · rw [if_neg h1] at h; cases h
theorem chkMs_all : ∀ (l : List Md), chkMs l = 0 → ∀ m ∈ l, chkM m = 0
  | [], _, m, hm => by cases hm
  | y :: r, h, m, hm => by
    rw [chkMs] at h
    by_cases h1 : chkM y = 0
    · rw [if_pos h1] at h
      rcases List.mem_cons.1 hm with rfl | hm
      · exact h1
      · exact chkMs_all r h m hm
    · rw [if_neg h1] at h; exact absurd h h1
/-- Modules that are taken may be. -/
theorem mods_ok {l : List Md} (h : modN l = 0) (hh : ∀ m ∈ l, ∀ x ∈ m.defs, ∀ y ∈ x.tree, Held y) : l.length ≤ 8 ∧ ∀ m ∈ l, MdOk m := by
  by_cases h8 : 8 < l.length
  · rw [modN_many h8] at h; cases h
  by_cases hb : l.any big = true
  · rw [modN_big h8 hb] at h; cases h
  have hb' : l.any big = false := by simpa using hb
  by_cases hc : chkMs l = 0
  · refine ⟨by omega, fun m hm => ?_⟩
    obtain ⟨h1, h2, h3⟩ := chkM_all (chkMs_all l hc m hm)
    have hbm : big m = false := by
      by_cases e : big m = true
      · exact absurd (List.any_eq_true.2 ⟨m, hm, e⟩) hb
      · simpa using e
    unfold big at hbm
    simp at hbm
    exact ⟨h1, h2, fun x hx => ⟨(h3 x hx).1, (h3 x hx).2, hh m hm x hx⟩, by omega, by omega⟩
  · rw [modN_bad h8 hb' hc] at h; exact absurd h hc
theorem mdsT_len : ∀ (l : List Md), (∀ m ∈ l, MdOk m) → (mdsT l).length ≤ 620000000 * l.length
  | [], _ => by simp [mdsT]
  | x :: r, h => by
    have h1 := mdT_len (h x (by simp))
    have h2 := mdsT_len r (fun y hy => h y (by simp [hy]))
    rw [mdsT_cons, List.length_append, List.length_cons]
    omega
theorem mod_at {wI : World} {a : Option Addr} {n c : Nat} {l : List Md} (h : IsMods wI (.slice a n c) l) {k : Nat} {x : Md} (hx : l[k]? = some x) :
    ∃ b o ia ic da dc, a = some ⟨b, o, none⟩ ∧ n ≤ c ∧ IsImps wI (.slice ia x.imps.length ic) x.imps ∧ IsDefs wI (.slice da x.defs.length dc) x.defs ∧ ∀ W, Below wI.heap.size wI W → W.cell? ⟨b, o + k * 5, none⟩ = some (.string x.name) ∧ W.cell? ⟨b, o + k * 5 + 1, none⟩ = some (.slice ia x.imps.length ic) ∧ W.cell? ⟨b, o + k * 5 + 2, none⟩ = some (.slice da x.defs.length dc) ∧ W.cell? ⟨b, o + k * 5 + 3, none⟩ = some (.int .i64 x.ln) ∧ W.cell? ⟨b, o + k * 5 + 4, none⟩ = some (.int .i64 x.co) := by
  obtain ⟨b, o, e1, e2, e3, ia, ic, da, dc, h1, h2, c0, c1, c2, c3, c4⟩ := h.at hx
  exact ⟨b, o, ia, ic, da, dc, e1, e2, h1, h2, fun W hW => ⟨(hW.cell (p := ⟨b, _, none⟩) e3).trans c0, (hW.cell (p := ⟨b, _, none⟩) e3).trans c1, (hW.cell (p := ⟨b, _, none⟩) e3).trans c2, (hW.cell (p := ⟨b, _, none⟩) e3).trans c3, (hW.cell (p := ⟨b, _, none⟩) e3).trans c4⟩⟩
end Pn

set_option maxHeartbeats 2000000 in
theorem pnModules_bad (l : List Md) (hf : FitsM l) (v : Value) (w : World) (hl : IsMods w v l) (hc : modN l ≠ 0) :
    Calls Tryz.prog 15 #[v] w fun e w' => e = .returned (.tuple #[.string (S []), .int .i64 (modN l : Int)]) ∧ Below w.heap.size w w' := by
  have hck := treeModules_any l hf v w hl
  have hc' : ((modN l : Int) != 0) = true := by simpa using hc
  generalize (modN l : Int) = r1 at *
  obtain ⟨va, vc, rfl⟩ := RowOf.form hl
  clear hc hl hf
  generalize l.length = ln at *
  go_enter Tryz.func15, Tryz.ntmps15
  go_wp2_with (go_at_call 33; refine hck.mono ?_; rintro e w1 ⟨rfl, hB1⟩)
  go_ret2
  exact ⟨rfl, hB1⟩

set_option maxHeartbeats 4000000 in
theorem pnModules_ok (l : List Md) (hf : FitsM l) (hh : ∀ m ∈ l, ∀ x ∈ m.defs, ∀ y ∈ x.tree, Held y) (v : Value) (w : World) (hl : IsMods w v l) (hT : Tab w) (hc : modN l = 0) :
    Calls Tryz.prog 15 #[v] w fun e w' => e = .returned (.tuple #[.string (S (srcS (mdsT l))), .int .i64 (srcE (mdsT l))]) ∧ Below w.heap.size w w' := by
  have hck := treeModules_any l hf v w hl
  obtain ⟨hl8, hok⟩ := mods_ok hc hh
  have hml := mdsT_len l hok
  obtain ⟨va, vc, rfl⟩ := RowOf.form hl
  rw [hc] at hck
  have hck' : Calls Tryz.prog 33 #[.slice va l.length vc] w fun e w' => e = .returned (.int .i64 0) ∧ Below w.heap.size w w' := hck
  have hsr := fun b c W h => source_any b (mdsT l) c W h
  have HF : Aside (mdsT l = [] ++ mdsT (l.drop 0)) := by show _ = _; simp
  generalize srcS (mdsT l) = q at *
  generalize srcE (mdsT l) = qe at *
  have HT : Aside (∀ W, Below w.heap.size w W → Tab W) := fun W hW => hT.below hW
  have HML : Aside ((mdsT l).length ≤ 5000000000) := by show _ ≤ _; omega
  generalize mdsT l = FF at *
  clear hck hf hh hc hT hml
  go_enter Tryz.func15, Tryz.ntmps15
  go_wp2_with (go_at_call 33; refine hck'.mono ?_; rintro e w1 ⟨rfl, hB1⟩)
  have hP := pen_new w1
  have hsz1 : (w1.alloc (.cells #[.pointer none, .slice none 0 0, .slice none 0 0] 66)).heap.size = w1.heap.size + 1 := by simp
  have hpb : w.heap.size ≤ w1.heap.size := hB1.size
  have hBa : Below w.heap.size w (w1.alloc (.cells #[.pointer none, .slice none 0 0, .slice none 0 0] 66)) := hB1.alloc hB1.size _
  obtain ⟨w2, hw2⟩ : ∃ w2, w2 = w1.alloc (.cells #[.pointer none, .slice none 0 0, .slice none 0 0] 66) := ⟨_, rfl⟩
  rw [← hw2] at hP hBa hsz1
  try rw [← hw2]
  try simp only [← hw2]
  obtain ⟨pb, hpbe⟩ : ∃ pb, pb = w1.heap.size := ⟨_, rfl⟩
  rw [← hpbe] at hP hpb hsz1
  simp only [← hpbe]
  have hS0 : St w2 w2 pb [] (.slice none 0 0) [] := ⟨hP, .inl ⟨rfl, _, _, rfl⟩, (fun b o n c e => (by cases e)), fun W hW => HT.out W (hBa.trans (hW.mono hpb)), Wrote.refl _ _⟩
  have HB : Aside (∀ W, Wrote w2 W pb → Below w.heap.size w W) := fun W hW => hBa.trans (hW.1.mono hpb)
  clear hP hBa hsz1 hB1 hck' hw2 hpbe
  go_wp2_with fail
  go_loopg [15] l.length (fun gk x wr => ∃ (k : Nat) (M : List UInt8) (c' : Value), k + gk = l.length ∧ x = .int .i64 (k : Int) ∧ St w2 wr pb M c' [] ∧ Aside (FF = M ++ mdsT (l.drop k)))
  case atStart => exact ⟨0, [], _, by omega, rfl, hS0, HF⟩
  case round =>
    clear hS0 HF
    obtain ⟨k, M, c', hkg, rfl, hS, HF⟩ := hrel
    by_cases hk : k < l.length
    · obtain ⟨m, hm⟩ := getA hk
      have hk' : (k : Int) < (l.length : Int) := by omega
      have hk0 : (0 : Int) ≤ (k : Int) := by omega
      obtain ⟨b, o, ia, ic, da, dc, rfl, hvc, hI, hD, hcells⟩ := mod_at hl hm
      obtain ⟨x0, x1, x2, x3, x4⟩ := hcells wr (HB.out wr hS.wr)
      have hS3 := hS.alloc (.cells #[.string m.name, .slice ia m.imps.length ic, .slice da m.defs.length dc, .int .i64 m.ln, .int .i64 m.co] 58)
      have hD1 := drop_at1 hm
      rw [hD1, mdsT_cons] at HF
      have HN : Aside (FF = M ++ mdT m ++ mdsT (l.drop (k + 1))) := by show _ = _; rw [HF.out]; simp
      have hML : M.length ≤ 5000000000 := by
        have h1 := HML.out
        rw [HF.out, List.length_append] at h1
        omega
      have hmd := module_st pb M c' (.slice ia m.imps.length ic) (.slice da m.defs.length dc) m w w2 _ hS3 (hok m (List.mem_of_getElem? hm)) hI hD hpb (HB.out _ hS3.wr) (by omega)
      clear HF hcells hm hS hS3 hI hD hD1 hML
      generalize M ++ mdT m = M2 at *
      obtain ⟨mn, imps, defs, mln, mco⟩ := m
      simp only [mdagg] at hmd
      simp only at x0 x1 x2 x3 x4
      generalize imps.length = il at *
      generalize defs.length = dl at *
      go_wp2_with fail
      refine hmd.mono ?_
      rintro e w5 ⟨rfl, c5, hS5⟩
      clear hmd x0 x1 x2 x3 x4
      go_wp2_with fail
      go_roundg (gk - 1)
      case measure => omega
      case rel => exact ⟨k + 1, M2, c5, by omega, by go_num, hS5, HN⟩
    · obtain rfl : k = l.length := by omega
      rw [List.drop_length] at HF
      have HF2 : Aside (M = FF) := by show _ = _; rw [HF.out]; simp [mdsT]
      have hq := hsr _ _ _ (HF2.out ▸ hS.pen)
      have HBw : Aside (Below w.heap.size w wr) := HB.out wr hS.wr
      have hkn : ¬ ((l.length : Nat) : Int) < (l.length : Int) := by omega
      clear HF hS
      go_wp2_with fail
      refine hq.mono ?_
      rintro e w6 ⟨rfl, hB6⟩
      go_wp2_with fail
      go_ret2
      exact ⟨rfl, HBw.out.trans (hB6.mono hpb)⟩
end Go.Proofs.YtpikfdkgblghhaaGreatDoor
