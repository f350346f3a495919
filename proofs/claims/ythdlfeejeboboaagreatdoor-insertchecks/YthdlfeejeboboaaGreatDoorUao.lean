/- Package check: plain facts of uses: matching, what is put into a given text. Package check: use. -/
import Derived.Test.YthdlfeejeboboaaGreatDoorUam
import Derived.Test.YthdlfeejeboboaaGreatDoorUan
import Derived.Lib.Replace
import Derived.Lib.SplitLaws
import Derived.Deep.RegionHeld
namespace Go.Proofs.YthdlfeejeboboaaGreatDoor
open Go.RowKit Ck
open T3.Tp (Ty enc cns met)
set_option maxRecDepth 100000

theorem mt_no {t : Ty} {h : UInt8} (hh : h = 62 ∨ h = 44 ∨ h = 108 ∨ h = 120) (e : Ck.mt t h = none) : T3.mtB t h.toNat = false := by
  rcases hh with rfl | rfl | rfl | rfl <;> cases t <;> first | rfl | exact absurd e (by simp [Ck.mt])
theorem mt_yes {t A B : Ty} {h : UInt8} (hh : h = 62 ∨ h = 44 ∨ h = 108 ∨ h = 120) (e : Ck.mt t h = some (A, B)) :
    T3.mtB t h.toNat = true ∧ (T3.mtL t h.toNat = [enc A, enc B] ∨ (T3.mtL t h.toNat = [enc A] ∧ B = A)) ∧ (enc A).length ≤ (enc t).length ∧ (enc B).length ≤ (enc t).length := by
  rcases hh with rfl | rfl | rfl | rfl <;> cases t <;> simp [Ck.mt] at e <;> obtain ⟨rfl, rfl⟩ := e <;> first | exact ⟨rfl, .inl rfl, by simp [T3.Tp.enc] <;> omega, by simp [T3.Tp.enc] <;> omega⟩ | exact ⟨rfl, .inr ⟨rfl, rfl⟩, by simp [T3.Tp.enc], by simp [T3.Tp.enc]⟩

theorem enc_no (c : UInt8) (hc : c = 65 ∨ c = 66) : ∀ t : Ty, c ∉ enc t := by
  intro t
  induction t with
  | ti | tb | tt | tq => rcases hc with rfl | rfl <;> simp [T3.Tp.enc]
  | tl a ih | tx a ih => rcases hc with rfl | rfl <;> simpa [T3.Tp.enc] using ih
  | tf a b iha ihb | tp a b iha ihb => rcases hc with rfl | rfl <;> simp [T3.Tp.enc, iha, ihb]
theorem rep_absent {c : UInt8} {s : List UInt8} (new : List UInt8) (h : c ∉ s) : Lib.replaceAll s [c] new = s := by
  unfold Lib.replaceAll Lib.replace
  split
  · rfl
  · have : Lib.replaceNum s [c] (-1) = 0 := by
      unfold Lib.replaceNum
      rw [if_pos (.inl (by decide)), Lib.count_one, List.count_eq_zero_of_not_mem h]
    rw [this]; rfl
theorem rep_hit (c : UInt8) (a new : List UInt8) (h : c ∉ a) : Lib.replaceAll (a ++ [c]) [c] new = a ++ new := by
  unfold Lib.replaceAll Lib.replace
  split
  · rename_i e; rw [← eq_of_beq e]
  · have hn : Lib.replaceNum (a ++ [c]) [c] (-1) = 1 := by
      unfold Lib.replaceNum
      rw [if_pos (.inl (by decide)), Lib.count_one, List.count_append, List.count_eq_zero_of_not_mem h]; simp
    have hi : Lib.index (a ++ [c]) [c] = (a.length : Int) := by
      clear hn
      induction a with
      | nil => simp [Lib.index]
      | cons b a ih =>
        have hb : ¬ c = b := fun e => h (by simp [e])
        have hb' : (c == b) = false := by simpa using hb
        have := ih (fun e => h (by simp [e]))
        simp only [List.cons_append, Lib.index, List.isPrefixOf, hb', Bool.false_and, Bool.false_eq_true, if_false, this]
        rw [if_neg (by simp)]
        simp
    rw [hn, Lib.replaceK_hit _ _ 0 _ a.length hi]
    simp [Lib.replaceK]
def gt (g : Nat) : List UInt8 := if g = 0 then [65] else if g = 1 then [66] else if g = 2 then [108, 65] else [98]
theorem giv_text (g : Nat) (A B : Ty) : Lib.replaceAll (Lib.replaceAll (gt g) [66] (enc B)) [65] (enc A) = enc (giv g A B) := by
  unfold gt giv
  have a1 : Lib.replaceAll [65] [66] (enc B) = [65] := rep_absent _ (by decide)
  have a2 : Lib.replaceAll [108, 65] [66] (enc B) = [108, 65] := rep_absent _ (by decide)
  have a3 : Lib.replaceAll [98] [66] (enc B) = [98] := rep_absent _ (by decide)
  have a4 : Lib.replaceAll [66] [66] (enc B) = enc B := rep_hit 66 [] _ (by simp)
  split
  · rw [a1]; exact rep_hit 65 [] _ (by simp)
  · split
    · rw [a4]; exact rep_absent _ (enc_no 65 (.inl rfl) B)
    · split
      · rw [a2]; exact rep_hit 65 [108] _ (by decide)
      · rw [a3]; exact rep_absent _ (by decide)
theorem gt_len (g : Nat) : (gt g).length ≤ 2 := by
  unfold gt
  split
  · simp
  · split
    · simp
    · split <;> simp
theorem r1_len (g : Nat) (B : Ty) (h : (enc B).length ≤ 64) : (Lib.replaceAll (gt g) [66] (enc B)).length ≤ 100 := by
  unfold gt
  have a1 : Lib.replaceAll [65] [66] (enc B) = [65] := rep_absent _ (by decide)
  have a2 : Lib.replaceAll [108, 65] [66] (enc B) = [108, 65] := rep_absent _ (by decide)
  have a3 : Lib.replaceAll [98] [66] (enc B) = [98] := rep_absent _ (by decide)
  have a4 : Lib.replaceAll [66] [66] (enc B) = enc B := rep_hit 66 [] _ (by simp)
  split
  · rw [a1]; decide
  · split
    · rw [a4]; omega
    · split
      · rw [a2]; decide
      · rw [a3]; decide
theorem others_drop {A : Ty} {kid j : Nat} {ks : List (Nat × Ty)} {k : Nat × Ty} (h : ks[j]? = some k) : others A kid j (ks.drop j) = if j = kid then others A kid (j + 1) (ks.drop (j + 1)) else if cns k.2 A then others A kid (j + 1) (ks.drop (j + 1)) else .error (23, k.1) := by
  rw [List.drop_eq_getElem_cons (List.getElem?_eq_some_iff.1 h).1, (List.getElem?_eq_some_iff.1 h).2]
  rfl
end Go.Proofs.YthdlfeejeboboaaGreatDoor
namespace Go.Proofs.YthdlfeejeboboaaGreatDoor
open Go.RowKit Ck
open T3.Tp (Ty enc cns met)
set_option maxRecDepth 100000
set_option linter.unusedSimpArgs false

def HasM (w : World) : Prop := ∃ m : Int, w.cell? ⟨3, 0, none⟩ = some (.int .i64 m)
theorem HasM.below {w w' : World} (h : HasM w) (hB : Below w.heap.size w w') : HasM w' := by
  obtain ⟨m, hm⟩ := h
  exact ⟨m, (hB.cell (p := ⟨3, 0, none⟩) (World.block_lt_of_cell? _ _ hm)).trans hm⟩
theorem repl_any (w : World) (s : List UInt8) (c : UInt8) (new : List UInt8) (hs : s.length ≤ 100) (hn : new.length ≤ 100) (hM : HasM w) :
    Calls Tryz.prog 174 #[.string (S s), .string ⟨#[c]⟩, .string (S new)] w fun e w' => e = .returned (.string (S (Lib.replaceAll s [c] new))) ∧ Below w.heap.size w w' := by
  obtain ⟨m, hm⟩ := hM
  refine (Tryz.strings_ReplaceAll (S s) ⟨#[c]⟩ (S new) m w (by rw [S_size]; omega) hm (by show 1 ≤ 1; decide) ?_).mono fun e w' h => h
  have h1 := Lib.countB_mul_le (⟨#[c]⟩ : ByteArray) (by show 1 ≤ 1; decide) (S s).size (S s) (Nat.le_refl _)
  have h2 : (⟨#[c]⟩ : ByteArray).size = 1 := rfl
  rw [h2, Nat.mul_one, S_size] at h1
  rw [S_size, S_size]
  have := Nat.mul_le_mul (Nat.le_trans h1 hs) hn
  omega

set_option maxHeartbeats 8000000 in
theorem use_any (w : World) (cb tb n kid g : Nat) (h : UInt8) (kv : Value) (ks : List (Nat × Ty)) (k : Nat × Ty) (hT : HasT w cb tb n) (hK : Kds w tb n kv ks) (hk : ks[kid]? = some k) (hh : h = 62 ∨ h = 44 ∨ h = 108 ∨ h = 120) (hM : HasM w) :
    Calls Tryz.prog 147 #[.pointer (some ⟨cb, 0, none⟩), .agg #[.int .i64 (kid : Int), .int .u8 (h.toNat : Int), .string (S (gt g))], kv] w fun e w' => Ans (use (kid, h, g) ks) e ∧ Below w.heap.size w w' := by
  have hcb : cb < w.heap.size := World.block_lt_of_cell? _ _ hT
  obtain ⟨kb, rfl, g0, g1, g2, g3⟩ := hK.at' kid k hk
  have hkb : kb < w.heap.size := World.block_lt_of_cell? _ _ g0
  have htb : tb < w.heap.size := World.block_lt_of_cell? _ _ g2
  have hkl : kid < ks.length := (List.getElem?_eq_some_iff.1 hk).1
  have hlen := hK.len
  have hkl' : (kid : Int) < (ks.length : Int) := by omega
  have hkl0 : (0 : Int) ≤ (kid : Int) := by omega
  have hk1' : (k.1 : Int) < (n : Int) := by omega
  have hk10 : (0 : Int) ≤ (k.1 : Int) := by omega
  have HK : Aside (∀ w', Below w.heap.size w w' → HasT w' cb tb n ∧ Kds w' tb n (.slice (some ⟨kb, 0, none⟩) ks.length ks.length) ks ∧ HasM w' ∧ w'.cell? ⟨kb, kid, none⟩ = some (.int .i64 (k.1 : Int))) := fun w' hB => ⟨hT.below hcb hB, hK.below hB, hM.below hB, (hB.cell (p := ⟨kb, kid, none⟩) hkb).trans g0⟩
  obtain ⟨w0, hw0⟩ : ∃ w0, w0 = (w.alloc (.cells #[.int .i64 (kid : Int), .int .u8 (h.toNat : Int), .string (S (gt g))] 213)).alloc (.cells #[.int .i64 0, .int .i64 0] 98) := ⟨_, rfl⟩
  have hB0 : Below w.heap.size w w0 := by rw [hw0]; exact ((Below.refl _ _).alloc (Nat.le_refl _) _).alloc (by simp) _
  have hz0 : w0.heap.size = w.heap.size + 2 := by rw [hw0]; simp
  have b0 : w0.heap[w.heap.size]? = some (.cells #[.int .i64 (kid : Int), .int .u8 (h.toNat : Int), .string (S (gt g))] 213) := by rw [hw0]; exact (Below.heap_alloc _ _ _ (by simp)).trans (heap_alloc_new _ _)
  have b1 : w0.heap[w.heap.size + 1]? = some (.cells #[.int .i64 0, .int .i64 0] 98) := by rw [hw0]; have := heap_alloc_new (w.alloc (.cells #[.int .i64 (kid : Int), .int .u8 (h.toNat : Int), .string (S (gt g))] 213)) (.cells #[.int .i64 0, .int .i64 0] 98); simpa using this
  have HI : Aside (∀ wr, Below w0.heap.size w0 wr → (wr.cell? ⟨w.heap.size, 0, none⟩ = some (.int .i64 (kid : Int)) ∧ wr.cell? ⟨w.heap.size, 2, none⟩ = some (.string (S (gt g)))) ∧ (wr.cell? ⟨w.heap.size + 1, 0, none⟩ = some (.int .i64 0) ∧ wr.cell? ⟨w.heap.size + 1, 1, none⟩ = some (.int .i64 0)) ∧ (∀ q, wr.frozen? ⟨w.heap.size + 1, q, none⟩ = false) ∧ Below w.heap.size w wr) := fun wr hB => by
    have k0 := (hB.block _ (by omega)).trans b0
    have k1 := (hB.block _ (by omega)).trans b1
    exact ⟨⟨(block_cells k0).1 0, (block_cells k0).1 2⟩, ⟨(block_cells k1).1 0, (block_cells k1).1 1⟩, (block_cells k1).2, hB0.trans (hB.mono (by omega))⟩
  have a0 : w0.cell? ⟨w.heap.size, 0, none⟩ = some (.int .i64 (kid : Int)) := (block_cells b0).1 0
  have a1 : w0.cell? ⟨w.heap.size, 1, none⟩ = some (.int .u8 (h.toNat : Int)) := (block_cells b0).1 1
  have a2 : w0.cell? ⟨cb, 1, none⟩ = some (.slice (some ⟨tb, 0, none⟩) n n) := hT.below hcb hB0
  have a3 : w0.cell? ⟨kb, kid, none⟩ = some (.int .i64 (k.1 : Int)) := (hB0.cell (p := ⟨kb, kid, none⟩) hkb).trans g0
  have a4 : w0.cell? ⟨tb, k.1, none⟩ = some (.string (S (enc k.2))) := (hB0.cell (p := ⟨tb, k.1, none⟩) htb).trans g2
  have HM : Calls Tryz.prog 160 #[.string (S (enc k.2)), .int .u8 (h.toNat : Int)] w0.drew fun e w' => ∃ v, e = .returned (.tuple #[v, .bool (T3.mtB k.2 h.toNat)]) ∧ w'.ownsRow w0.drew.heap.size 9 1 v (T3.mtL k.2 h.toNat).length (tcells (T3.mtL k.2 h.toNat)) ∧ Below w0.drew.heap.size w0.drew w' := T3.match_yes k.2 h.toNat g3 w0.drew
  obtain ⟨R, hR⟩ : ∃ R, R = use (kid, h, g) ks := ⟨_, rfl⟩
  rw [← hR]
  have HR : Aside _ := hR
  clear hR b0 b1 hT hK hM g0 g2
  go_enter Tryz.func147, Tryz.ntmps147
  go_upto_region 1 with fail
  rw [← hw0]
  clear hw0
  go_cut [8, 9] (fun s8 s9 wc => s9 = .bool (T3.mtB k.2 h.toNat) ∧ wc.ownsRow w0.heap.size 9 1 s8 (T3.mtL k.2 h.toNat).length (tcells (T3.mtL k.2 h.toNat)) ∧ Below w0.heap.size w0 wc)
  case first =>
    have HS : Aside (∀ w1, Below w0.drew.heap.size w0.drew w1 → w1.cell? ⟨w.heap.size, 0, none⟩ = some (.int .i64 (kid : Int)) ∧ w1.cell? ⟨w.heap.size, 1, none⟩ = some (.int .u8 (h.toNat : Int)) ∧ w1.cell? ⟨cb, 1, none⟩ = some (.slice (some ⟨tb, 0, none⟩) n n) ∧ w1.cell? ⟨kb, kid, none⟩ = some (.int .i64 (k.1 : Int)) ∧ w1.cell? ⟨tb, k.1, none⟩ = some (.string (S (enc k.2)))) := fun w1 h1 =>
      ⟨(h1.cell (p := ⟨w.heap.size, 0, none⟩) (by show w.heap.size < w0.heap.size; omega)).trans a0, (h1.cell (p := ⟨w.heap.size, 1, none⟩) (by show w.heap.size < w0.heap.size; omega)).trans a1, (h1.cell (p := ⟨cb, 1, none⟩) (by show cb < w0.heap.size; omega)).trans a2, (h1.cell (p := ⟨kb, kid, none⟩) (by show kb < w0.heap.size; omega)).trans a3, (h1.cell (p := ⟨tb, k.1, none⟩) (by show tb < w0.heap.size; omega)).trans a4⟩
    generalize S (enc k.2) = sk at *
    generalize (h.toNat : Int) = hn at *
    go_region_held (fun W => W.cell? ⟨w.heap.size, 0, none⟩ = some (.int .i64 (kid : Int)) ∧ W.cell? ⟨w.heap.size, 1, none⟩ = some (.int .u8 hn) ∧ W.cell? ⟨cb, 1, none⟩ = some (.slice (some ⟨tb, 0, none⟩) n n) ∧ W.cell? ⟨kb, kid, none⟩ = some (.int .i64 (k.1 : Int)) ∧ W.cell? ⟨tb, k.1, none⟩ = some (.string sk)) (first | exact hS1 | exact ⟨a0, a1, a2, a3, a4⟩ | go_keep) (first | (go_at_call 160; refine HM.mono ?_; rintro e w1 ⟨v, rfl, ho, hB1⟩; have hS1 := HS.out w1 hB1))
    all_goals
      go_wp2_with fail
      go_meet
      case rel => exact ⟨rfl, ho, ⟨hB1.os, hB1.tape, hB1.output, hB1.size, hB1.block⟩⟩
  case rest =>
    obtain ⟨rfl, ho, hBc⟩ := hcut
    obtain ⟨⟨f0, f2⟩, ⟨c0, c1⟩, cz, hBw⟩ := HI.out wc hBc
    obtain ⟨va, vc, rfl⟩ := own_len ho
    obtain ⟨hT1, hK1, hM1, d0⟩ := HK.out wc hBw
    clear a0 a1 a2 a3 a4 HM
    cases hm : Ck.mt k.2 h with
    | none =>
      have hq := mt_no hh hm
      have HR2 : Aside (R = .error (24, k.1)) := by show _ = _; rw [HR.out]; unfold use; simp only [hk, hm]
      have HBF : Aside (∀ x y, Below w.heap.size w (((wc.setCell ⟨w.heap.size + 1, 0, none⟩ x).setCell ⟨w.heap.size + 1, 1, none⟩ y).drew)) := fun x y => below_dr ((hBw.setCell (by simp) _).setCell (by simp) _)
      rw [hq]
      clear HI HK HR hm hq ho hBc hBw hT1 hK1 hM1
      go_wp2_with fail
      go_region
      all_goals
        go_wp2_with fail
        try simp only [Exit.inBlock, Exit.then]
        refine bodyPost_ret (v := .tuple #[.string ⟨#[]⟩, .agg #[.int .i64 24, .int .i64 k.1]]) (by simp [results, Tryz.results147, go_sem, c0, c1]) rfl ?_
        exact ⟨by rw [HR2.out]; exact ⟨by simp, _, rfl⟩, HBF.out _ _⟩
    | some AB =>
      obtain ⟨A, B⟩ := AB
      obtain ⟨hq, hL, hA, hB⟩ := mt_yes hh hm
      have hA64 : (enc A).length ≤ 64 := by omega
      have hB64 : (enc B).length ≤ 64 := by omega
      have HR2 : Aside (R = match others A kid 0 ks with | .error e => .error e | .ok _ => .ok (giv g A B)) := by show _ = _; rw [HR.out]; unfold use; simp only [hk, hm]; cases others A kid 0 ks <;> rfl
      obtain ⟨P, hP⟩ : ∃ P, P = T3.mtL k.2 h.toNat := ⟨_, rfl⟩
      rw [← hP] at hL ho
      rw [hq, ← hP]
      have hP1 : 0 < P.length := by rcases hL with h | ⟨h, _⟩ <;> rw [h] <;> simp
      have hP2 : P.length ≤ 2 := by rcases hL with h | ⟨h, _⟩ <;> rw [h] <;> simp
      have e0 : (tcells P)[0]? = some (.string (S (enc A))) := by rcases hL with h | ⟨h, _⟩ <;> rw [h] <;> rfl
      have e1 : (tcells P)[P.length - 1]? = some (.string (S (enc B))) := by
        rcases hL with h | ⟨h, hBA⟩
        · rw [h]; rfl
        · rw [h, hBA]; rfl
      obtain ⟨pb, pc, hv, hpc, hpb, hcells⟩ := own_cells ho hP1
      obtain ⟨rfl, rfl⟩ : va = some ⟨pb, 0, none⟩ ∧ vc = pc := by simpa using hv
      have p0 : wc.cell? ⟨pb, 0, none⟩ = some (.string (S (enc A))) := (hcells 0 (by omega)).trans e0
      have p1 : wc.cell? ⟨pb, P.length - 1, none⟩ = some (.string (S (enc B))) := (hcells _ (by omega)).trans e1
      have hpbw : pb < wc.heap.size := World.block_lt_of_cell? _ _ p0
      clear hv hcells e0 e1 ho hL hP hm hq
      generalize P.length = m at *
      have HP : Aside (∀ W, Below wc.heap.size wc W → W.cell? ⟨pb, 0, none⟩ = some (.string (S (enc A))) ∧ W.cell? ⟨pb, m - 1, none⟩ = some (.string (S (enc B)))) := fun W h => ⟨(h.cell (p := ⟨pb, 0, none⟩) hpbw).trans p0, (h.cell (p := ⟨pb, m - 1, none⟩) hpbw).trans p1⟩
      have HII : Aside (∀ W, Below wc.heap.size wc W → Below w0.heap.size w0 W) := fun W h => hBc.trans (h.mono (by have := hBc.size; omega))
      go_wp2_with fail
      go_loopg [41] ks.length (fun gg t wr => ∃ j : Nat, j + gg = ks.length ∧ t = .int .i64 (j : Int) ∧ Below wc.heap.size wc wr ∧ Aside (R = match others A kid j (ks.drop j) with | .error e => .error e | .ok _ => .ok (giv g A B)))
      case atStart => exact ⟨0, by omega, rfl, Below.refl _ _, HR2⟩
      case round =>
        obtain ⟨j, hjg, rfl, hBr, HRj⟩ := hrel
        obtain ⟨⟨f0, f2⟩, ⟨c0, c1⟩, cz, hBw⟩ := HI.out wr (HII.out wr hBr)
        obtain ⟨p0, p1⟩ := HP.out wr hBr
        obtain ⟨hT1, hK1, hM1, _⟩ := HK.out wr hBw
        by_cases hj : j < ks.length
        · have hj' : (j : Int) < (ks.length : Int) := by omega
          obtain ⟨q, hqk⟩ : ∃ q, ks[j]? = some q := ⟨_, List.getElem?_eq_getElem hj⟩
          obtain ⟨kb', h1, h2, h3, h4, h5⟩ := hK1.at' j q hqk
          obtain rfl : kb = kb' := by simpa using h1
          have HRq := HRj.out
          rw [others_drop hqk] at HRq
          by_cases hjk : j = kid
          · rw [if_pos hjk] at HRq
            have HR3 : Aside _ := HRq
            have hjk' : (j : Int) = (kid : Int) := by omega
            subst hjk
            clear HRq HI HK HRj h1 h4 hT1 hK1 hM1 hBw
            go_wp2_with fail
            go_roundg (gk - 1)
            case measure => omega
            case rel => exact ⟨j + 1, by omega, by go_num, hBr, HR3⟩
          · rw [if_neg hjk] at HRq
            have hjk' : ((j : Int) == (kid : Int)) = false := by simp; omega
            have HA := ask_any wr cb tb n q.1 q.2 A 23 (q.1 : Int) hT1 h3 h4 h5 hA64
            unfold rf at HA
            cases hcq : cns q.2 A with
            | true =>
              rw [hcq] at HRq HA
              simp only [if_true] at HRq HA
              have HR3 : Aside _ := HRq
              clear HRq HI HK HRj h1 h4 hT1 hK1 hM1 hBw hcq
              go_wp2_with fail
              refine HA.mono ?_
              rintro e w1 ⟨rfl, hB1⟩
              have HB2 : Aside (∀ o, Below wc.heap.size wc (w1.alloc o)) := fun o => by
                have h := hBr.trans (hB1.mono (by have := hBr.size; omega))
                exact h.alloc h.size _
              clear HA
              go_wp2_with fail
              go_roundg (gk - 1)
              case measure => omega
              case rel => exact ⟨j + 1, by omega, by go_num, HB2.out _, HR3⟩
            | false =>
              rw [hcq] at HRq HA
              have HR3 : Aside (R = .error (23, q.1)) := HRq
              simp only [Bool.false_eq_true, if_false] at HA
              clear HRq HRj h1 h4 hT1 hK1 hM1 hcq
              go_wp2_with fail
              refine HA.mono ?_
              rintro e w1 ⟨rfl, hB1⟩
              obtain ⟨_, ⟨c10, c11⟩, z10, hBF⟩ := HI.out w1 (HII.out w1 (hBr.trans (hB1.mono (by have := hBr.size; omega))))
              have hlt : w.heap.size + 1 < w1.heap.size := World.block_lt_of_cell? _ _ c10
              have HBF : Aside _ := hBF
              clear HA hBF HI HII HK HP c0 c1 f0 f2 hB1 hBw cz
              go_wp2_with fail
              go_region
              all_goals
                go_wp2_with fail
                try simp only [Exit.inBlock, Exit.then]
                refine bodyPost_ret (v := .tuple #[.string ⟨#[]⟩, .agg #[.int .i64 23, .int .i64 q.1]]) (by simp [results, Tryz.results147, go_sem, c10, c11, hlt, Nat.ne_of_lt hlt]) rfl ?_
                refine ⟨by rw [HR3.out]; exact ⟨by simp, _, rfl⟩, ?_⟩
                have h1 := ((HBF.out.setCell (p := ⟨w.heap.size + 1, 0, none⟩) (by simp) (.int .i64 23)).setCell (p := ⟨w.heap.size + 1, 1, none⟩) (by simp) (.int .i64 q.1))
                have h2 := h1.alloc h1.size (.cells #[.int .i64 23, .int .i64 q.1] 98)
                exact ⟨h2.os, h2.tape, h2.output, h2.size, h2.block⟩
        · have hj' : ¬ (j : Int) < (ks.length : Int) := by omega
          have HRq := HRj.out
          rw [List.drop_eq_nil_of_le (by omega)] at HRq
          have HR3 : Aside (R = .ok (giv g A B)) := HRq
          have hMd : HasM wr.drew := hM1
          have HX := repl_any wr.drew (gt g) 66 (enc B) (by have := gt_len g; omega) (by omega) hMd
          have HZ : Aside (∀ we, Below wr.heap.size wr we → we.cell? ⟨pb, 0, none⟩ = some (.string (S (enc A))) ∧ Calls Tryz.prog 174 #[.string (S (Lib.replaceAll (gt g) [66] (enc B))), .string ⟨#[65]⟩, .string (S (enc A))] we (fun e w' => e = .returned (.string (S (enc (giv g A B)))) ∧ Below we.heap.size we w') ∧
              ∀ w3, Below we.heap.size we w3 → (w3.cell? ⟨w.heap.size + 1, 0, none⟩ = some (.int .i64 0) ∧ w3.cell? ⟨w.heap.size + 1, 1, none⟩ = some (.int .i64 0)) ∧ (∀ q, w3.frozen? ⟨w.heap.size + 1, q, none⟩ = false) ∧ ∀ x y, Below w.heap.size w ((w3.setCell ⟨w.heap.size + 1, 0, none⟩ x).setCell ⟨w.heap.size + 1, 1, none⟩ y)) := fun we hBe => by
            refine ⟨(HP.out we (hBr.trans (hBe.mono (by have := hBr.size; omega)))).1, ?_, fun w3 h3 => ?_⟩
            · rw [← giv_text g A B]; exact repl_any we _ 65 (enc A) (r1_len g B hB64) (by omega) (hM1.below hBe)
            · have h4 : Below wc.heap.size wc w3 := (hBr.trans (hBe.mono (by have := hBr.size; omega))).trans (h3.mono (by have := hBr.size; have := hBe.size; omega))
              obtain ⟨_, d1, d2, d3⟩ := HI.out w3 (HII.out w3 h4)
              exact ⟨d1, d2, fun x y => (d3.setCell (by simp) _).setCell (by simp) _⟩
          clear HRq HRj HI HII HK HP HR HR2 hT1 hK1 hM1 hMd hBw hBr hBc hB0
          generalize S (Lib.replaceAll (gt g) [66] (enc B)) = r1 at *
          generalize S (enc A) = sA at *
          generalize S (enc B) = sB at *
          generalize S (gt g) = sg at *
          rcases (show m = 1 ∨ m = 2 by omega) with rfl | rfl
          · obtain rfl : sA = sB := by have := p0.symm.trans p1; simpa using this
            go_wp2_with fail
            go_cut [13] (fun s13 w2 => s13 = .string (r1) ∧ Below wr.heap.size wr w2)
            case first =>
              go_region_with (go_at_call 174; refine HX.mono ?_; rintro e w1 ⟨rfl, hB1⟩)
              all_goals
                go_wp2_with fail
                go_meet
                case rel => exact ⟨rfl, ⟨hB1.os, hB1.tape, hB1.output, hB1.size, hB1.block⟩⟩
            case rest =>
              obtain ⟨rfl, hBe⟩ := hcut
              obtain ⟨p0, HY, HE⟩ := HZ.out _ hBe
              go_wp2_with fail
              refine HY.mono ?_
              rintro e w3 ⟨rfl, hB3⟩
              obtain ⟨⟨n0, n1⟩, nz, HBF⟩ := HE w3 hB3
              have HBF' : Aside _ := HBF
              clear HY HE hB3 hBe HZ HBF
              go_wp2_with fail
              try simp only [Exit.inBlock, Exit.then]
              refine bodyPost_ret (v := .tuple #[.string (S (enc (giv g A B))), .agg #[.int .i64 0, .int .i64 0]]) (by simp [results, Tryz.results147, go_sem, n0, n1]) rfl ?_
              exact ⟨by rw [HR3.out]; exact ⟨_, rfl⟩, HBF'.out _ _⟩
          · go_wp2_with fail
            go_cut [13] (fun s13 w2 => s13 = .string (r1) ∧ Below wr.heap.size wr w2)
            case first =>
              go_region_with (go_at_call 174; refine HX.mono ?_; rintro e w1 ⟨rfl, hB1⟩)
              all_goals
                go_wp2_with fail
                go_meet
                case rel => exact ⟨rfl, ⟨hB1.os, hB1.tape, hB1.output, hB1.size, hB1.block⟩⟩
            case rest =>
              obtain ⟨rfl, hBe⟩ := hcut
              obtain ⟨p0, HY, HE⟩ := HZ.out _ hBe
              go_wp2_with fail
              refine HY.mono ?_
              rintro e w3 ⟨rfl, hB3⟩
              obtain ⟨⟨n0, n1⟩, nz, HBF⟩ := HE w3 hB3
              have HBF' : Aside _ := HBF
              clear HY HE hB3 hBe HZ HBF
              go_wp2_with fail
              try simp only [Exit.inBlock, Exit.then]
              refine bodyPost_ret (v := .tuple #[.string (S (enc (giv g A B))), .agg #[.int .i64 0, .int .i64 0]]) (by simp [results, Tryz.results147, go_sem, n0, n1]) rfl ?_
              exact ⟨by rw [HR3.out]; exact ⟨_, rfl⟩, HBF'.out _ _⟩
end Go.Proofs.YthdlfeejeboboaaGreatDoor
