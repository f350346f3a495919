/- Package check: environment. -/
import Derived.Test.YthdlfeejeboboaaGreatDoorUau
namespace Go.Proofs.YthdlfeejeboboaaGreatDoor
open Go.RowKit Go.Maps Ck
open Go.WideMaps Go.WideElems
open T3.Tp (Ty enc cns met)
set_option maxRecDepth 100000
set_option linter.unusedSimpArgs false

theorem envB_len {N Th : List (List UInt8)} (h : N.length ≠ Th.length) : envB N Th = false := by unfold envB; simp [h]
theorem envB_bad {N Th : List (List UInt8)} {k : Nat} {p t : List UInt8} (hp : N[k]? = some p) (ht : Th[k]? = some t) (h : (T3.Tp.chk t).1 ≠ 0 ∨ nameB p = false) : envB N Th = false := by
  unfold envB
  have m1 := List.mem_of_getElem? hp
  have m2 := List.mem_of_getElem? ht
  rcases h with h | h
  · have : (Th.all fun t => (T3.Tp.chk t).1 == 0) = false := by
      rw [List.all_eq_false]; exact ⟨t, m2, by simpa using h⟩
    simp [this]
  · have : N.all nameB = false := by rw [List.all_eq_false]; exact ⟨p, m1, by simp [h]⟩
    simp [this]
theorem envB_good {N Th : List (List UInt8)} (hl : N.length = Th.length) (h : ∀ (j : Nat) p t, N[j]? = some p → Th[j]? = some t → (T3.Tp.chk t).1 = 0 ∧ nameB p = true) : envB N Th = true := by
  unfold envB
  simp only [Bool.and_eq_true, decide_eq_true_eq, List.all_eq_true, beq_iff_eq]
  refine ⟨⟨hl, fun t ht => ?_⟩, fun p hp => ?_⟩
  · obtain ⟨j, hj⟩ := List.getElem?_of_mem ht
    have hjl := (List.getElem?_eq_some_iff.1 hj).1
    exact (h j N[j] t (List.getElem?_eq_getElem (by omega)) hj).1
  · obtain ⟨j, hj⟩ := List.getElem?_of_mem hp
    have hjl := (List.getElem?_eq_some_iff.1 hj).1
    exact (h j p Th[j] hj (List.getElem?_eq_getElem (by omega))).2

theorem below_grown {w w1 w2 : World} {b : Nat} (h : Below w.heap.size w w1) (hg : w1.grownBy w2 (some b)) (hb : w.heap.size ≤ b) : Below w.heap.size w w2 :=
  h.grown hg h.size (fun k e => by have hk := Option.some.inj e; omega)

theorem run_makeMap_hint (n : Int) (w : World) : (Instr.makeMap 79 (some (.int .i64 n))).run Tryz.prog w = .ok (.map (some w.heap.size)) (w.alloc (.map #[] 0)) := by
  simp [Instr.makeMap, run_underlying tyCnt, asInt, newObj]
  rfl

set_option maxHeartbeats 4000000 in
theorem environment_any (N Th : List (List UInt8)) (hN : N.length ≤ 1000) (hs : ∀ p ∈ N, p.length ≤ maxLen) (vn vt : Value) (w : World) (hn : T3.IsTexts w vn N) (ht : T3.IsTexts w vt Th) :
    Calls Tryz.prog 49 #[vn, vt] w (EnvEnd w N Th) := by
  have hmm := run_makeMap_hint
  have hmf : ∀ (fn : Go.Fn) (first cap : Array Value) (w : World), (Instr.makeFunc fn first cap).run Tryz.prog w = .ok (.func fn first cap) w := fun _ _ _ _ => rfl
  obtain ⟨an, cn, rfl⟩ := txs_form hn
  obtain ⟨at', ct, rfl⟩ := txs_form ht
  by_cases hlen : N.length = Th.length
  · have HG : Aside ((∀ (j : Nat) p t, N[j]? = some p → Th[j]? = some t → (T3.Tp.chk t).1 = 0 ∧ nameB p = true) → envB N Th = true) := fun h => envB_good hlen h
    have hlb : ((N.length : Int) != (Th.length : Int)) = false := by simp; omega
    have hTl : Th.length ≤ 1000 := by omega
    have h1 := heap_alloc_new w (.cells #[.slice at' Th.length ct] 23)
    have c1 := (block_cells h1).1 0
    have hI0 := Idx.made (w.alloc (.cells #[.slice at' Th.length ct] 23))
    have HL : Aside (N.length = Th.length) := hlen
    clear hlen
    go_enter Tryz.func49, Tryz.ntmps49
    go_wp2_with fail
    go_loopg [21] (N.length) (fun gq tq wr => ∃ k : Nat, k + gq = N.length ∧ tq = .int .i64 (k : Int) ∧ Below w.heap.size w wr ∧ w.heap.size + 3 ≤ wr.heap.size ∧ wr.cell? ⟨w.heap.size, 0, none⟩ = some (.slice at' Th.length ct) ∧ wr.cell? ⟨w.heap.size + 2, 0, none⟩ = some (.map (some (w.heap.size + 1))) ∧ Idx wr (w.heap.size + 1) k (lastAt N k) ∧ Aside (∀ (j : Nat) p t, j < k → N[j]? = some p → Th[j]? = some t → (T3.Tp.chk t).1 = 0 ∧ nameB p = true))
    case atStart =>
      refine ⟨0, by omega, rfl, by repeat (first | exact Below.refl _ _ | refine balloc ?_ _), by simp, ?_, ?_, ?_, fun j p t hj => absurd hj (by omega)⟩
      · simp [go_sem]
      · simp [go_sem]
      · have hI1 := hI0.kept (World.grownBy_alloc _ (.cells #[.map (some (w.heap.size + 1))] 79) none) (by simp)
        rw [show (w.alloc (.cells #[.slice at' Th.length ct] 23)).heap.size = w.heap.size + 1 by simp] at hI1
        exact hI1
    case round =>
      obtain ⟨k, hkg, rfl, hB, hsz, cT, cM, hI, HA⟩ := hrel
      clear h1 c1 hI0
      by_cases hk : k < N.length
      · have hk' : (k : Int) < (N.length : Int) := by omega
        have hk0 : (0 : Int) ≤ (k : Int) := by omega
        have hkt : (k : Int) < (Th.length : Int) := by have := HL.out; omega
        obtain ⟨p, hp⟩ := getp hk
        obtain ⟨t, htk⟩ := getp (a := Th) (k := k) (by omega)
        obtain ⟨bn, on, rfl, hcn, hbn, cN⟩ := txs_at (txs_below hn hB) hp
        obtain ⟨bt', ot, rfl, hct, hbt, cTh⟩ := txs_at (txs_below ht hB) htk
        have hps : (T3.S p).size ≤ maxLen := by rw [T3.S_size]; exact hs p (List.mem_of_getElem? hp)
        have hck := T3.check_any (T3.S t)
        have hnm := isName_any (T3.S p) hps
        rw [T3.S_list] at hck hnm
        by_cases hc : (T3.Tp.chk t).1 = 0
        · rw [T3.Tp.chk_snd hc] at hck
          cases hnb : nameB p with
          | false =>
            have HE : Aside (envB N Th = false) := envB_bad hp htk (.inr hnb)
            rw [hnb] at hnm
            clear hp htk hnb HA hn ht hc HG
            go_wp2_with (first | (go_at_call 75; refine (hck _).mono ?_; rintro e w' ⟨rfl, hw'⟩; replace hw' := hw'.symm; subst hw') | (go_at_call 24; refine (hnm _).mono ?_; rintro e w1 ⟨rfl, hB1⟩))
            go_ret2
            exact EnvEnd.no (bt hB hB1) HE.out
          | true =>
            have HA2 : Aside (∀ (j : Nat) p t, j < k + 1 → N[j]? = some p → Th[j]? = some t → (T3.Tp.chk t).1 = 0 ∧ nameB p = true) := by
              intro j p' t' hj h1 h2
              by_cases e : j = k
              · subst e; rw [hp] at h1; rw [htk] at h2; cases h1; cases h2; exact ⟨hc, hnb⟩
              · exact HA.out j p' t' (by omega) h1 h2
            have HK : Aside (∀ w', Idx w' (w.heap.size + 1) (k + 1) (fun l => if l = (T3.S p).data.toList then some k else lastAt N k l) → Idx w' (w.heap.size + 1) (k + 1) (lastAt N (k + 1))) := by
              intro w' h
              obtain ⟨D, h1, h2⟩ := h
              refine ⟨D, h1, fun l => ?_⟩
              have e : lastAt N (k + 1) l = (if l = (T3.S p).data.toList then some k else lastAt N k l) := by
                rw [lastAt, hp]
                by_cases e : l = p
                · subst e; simp [T3.S_list]
                · rw [if_neg (by intro h; exact e (Option.some.inj h).symm), if_neg (by rw [T3.S_list]; exact e)]
              rw [e]; exact h2 l
            rw [hnb] at hnm
            clear hp htk hnb HA hn ht hc
            go_wp2_with (first | (go_at_call 75; refine (hck _).mono ?_; rintro e w' ⟨rfl, hw'⟩; replace hw' := hw'.symm; subst hw') | (go_at_call 24; refine (hnm _).mono ?_; rintro e w1 ⟨rfl, hB1⟩; have cM1 := (hB1.cell (p := ⟨w.heap.size + 2, 0, none⟩) (by show w.heap.size + 2 < _; omega)).trans cM; have hI1 := hI.kept (r := none) (grown_of_below (grownBy_refl _ _) hB1) (by simp)) | (at_mapUpdate; refine wpList_idx _ rfl _ _ _ rfl (w.heap.size + 1) k (lastAt N k) rfl hI1 (by omega) (T3.S p) hps rfl k rfl (by omega) ?_; intro w2 hI2 hg2))
            go_roundg (N.length - (k + 1))
            case measure => omega
            case rel =>
              have hs1 := hB1.size
              have hs2 := hg2.size
              refine ⟨k + 1, by omega, by go_num, below_grown (bt hB hB1) hg2 (by omega), by omega, ?_, ?_, HK.out _ hI2, HA2⟩
              · exact hg2.cell ((hB1.cell (p := ⟨w.heap.size, 0, none⟩) (by show w.heap.size < _; omega)).trans cT) (by simp)
              · exact hg2.cell cM1 (by simp)
        · have hc' : (((T3.Tp.chk t).1 : Int) != 0) = true := by simpa using hc
          have HE : Aside (envB N Th = false) := envB_bad hp htk (.inl hc)
          generalize (T3.Tp.chk t).1 = q1 at *
          generalize (T3.Tp.chk t).2 = q2 at *
          clear hp htk HA hn ht hc HG
          go_wp2_with (first | (go_at_call 75; refine (hck _).mono ?_; rintro e w' ⟨rfl, hw'⟩; replace hw' := hw'.symm; subst hw'))
          go_ret2
          exact EnvEnd.no hB HE.out
      · have hk' : ¬ (k : Int) < (N.length : Int) := by omega
        obtain rfl : k = N.length := by omega
        have hE : envB N Th = true := HG.out (fun j p t h1 h2 => HA.out j p t (List.getElem?_eq_some_iff.1 h1).1 h1 h2)
        obtain ⟨ts, e1, e2, e3⟩ := envB_types hE
        have HF : Aside (EnvEnd w N Th (.returned (.tuple #[.func (.func 76) #[] #[.pointer (some ⟨w.heap.size + 2, 0, none⟩), .pointer (some ⟨w.heap.size, 0, none⟩)], .bool true])) wr) := by
          refine ⟨hB, ?_⟩
          rw [if_pos hE]
          refine ⟨_, ts, rfl, e1, e2, e3, fun a b ha hb => ⟨_, _, rfl, enters_of Tryz.func76 (by kernel_rfl) rfl, fun w' hT n hn' => ?_⟩⟩
          have hTc : ∀ {q o : Nat}, q < wr.heap.size → w'.cell? ⟨q, o, none⟩ = wr.cell? ⟨q, o, none⟩ := fun {q o} h => hT.cell (p := ⟨q, o, none⟩) h (by show q ≠ a; omega) (by show q ≠ b; omega)
          have hI' : Idx w' (w.heap.size + 1) N.length (lastAt N N.length) := by
            exact hI.kept (r := none) ⟨hT.os, hT.tape, hT.output, hT.size, fun k hk _ => hT.block k hk (by omega) (by omega)⟩ (by simp)
          have hl := look_last N ts e1 N.length (Nat.le_refl _)
          rw [List.take_of_length_le (by simp; omega)] at hl
          refine env1_any w' (w.heap.size + 2) w.heap.size (w.heap.size + 1) N.length (lastAt N N.length) ts (envOf N ts) n hn' hI' ((hTc (by omega)).trans cM) (.slice at' Th.length ct) ((hTc (by omega)).trans cT) (fun j u hu => ?_) (fun l j h => by have := lastAt_lt h; omega) hl
          have hTj : Th[j]? = some (enc u) := by rw [e2, List.getElem?_map, hu]; rfl
          obtain ⟨tb, k, h1, h2, h3, h4⟩ := txs_at (txs_below ht hB) hTj
          subst h1
          exact ⟨tb, k, ct, by rw [e2]; simp, (hTc h3).trans h4⟩
        clear HA HG hn ht cM cT hI hE e1 e2 e3
        go_wp2_with fail
        go_ret2
        exact HF.out
  · have hlb : ((N.length : Int) != (Th.length : Int)) = true := by simp; omega
    have HE : Aside (envB N Th = false) := envB_len hlen
    clear hlen
    go_enter Tryz.func49, Tryz.ntmps49
    go_wp2_with fail
    go_ret2
    exact EnvEnd.no ((Below.refl _ _).alloc (Nat.le_refl _) _) HE.out
end Go.Proofs.YthdlfeejeboboaaGreatDoor
