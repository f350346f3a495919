/- Package check: environment. Package insert: written, distances, distance, within. Package insert: parts as they lie in memory. -/
import Derived.Test.YthdlfeejeboboaaDoorUar
import Derived.Test.YthdlfeejeboboaaDoorUas
import Derived.Test.YthdlfeejeboboaaDoorUac
import Derived.Maps.OwnOps
import Derived.Test.YthdlfeejeboboaaDoorUae
import Derived.Maps.OwnSet
import Derived.Maps.Views
namespace Go.Proofs.YthdlfeejeboboaaDoor
open Go.RowKit Go.Maps Ck
open Go.WideMaps Go.WideElems
open T3.Tp (Ty enc cns met)
set_option maxRecDepth 100000
set_option linter.unusedSimpArgs false

theorem envB_len {N Th : List (List UInt8)} (h : N.length ≠ Th.length) : envB N Th = false := by unfold envB; simp [h]
theorem envB_bad {N Th : List (List UInt8)} {k : Nat} {p t : List UInt8} (hp : N[k]? = some p) (ht : Th[k]? = some t) (h : (T3.Tp.chk t).1 ≠ 0 ∨ nameB p = false) : envB N Th = false := by
  unfold envB
  have m1 := List.mem_of_getElem? hp
  have m2 := List.mem_of_getElem? ht
  rcases h with h | h
  · have : (Th.all fun t => (T3.Tp.chk t).1 == 0) = false := by
      rw [List.all_eq_false]; exact ⟨t, m2, by simpa using h⟩
    simp [this]
  · have : N.all nameB = false := by rw [List.all_eq_false]; exact ⟨p, m1, by simp [h]⟩
    simp [this]
theorem envB_good {N Th : List (List UInt8)} (hl : N.length = Th.length) (h : ∀ (j : Nat) p t, N[j]? = some p → Th[j]? = some t → (T3.Tp.chk t).1 = 0 ∧ nameB p = true) : envB N Th = true := by
  unfold envB
  simp only [Bool.and_eq_true, decide_eq_true_eq, List.all_eq_true, beq_iff_eq]
  refine ⟨⟨hl, fun t ht => ?_⟩, fun p hp => ?_⟩
  · obtain ⟨j, hj⟩ := List.getElem?_of_mem ht
    have hjl := (List.getElem?_eq_some_iff.1 hj).1
    exact (h j N[j] t (List.getElem?_eq_getElem (by omega)) hj).1
  · obtain ⟨j, hj⟩ := List.getElem?_of_mem hp
    have hjl := (List.getElem?_eq_some_iff.1 hj).1
    exact (h j p Th[j] hj (List.getElem?_eq_getElem (by omega))).2

theorem below_grown {w w1 w2 : World} {b : Nat} (h : Below w.heap.size w w1) (hg : w1.grownBy w2 (some b)) (hb : w.heap.size ≤ b) : Below w.heap.size w w2 :=
  h.grown hg h.size (fun k e => by have hk := Option.some.inj e; omega)

theorem run_makeMap_hint (n : Int) (w : World) : (Instr.makeMap 44 (some (.int .i64 n))).run Tryd.prog w = .ok (.map (some w.heap.size)) (w.alloc (.map #[] 0)) := by
  simp [Instr.makeMap, run_underlying tyCnt, asInt, newObj]
  rfl

set_option maxHeartbeats 4000000 in
theorem environment_any (N Th : List (List UInt8)) (hN : N.length ≤ 1000) (hs : ∀ p ∈ N, p.length ≤ maxLen) (vn vt : Value) (w : World) (hn : T3.IsTexts w vn N) (ht : T3.IsTexts w vt Th) :
    Calls Tryd.prog 19 #[vn, vt] w (EnvEnd w N Th) := by
  have hmm := run_makeMap_hint
  have hmf : ∀ (fn : Go.Fn) (first cap : Array Value) (w : World), (Instr.makeFunc fn first cap).run Tryd.prog w = .ok (.func fn first cap) w := fun _ _ _ _ => rfl
  obtain ⟨an, cn, rfl⟩ := txs_form hn
  obtain ⟨at', ct, rfl⟩ := txs_form ht
  by_cases hlen : N.length = Th.length
  · have HG : Aside ((∀ (j : Nat) p t, N[j]? = some p → Th[j]? = some t → (T3.Tp.chk t).1 = 0 ∧ nameB p = true) → envB N Th = true) := fun h => envB_good hlen h
    have hlb : ((N.length : Int) != (Th.length : Int)) = false := by simp; omega
    have hTl : Th.length ≤ 1000 := by omega
    have h1 := heap_alloc_new w (.cells #[.slice at' Th.length ct] 23)
    have c1 := (block_cells h1).1 0
    have hI0 := Idx.made (w.alloc (.cells #[.slice at' Th.length ct] 23))
    have HL : Aside (N.length = Th.length) := hlen
    clear hlen
    go_enter Tryd.func19, Tryd.ntmps19
    go_wp2_with fail
    go_loopg [21] (N.length) (fun gq tq wr => ∃ k : Nat, k + gq = N.length ∧ tq = .int .i64 (k : Int) ∧ Below w.heap.size w wr ∧ w.heap.size + 3 ≤ wr.heap.size ∧ wr.cell? ⟨w.heap.size, 0, none⟩ = some (.slice at' Th.length ct) ∧ wr.cell? ⟨w.heap.size + 2, 0, none⟩ = some (.map (some (w.heap.size + 1))) ∧ Idx wr (w.heap.size + 1) k (lastAt N k) ∧ Aside (∀ (j : Nat) p t, j < k → N[j]? = some p → Th[j]? = some t → (T3.Tp.chk t).1 = 0 ∧ nameB p = true))
    case atStart =>
      refine ⟨0, by omega, rfl, by repeat (first | exact Below.refl _ _ | refine balloc ?_ _), by simp, ?_, ?_, ?_, fun j p t hj => absurd hj (by omega)⟩
      · simp [go_sem]
      · simp [go_sem]
      · have hI1 := hI0.kept (World.grownBy_alloc _ (.cells #[.map (some (w.heap.size + 1))] 44) none) (by simp)
        rw [show (w.alloc (.cells #[.slice at' Th.length ct] 23)).heap.size = w.heap.size + 1 by simp] at hI1
        exact hI1
    case round =>
      obtain ⟨k, hkg, rfl, hB, hsz, cT, cM, hI, HA⟩ := hrel
      clear h1 c1 hI0
      by_cases hk : k < N.length
      · have hk' : (k : Int) < (N.length : Int) := by omega
        have hk0 : (0 : Int) ≤ (k : Int) := by omega
        have hkt : (k : Int) < (Th.length : Int) := by have := HL.out; omega
        obtain ⟨p, hp⟩ := getp hk
        obtain ⟨t, htk⟩ := getp (a := Th) (k := k) (by omega)
        obtain ⟨bn, on, rfl, hcn, hbn, cN⟩ := txs_at (txs_below hn hB) hp
        obtain ⟨bt', ot, rfl, hct, hbt, cTh⟩ := txs_at (txs_below ht hB) htk
        have hps : (T3.S p).size ≤ maxLen := by rw [T3.S_size]; exact hs p (List.mem_of_getElem? hp)
        have hck := T3.check_any (T3.S t)
        have hnm := isName_any (T3.S p) hps
        rw [T3.S_list] at hck hnm
        by_cases hc : (T3.Tp.chk t).1 = 0
        · rw [T3.Tp.chk_snd hc] at hck
          cases hnb : nameB p with
          | false =>
            have HE : Aside (envB N Th = false) := envB_bad hp htk (.inr hnb)
            rw [hnb] at hnm
            clear hp htk hnb HA hn ht hc HG
            go_wp2_with (first | (go_at_call 27; refine (hck _).mono ?_; rintro e w' ⟨rfl, hw'⟩; replace hw' := hw'.symm; subst hw') | (go_at_call 11; refine (hnm _).mono ?_; rintro e w1 ⟨rfl, hB1⟩))
            go_ret2
            exact EnvEnd.no (bt hB hB1) HE.out
          | true =>
            have HA2 : Aside (∀ (j : Nat) p t, j < k + 1 → N[j]? = some p → Th[j]? = some t → (T3.Tp.chk t).1 = 0 ∧ nameB p = true) := by
              intro j p' t' hj h1 h2
              by_cases e : j = k
              · subst e; rw [hp] at h1; rw [htk] at h2; cases h1; cases h2; exact ⟨hc, hnb⟩
              · exact HA.out j p' t' (by omega) h1 h2
            have HK : Aside (∀ w', Idx w' (w.heap.size + 1) (k + 1) (fun l => if l = (T3.S p).data.toList then some k else lastAt N k l) → Idx w' (w.heap.size + 1) (k + 1) (lastAt N (k + 1))) := by
              intro w' h
              obtain ⟨D, h1, h2⟩ := h
              refine ⟨D, h1, fun l => ?_⟩
              have e : lastAt N (k + 1) l = (if l = (T3.S p).data.toList then some k else lastAt N k l) := by
                rw [lastAt, hp]
                by_cases e : l = p
                · subst e; simp [T3.S_list]
                · rw [if_neg (by intro h; exact e (Option.some.inj h).symm), if_neg (by rw [T3.S_list]; exact e)]
              rw [e]; exact h2 l
            rw [hnb] at hnm
            clear hp htk hnb HA hn ht hc
            go_wp2_with (first | (go_at_call 27; refine (hck _).mono ?_; rintro e w' ⟨rfl, hw'⟩; replace hw' := hw'.symm; subst hw') | (go_at_call 11; refine (hnm _).mono ?_; rintro e w1 ⟨rfl, hB1⟩; have cM1 := (hB1.cell (p := ⟨w.heap.size + 2, 0, none⟩) (by show w.heap.size + 2 < _; omega)).trans cM; have hI1 := hI.kept (r := none) (grown_of_below (grownBy_refl _ _) hB1) (by simp)) | (at_mapUpdate; refine wpList_idx _ rfl _ _ _ rfl (w.heap.size + 1) k (lastAt N k) rfl hI1 (by omega) (T3.S p) hps rfl k rfl (by omega) ?_; intro w2 hI2 hg2))
            go_roundg (N.length - (k + 1))
            case measure => omega
            case rel =>
              have hs1 := hB1.size
              have hs2 := hg2.size
              refine ⟨k + 1, by omega, by go_num, below_grown (bt hB hB1) hg2 (by omega), by omega, ?_, ?_, HK.out _ hI2, HA2⟩
              · exact hg2.cell ((hB1.cell (p := ⟨w.heap.size, 0, none⟩) (by show w.heap.size < _; omega)).trans cT) (by simp)
              · exact hg2.cell cM1 (by simp)
        · have hc' : (((T3.Tp.chk t).1 : Int) != 0) = true := by simpa using hc
          have HE : Aside (envB N Th = false) := envB_bad hp htk (.inl hc)
          generalize (T3.Tp.chk t).1 = q1 at *
          generalize (T3.Tp.chk t).2 = q2 at *
          clear hp htk HA hn ht hc HG
          go_wp2_with (first | (go_at_call 27; refine (hck _).mono ?_; rintro e w' ⟨rfl, hw'⟩; replace hw' := hw'.symm; subst hw'))
          go_ret2
          exact EnvEnd.no hB HE.out
      · have hk' : ¬ (k : Int) < (N.length : Int) := by omega
        obtain rfl : k = N.length := by omega
        have hE : envB N Th = true := HG.out (fun j p t h1 h2 => HA.out j p t (List.getElem?_eq_some_iff.1 h1).1 h1 h2)
        obtain ⟨ts, e1, e2, e3⟩ := envB_types hE
        have HF : Aside (EnvEnd w N Th (.returned (.tuple #[.func (.func 28) #[] #[.pointer (some ⟨w.heap.size + 2, 0, none⟩), .pointer (some ⟨w.heap.size, 0, none⟩)], .bool true])) wr) := by
          refine ⟨hB, ?_⟩
          rw [if_pos hE]
          refine ⟨_, ts, rfl, e1, e2, e3, fun a b ha hb => ⟨_, _, rfl, enters_of Tryd.func28 (by kernel_rfl) rfl, fun w' hT n hn' => ?_⟩⟩
          have hTc : ∀ {q o : Nat}, q < wr.heap.size → w'.cell? ⟨q, o, none⟩ = wr.cell? ⟨q, o, none⟩ := fun {q o} h => hT.cell (p := ⟨q, o, none⟩) h (by show q ≠ a; omega) (by show q ≠ b; omega)
          have hI' : Idx w' (w.heap.size + 1) N.length (lastAt N N.length) := by
            exact hI.kept (r := none) ⟨hT.os, hT.tape, hT.output, hT.size, fun k hk _ => hT.block k hk (by omega) (by omega)⟩ (by simp)
          have hl := look_last N ts e1 N.length (Nat.le_refl _)
          rw [List.take_of_length_le (by simp; omega)] at hl
          refine env1_any w' (w.heap.size + 2) w.heap.size (w.heap.size + 1) N.length (lastAt N N.length) ts (envOf N ts) n hn' hI' ((hTc (by omega)).trans cM) (.slice at' Th.length ct) ((hTc (by omega)).trans cT) (fun j u hu => ?_) (fun l j h => by have := lastAt_lt h; omega) hl
          have hTj : Th[j]? = some (enc u) := by rw [e2, List.getElem?_map, hu]; rfl
          obtain ⟨tb, k, h1, h2, h3, h4⟩ := txs_at (txs_below ht hB) hTj
          subst h1
          exact ⟨tb, k, ct, by rw [e2]; simp, (hTc h3).trans h4⟩
        clear HA HG hn ht cM cT hI hE e1 e2 e3
        go_wp2_with fail
        go_ret2
        exact HF.out
  · have hlb : ((N.length : Int) != (Th.length : Int)) = true := by simp; omega
    have HE : Aside (envB N Th = false) := envB_len hlen
    clear hlen
    go_enter Tryd.func19, Tryd.ntmps19
    go_wp2_with fail
    go_ret2
    exact EnvEnd.no ((Below.refl _ _).alloc (Nat.le_refl _) _) HE.out
end Go.Proofs.YthdlfeejeboboaaDoor
namespace Go.Proofs.YthdlfeejeboboaaDoor
open Go.RowKit Go.Maps Ck
open Go.WideMaps Go.WideElems
open T3.Tp (Ty enc cns met)
open Tr (T Nd nm)
set_option maxRecDepth 100000
set_option linter.unusedSimpArgs false
set_option linter.unusedVariables false

theorem inWritten_any (s : ByteArray) (w : World) : Calls Tryd.prog 36 #[.string s] w fun e w' => e = .returned (.string (In.wrS s)) ∧ w' = w := by
  by_cases h : s = ⟨#[]⟩
  · subst h
    go_enter Tryd.func36, Tryd.ntmps36
    go_wp2_with fail
    go_ret
    exact ⟨rfl, rfl⟩
  · have hs : s.size ≠ 0 := fun e => h (by obtain ⟨⟨l⟩⟩ := s; simp [ByteArray.size] at e; simp [e])
    have hb : (s.toList == []) = false := by have := (Lib.bytes_beq_false_iff s ⟨#[]⟩).2 h; simpa using this
    have HW : Aside (In.wrS s = s) := by show _ = _; unfold In.wrS; rw [if_neg hs]
    go_enter Tryd.func36, Tryd.ntmps36
    go_wp2_with fail
    go_ret
    rw [HW.out]
    exact ⟨rfl, rfl⟩
/-- How far off the names are that stand below place k. -/
def farAt (N : List (List UInt8)) (k : Nat) (l : List UInt8) : Option Nat := (lastAt N k l).map fun j => N.length - 1 - j
theorem farAt_outer (N : List (List UInt8)) (l : List UInt8) : (farAt N N.length l).getD 0 = In.outer N l := by
  unfold farAt In.outer
  cases lastAt N N.length l <;> rfl

set_option maxHeartbeats 4000000 in
theorem distances_any (N : List (List UInt8)) (hN : N.length ≤ 1000) (hs : ∀ p ∈ N, p.length ≤ maxLen) (vn : Value) (w : World) (hn : T3.IsTexts w vn N) :
    Calls Tryd.prog 13 #[vn] w fun e w' => e = .returned (.map (some w.heap.size)) ∧ Idx w' w.heap.size N.length (farAt N N.length) ∧ Below w.heap.size w w' := by
  have hmm := run_makeMap_hint
  obtain ⟨an, cn, rfl⟩ := txs_form hn
  have hI0 := Idx.made w
  go_enter Tryd.func13, Tryd.ntmps13
  go_wp2_with fail
  go_loopg [11] (N.length) (fun gq tq wr => ∃ k : Nat, k + gq = N.length ∧ tq = .int .i64 (k : Int) ∧ Below w.heap.size w wr ∧ Idx wr w.heap.size k (farAt N k))
  case atStart => exact ⟨0, by omega, rfl, (Below.refl _ _).alloc (Nat.le_refl _) _, hI0⟩
  case round =>
    obtain ⟨k, hkg, rfl, hB, hI⟩ := hrel
    clear hI0
    have hk0 : (0 : Int) ≤ (k : Int) := by omega
    by_cases hk : k < N.length
    · have hk' : (k : Int) < (N.length : Int) := by omega
      obtain ⟨p, hp⟩ := getp hk
      obtain ⟨bn, on, rfl, hcn, hbn, cN⟩ := txs_at (txs_below hn hB) hp
      have hps : (T3.S p).size ≤ maxLen := by rw [T3.S_size]; exact hs p (List.mem_of_getElem? hp)
      have HK : Aside (∀ w', Idx w' w.heap.size (k + 1) (fun l => if l = (T3.S p).data.toList then some (N.length - 1 - k) else farAt N k l) → Idx w' w.heap.size (k + 1) (farAt N (k + 1))) := by
        intro w' h
        obtain ⟨D, h1, h2⟩ := h
        refine ⟨D, h1, fun l => ?_⟩
        have e : farAt N (k + 1) l = (if l = (T3.S p).data.toList then some (N.length - 1 - k) else farAt N k l) := by
          unfold farAt
          rw [lastAt, hp]
          by_cases e : l = p
          · subst e; simp [T3.S_list]
          · rw [if_neg (by intro h; exact e (Option.some.inj h).symm), if_neg (by rw [T3.S_list]; exact e)]
        rw [e]; exact h2 l
      have hv : IntKind.i64.wrap (IntKind.i64.wrap ((N.length : Int) - 1) - (k : Int)) = ((N.length - 1 - k : Nat) : Int) := by
        rw [IntWalk.i64_in ((N.length : Int) - 1) (by omega), IntWalk.i64_in _ (by omega)]
        omega
      have hv2 : (N.length : Int) - 1 - (k : Int) = ((N.length - 1 - k : Nat) : Int) := by omega
      clear hn hp
      generalize T3.S p = sp at *
      go_wp2_with (at_mapUpdate; refine wpList_idx _ rfl _ _ _ rfl w.heap.size k (farAt N k) rfl hI (by omega) sp hps rfl (N.length - 1 - k) (by first | rfl | (simp only [go_sem]; first | exact congrArg _ hv | exact congrArg _ hv2)) (by omega) ?_; intro w2 hI2 hg2)
      go_roundg (N.length - (k + 1))
      case measure => omega
      case rel => exact ⟨k + 1, by omega, by go_num, hB.grown hg2 hB.size (fun q e => by have := Option.some.inj e; omega), HK.out w2 hI2⟩
    · have hk' : ¬ (k : Int) < (N.length : Int) := by omega
      obtain rfl : k = N.length := by omega
      go_wp2_with fail
      go_ret
      exact ⟨rfl, hI, hB⟩
theorem lastAt_back {L : List (List UInt8)} {k : Nat} {a : List UInt8} (hk : k < L.length) (h : L[L.length - 1 - k]? ≠ some a) : lastAt L (L.length - k) a = lastAt L (L.length - (k + 1)) a := by
  obtain ⟨m, hm⟩ : ∃ m, L.length - k = m + 1 := ⟨L.length - k - 1, by omega⟩
  have e1 : L.length - 1 - k = m := by omega
  have e2 : L.length - (k + 1) = m := by omega
  rw [hm, lastAt, e2, ← e1, if_neg h]
theorem lastAt_here {L : List (List UInt8)} {k : Nat} {a : List UInt8} (hk : k < L.length) (h : L[L.length - 1 - k]? = some a) : lastAt L (L.length - k) a = some (L.length - 1 - k) := by
  obtain ⟨m, hm⟩ : ∃ m, L.length - k = m + 1 := ⟨L.length - k - 1, by omega⟩
  have e1 : L.length - 1 - k = m := by omega
  rw [hm, lastAt, ← e1, if_pos h]
/-- The inserter's own map. -/
structure In.Far (w : World) (ib mb : Nat) (N : List (List UInt8)) : Prop where
  c3 : w.cell? ⟨ib, 3, none⟩ = some (.map (some mb))
  mp : Idx w mb N.length (farAt N N.length)

set_option maxHeartbeats 4000000 in
theorem distance_any (N L : List (List UInt8)) (hN : N.length ≤ 1000) (hL : L.length ≤ 100000) (s : ByteArray) (hs : s.size ≤ maxLen) (v : Value) (w : World) (ib mb : Nat) (hF : In.Far w ib mb N) (hv : T3.IsTexts w v L) :
    Calls Tryd.prog 35 #[.pointer (some ⟨ib, 0, none⟩), .string s, v] w fun e w' => e = .returned (.int .i64 (In.dist N L s.data.toList : Int)) ∧ w' = w := by
  obtain ⟨c3, hI⟩ := hF
  obtain ⟨D, hD, hat⟩ := hI
  obtain ⟨_, ha2⟩ := hat s.data.toList
  rw [farAt_outer] at ha2
  have HA2 : Aside (∀ c : Int, D.atKey (.string s.data.toList) (.lit (.int .i64 0)) = .lit (.int .i64 c) → c = (In.outer N s.data.toList : Int)) := fun c hc => by rw [ha2] at hc; simp at hc; omega
  have hol : In.outer N s.data.toList ≤ 1000 := by unfold In.outer; split <;> omega
  obtain ⟨av, cv, rfl⟩ := txs_form hv
  clear hat ha2
  go_enter Tryd.func35, Tryd.ntmps35
  go_wp2_with fail
  go_loopg [10] L.length (fun gq tq wr => wr = w ∧ ∃ k : Nat, k + gq = L.length ∧ tq = .int .i64 (k : Int) ∧ Aside (lastAt L L.length s.data.toList = lastAt L (L.length - k) s.data.toList))
  case atStart => exact ⟨rfl, 0, by omega, rfl, rfl⟩
  case round =>
    obtain ⟨rfl, k, hkg, rfl, HK⟩ := hrel
    by_cases hk : k < L.length
    · have hk' : (k : Int) < (L.length : Int) := by omega
      obtain ⟨p, hp⟩ := getp (a := L) (k := L.length - 1 - k) (by omega)
      obtain ⟨b1, o1, rfl, hc1, hb1, e0⟩ := txs_at hv hp
      have hw1 : IntKind.i64.wrap ((L.length : Int) - 1) = (L.length : Int) - 1 := IntWalk.i64_in _ (by omega)
      have hw2 : IntKind.i64.wrap ((L.length : Int) - 1 - (k : Int)) = ((L.length - 1 - k : Nat) : Int) := by rw [IntWalk.i64_in _ (by omega)]; omega
      have hw3 : (L.length : Int) - 1 - (k : Int) = ((L.length - 1 - k : Nat) : Int) := by omega
      have hj0 : (0 : Int) ≤ ((L.length - 1 - k : Nat) : Int) := by omega
      have hj1 : ((L.length - 1 - k : Nat) : Int) < (L.length : Int) := by omega
      by_cases e : T3.S p = s
      · have hq : ((T3.S p).toList == s.toList) = true := by rw [e]; simp
        have HR : Aside (In.dist N L s.data.toList = k) := by
          show _ = _
          unfold In.dist
          rw [HK.out, lastAt_here hk (by rw [hp, ← e, T3.S_list])]
          show L.length - 1 - (L.length - 1 - k) = k
          omega
        clear hv hp e HK
        generalize T3.S p = sp at *
        go_wp2_with fail
        go_ret
        rw [HR.out]
        exact ⟨rfl, rfl⟩
      · have hq : ((T3.S p).toList == s.toList) = false := (Lib.bytes_beq_false_iff (T3.S p) s).2 e
        have HS : Aside (lastAt L L.length s.data.toList = lastAt L (L.length - (k + 1)) s.data.toList) := by
          show _ = _
          rw [HK.out, lastAt_back hk]
          rw [hp]
          intro h
          apply e
          have := Option.some.inj h
          rw [this]
          obtain ⟨⟨l⟩⟩ := s
          rfl
        clear hp e HK hv
        generalize T3.S p = sp at *
        go_wp2_with fail
        go_roundg (gk - 1)
        case measure => omega
        case rel => exact ⟨rfl, k + 1, by omega, by go_num, HS⟩
    · have hk' : ¬ (k : Int) < (L.length : Int) := by omega
      have HR : Aside (In.dist N L s.data.toList = L.length + In.outer N s.data.toList) := by
        show _ = _
        unfold In.dist
        rw [HK.out, show L.length - k = 0 by omega]
        rfl
      clear HK hv
      go_wp2_with (at_lookup; refine wpList_lookup_own_int _ rfl _ _ 44 rfl 9 3 .i64 keyed9 tyCnt ty3 (kz3 _) mb N.length D rfl hD _ _ rfl (keyOf_string_mk ty9 hs) ?_; intro c hc hwc; rw [HA2.out c hc])
      go_ret
      rw [HR.out]
      exact ⟨ret_int (by omega), rfl⟩
/-- The names around: nothing, or a row of texts. -/
def IsAr (w : World) (v : Value) (L : List (List UInt8)) : Prop :=
  (L = [] ∧ v = .slice none 0 0) ∨ ∃ b o c, v = .slice (some ⟨b, o, none⟩) L.length c ∧ L.length ≤ c ∧ (∃ cur, w.heap[b]? = some (.cells cur 9 (0, 0))) ∧ ∀ j p, L[j]? = some p → w.cell? ⟨b, o + j, none⟩ = some (.string (S p))
theorem ar_lt {w : World} {b : Nat} (h : ∃ cur, w.heap[b]? = some (.cells cur 9 (0, 0))) : b < w.heap.size := by obtain ⟨cur, h⟩ := h; exact (Array.getElem?_eq_some_iff.1 h).1
theorem IsAr.texts {w : World} {v : Value} {L : List (List UInt8)} (h : IsAr w v L) : T3.IsTexts w v L := by
  rcases h with ⟨rfl, rfl⟩ | ⟨b, o, c, h0, h1, h2, h3⟩
  · exact .inl ⟨rfl, _, _, rfl⟩
  · exact .inr ⟨b, o, c, h0, h1, ar_lt h2, h3⟩
theorem IsAr.kept {w w' : World} {v : Value} {L : List (List UInt8)} (h : IsAr w v L) (k : ∀ (b : Nat) (cur : Array Value), w.heap[b]? = some (.cells cur 9 (0, 0)) → w'.heap[b]? = w.heap[b]?) : IsAr w' v L := by
  rcases h with h | ⟨b, o, c, rfl, h1, ⟨cur, h2⟩, h3⟩
  · exact .inl h
  · exact .inr ⟨b, o, c, rfl, h1, ⟨cur, (k b cur h2).trans h2⟩, fun j p hp => (World.cell?_of_block (a := ⟨b, o + j, none⟩) (k b cur h2)).trans (h3 j p hp)⟩
theorem IsAr.below {w w' : World} {v : Value} {L : List (List UInt8)} (h : IsAr w v L) (hB : Below w.heap.size w w') : IsAr w' v L := h.kept fun b cur e => hB.block b (ar_lt ⟨cur, e⟩)
theorem IsAr.own {w : World} {base : Nat} {v : Value} {L : List (List UInt8)} (h : w.ownsRow base 9 1 v L.length (tcells L)) (h0 : L ≠ []) : IsAr w v L := by
  have h2 := h
  rcases IsTexts.own h with ⟨e, _⟩ | ⟨b, o, c, e, q1, q2, q3⟩
  · exact absurd e h0
  · obtain ⟨_, ⟨e2, _⟩ | ⟨g, cap, cur, e2, r1, r2, r3⟩⟩ := h2
    · rw [e2] at e; cases e
    · have e3 := e
      rw [e2] at e3
      cases e3
      exact .inr ⟨_, _, _, e2, q1, ⟨cur, r2⟩, q3⟩
theorem ar_olds {w : World} {b o : Nat} {L : List (List UInt8)} (h : ∀ j p, L[j]? = some p → w.cell? ⟨b, o + j, none⟩ = some (.string (S p))) : ∀ j u, (tcells L)[j]? = some u → w.cell? ((⟨b, o, none⟩ : Addr).add j) = some u := by
  intro j u hu
  unfold tcells at hu
  rw [List.getElem?_map] at hu
  cases hp : L[j]? with
  | none => rw [hp] at hu; cases hu
  | some p =>
    rw [hp] at hu
    cases hu
    have := h j p hp
    unfold Addr.add
    by_cases h0 : j = 0
    · subst h0; simpa using this
    · simpa [h0] using this
theorem tcells_oneA (L : List (List UInt8)) : ∀ u ∈ tcells L, u.oneCell' = true := by
  intro u hu
  unfold tcells at hu
  obtain ⟨p, _, rfl⟩ := List.mem_map.1 hu
  rfl
theorem tcells_len (L : List (List UInt8)) : (tcells L).length = L.length := by unfold tcells; simp
theorem tcells_app (L M : List (List UInt8)) : tcells (L ++ M) = tcells L ++ tcells M := by unfold tcells; simp
end Go.Proofs.YthdlfeejeboboaaDoor
namespace Go.Proofs.YthdlfeejeboboaaDoor
open Go.RowKit Go.Maps Ck
open Go.WideMaps Go.WideElems
open T3.Tp (Ty enc cns met)
open Tr (T Nd nm flat flats)
set_option maxRecDepth 100000
set_option linter.unusedSimpArgs false
set_option linter.unusedVariables false

theorem own_keepG {w w' : World} {B e z n : Nat} {v : Value} {xs : List Value} (h : w.ownsRow B e z v n xs) (k : ∀ (g : Nat) (cur : Array Value), v.ownBlock = some g → w.heap[g]? = some (.cells cur e (0, 0)) → w'.heap[g]? = w.heap[g]?) : w'.ownsRow B e z v n xs := by
  obtain ⟨h0, ⟨rfl, rfl⟩ | ⟨g, cap, cur, rfl, h1, h2, h3, h4, h5, h6⟩⟩ := h
  · exact ⟨h0, .inl ⟨rfl, rfl⟩⟩
  · exact ⟨h0, .inr ⟨g, cap, cur, rfl, h1, (k g cur rfl h2).trans h2, h3, h4, h5, h6⟩⟩
theorem own_low {w : World} {B B' e z n : Nat} {v : Value} {xs : List Value} (h : w.ownsRow B e z v n xs) (k : B' ≤ B) : w.ownsRow B' e z v n xs := by
  obtain ⟨h0, h | ⟨g, cap, cur, rfl, h1, h2⟩⟩ := h
  · exact ⟨h0, .inl h⟩
  · exact ⟨h0, .inr ⟨g, cap, cur, rfl, Nat.le_trans k h1, h2⟩⟩
namespace In
/-- How a pointer in a map reads: by its block. -/
def ptrE (v : Value) : Option (DataW Unit × List MemPlace) := match v with
  | .pointer (some ⟨b, 0, none⟩) => some (.lit (.int .i64 (b : Int)), [])
  | _ => none
theorem ptrE_mk (b : Nat) : ptrE (.pointer (some ⟨b, 0, none⟩)) = some (.lit (.int .i64 (b : Int)), []) := rfl
theorem ptrE_inv {v : Value} {z : DataW Unit × List MemPlace} {b : Nat} (h : ptrE v = some z) (hz : z.1 = .lit (.int .i64 (b : Int))) : v = .pointer (some ⟨b, 0, none⟩) := by
  unfold ptrE at h
  split at h
  · rename_i c
    cases h
    simp at hz
    have : c = b := Int.ofNat.inj hz
    rw [this]
  · cases h
theorem tyPm : Tryd.prog.underlying 66 = some (.map 3 48) := by kernel_rfl
theorem kzPm (w : World) : (zeroValue 48).run Tryd.prog w = .ok (.pointer none) w := by kernel_rfl
theorem tyI3 : Tryd.prog.underlying 3 = some (.int .i64) := by kernel_rfl
theorem keyed3 : Maps.Keyed Tryd.prog 3 := Maps.int_keyed tyI3
/-- The map of the kids: where each lies, by its place. -/
def PMp (w : World) (mb : Nat) (pl bs : List Nat) : Prop := ∃ (D : DataW Unit) (n : Nat), w.ownsMap Tryd.prog 3 ptrE mb n D ∧ n ≤ pl.length ∧ pl.length = bs.length ∧
  ∀ (j p b : Nat), pl[j]? = some p → bs[j]? = some b → ∀ zd, D.atKey (.int .i64 (p : Int)) zd = .lit (.int .i64 (b : Int))
theorem PMp.keep {w w' : World} {mb : Nat} {pl bs : List Nat} (h : PMp w mb pl bs) (k : w'.heap[mb]? = w.heap[mb]?) : PMp w' mb pl bs := by
  obtain ⟨D, n, ⟨es, clock, hb, F, h3, rfl⟩, h4⟩ := h
  exact ⟨_, n, ⟨es, clock, k.trans hb, F, h3, rfl⟩, h4⟩
theorem PMp.isMap {w : World} {mb : Nat} {pl bs : List Nat} (h : PMp w mb pl bs) : ∃ es c, w.heap[mb]? = some (.map es c) := by
  obtain ⟨D, n, ⟨es, clock, hb, _⟩, _⟩ := h; exact ⟨es, clock, hb⟩
theorem PMp.made (w : World) : PMp (w.alloc (.map #[] 0)) w.heap.size [] [] := ⟨.map [], 0, World.ownsMap_made w _ _ _, Nat.le_refl _, rfl, fun j p b h => by simp at h⟩
theorem PMp.put {w w' : World} {mb : Nat} {pl bs : List Nat} {D : DataW Unit} {n p b : Nat} (hD : w.ownsMap Tryd.prog 3 ptrE mb n D) (hn : n ≤ pl.length) (hl : pl.length = bs.length) (hat : ∀ (j p b : Nat), pl[j]? = some p → bs[j]? = some b → ∀ zd, D.atKey (.int .i64 (p : Int)) zd = .lit (.int .i64 (b : Int))) (hp : p ∉ pl)
    (h1 : w'.ownsMap Tryd.prog 3 ptrE mb (n + 1) (D.put (.int .i64 (p : Int)) (.lit (.int .i64 (b : Int))))) : PMp w' mb (pl ++ [p]) (bs ++ [b]) := by
  refine ⟨_, _, h1, by simp; omega, by simp [hl], fun j q c hq hc zd => ?_⟩
  by_cases hj : j < pl.length
  · rw [List.getElem?_append_left hj] at hq
    rw [List.getElem?_append_left (by omega)] at hc
    have hne : q ≠ p := fun e => hp (e ▸ List.mem_of_getElem? hq)
    rw [atKey_put_other (by intro h; cases h; exact hne rfl)]
    exact hat j q c hq hc zd
  · have hj' : j = pl.length := by
      have := (List.getElem?_eq_some_iff.1 hq).1
      simp at this; omega
    subst hj'
    rw [List.getElem?_append_right (Nat.le_refl _)] at hq
    rw [hl, List.getElem?_append_right (Nat.le_refl _)] at hc
    simp at hq hc
    subst hq hc
    exact atKey_put_same hD.isMap (by trivial) ..
theorem PMp.look {w : World} {mb : Nat} {pl bs : List Nat} (h : PMp w mb pl bs) {j p b : Nat} (hp : pl[j]? = some p) (hb : bs[j]? = some b) (hp2 : p < 9223372036854775807) :
    (Instr.lookup 66 (.map (some mb)) (.int .i64 (p : Int)) false).run Tryd.prog w = .ok (.pointer (some ⟨b, 0, none⟩)) w := by
  obtain ⟨D, n, ⟨es, clock, hm, F, _, rfl⟩, _, _, hat⟩ := h
  have hkey : keyOf Tryd.prog 3 (.int .i64 (p : Int)) = some (.int .i64 (p : Int)) := keyOf_int_mk tyI3 (by apply WalkArith.wf_i64; omega)
  rcases Maps.fit_look false keyed3 tyPm (kzPm w) hm F hkey with ⟨hrun, _, hz⟩ | ⟨e0, y, _, _, hrun, hRv, hz, _⟩
  · have h1 := hz (.lit (.bool true))
    rw [hat j p b hp hb] at h1
    cases h1
  · have h1 := hz (.lit (.bool true))
    rw [hat j p b hp hb] at h1
    rw [hrun, ptrE_inv hRv h1.symm]
    rfl
/-- The place that a part tells. -/
def PT.plc : PT → Nat
  | .pt p _ _ => p
def icells (pl : List Nat) : List Value := pl.map fun (p : Nat) => Value.int .i64 (p : Int)
/-- A part's own block, its kids' places, and the map of its kids. -/
structure Pn (w : World) (b at' : Nat) (va : Value) (kb mb n : Nat) (cur : List Value) (pl bs : List Nat) : Prop where
  blk : w.heap[b]? = some (.cells #[.int .i64 (at' : Int), va, .slice (some ⟨kb, 0, none⟩) n n, .map (some mb)] 68 (0, 0))
  row : w.heap[kb]? = some (.cells cur.toArray 3 (0, 0))
  mp : PMp w mb pl bs
mutual
/-- A part as it lies in memory: its own block b and all that hangs on it, what it holds of nodes aside, among the blocks from lo below hi. -/
def IsPT (w : World) : PT → Nat → Nat → Nat → Prop
  | .pt at' ah ks, lo, hi, b => ∃ va kb mb bs m, lo ≤ b ∧ b < m ∧ lo ≤ kb ∧ kb < m ∧ lo ≤ mb ∧ mb < m ∧ Pn w b at' va kb mb ks.length (icells (ks.map PT.plc)) (ks.map PT.plc) bs ∧ w.ownsRow 0 36 8 va ah.length (nrow ah) ∧ IsPTs w ks m hi bs
/-- Parts one behind the other. -/
def IsPTs (w : World) : List PT → Nat → Nat → List Nat → Prop
  | [], lo, hi, bs => bs = [] ∧ lo ≤ hi
  | p :: r, lo, hi, bs => ∃ b bs' m, bs = b :: bs' ∧ IsPT w p lo m b ∧ IsPTs w r m hi bs'
end
/-- What parts hang on: rows of nodes wherever, all else from lo below hi. -/
structure Kp (lo hi : Nat) (w w' : World) : Prop where
  nd : ∀ (k : Nat) (cur : Array Value), w.heap[k]? = some (.cells cur 36 (0, 0)) → w'.heap[k]? = w.heap[k]?
  pt : ∀ (k : Nat) (cur : Array Value), lo ≤ k → k < hi → w.heap[k]? = some (.cells cur 68 (0, 0)) → w'.heap[k]? = w.heap[k]?
  it : ∀ (k : Nat) (cur : Array Value), lo ≤ k → k < hi → w.heap[k]? = some (.cells cur 3 (0, 0)) → w'.heap[k]? = w.heap[k]?
  mp : ∀ (k : Nat) (es : Array MapEntry) (c : Nat), lo ≤ k → k < hi → w.heap[k]? = some (.map es c) → w'.heap[k]? = w.heap[k]?
theorem Kp.sub {lo hi lo' hi' : Nat} {w w' : World} (h : Kp lo hi w w') (h1 : lo ≤ lo') (h2 : hi' ≤ hi) : Kp lo' hi' w w' :=
  ⟨h.nd, fun k c a b => h.pt k c (by omega) (by omega), fun k c a b => h.it k c (by omega) (by omega), fun k c d a b => h.mp k c d (by omega) (by omega)⟩
theorem Pn.keep {w w' : World} {b at' kb mb n lo m : Nat} {va : Value} {cur : List Value} {pl bs : List Nat} (h : Pn w b at' va kb mb n cur pl bs) (k : Kp lo m w w') (h1 : lo ≤ b) (h2 : b < m) (h3 : lo ≤ kb) (h4 : kb < m) (h5 : lo ≤ mb) (h6 : mb < m) : Pn w' b at' va kb mb n cur pl bs := by
  obtain ⟨es, c, hm⟩ := h.mp.isMap
  exact ⟨(k.pt _ _ h1 h2 h.blk).trans h.blk, (k.it _ _ h3 h4 h.row).trans h.row, h.mp.keep (k.mp _ _ _ h5 h6 hm)⟩
mutual
theorem isPT_le {w : World} : ∀ (p : PT) {lo hi b : Nat}, IsPT w p lo hi b → lo ≤ b ∧ b < hi
  | .pt at' ah ks, lo, hi, b, h => by
    rw [IsPT] at h
    obtain ⟨va, kb, mb, bs, m, h1, h2, h3, h4, h5, h6, h7, h8, h9⟩ := h
    have := isPTs_le ks h9
    omega
theorem isPTs_le {w : World} : ∀ (ks : List PT) {lo hi : Nat} {bs : List Nat}, IsPTs w ks lo hi bs → lo ≤ hi
  | [], lo, hi, bs, h => by rw [IsPTs] at h; exact h.2
  | p :: r, lo, hi, bs, h => by
    rw [IsPTs] at h
    obtain ⟨b, bs', m, _, h1, h2⟩ := h
    have := isPT_le p h1
    have := isPTs_le r h2
    omega
end
mutual
theorem isPT_keep {w w' : World} : ∀ (p : PT) {lo hi b : Nat}, IsPT w p lo hi b → Kp lo hi w w' → IsPT w' p lo hi b
  | .pt at' ah ks, lo, hi, b, h, k => by
    rw [IsPT] at h ⊢
    obtain ⟨va, kb, mb, bs, m, h1, h2, h3, h4, h5, h6, h7, h8, h9⟩ := h
    have hm := isPTs_le ks h9
    exact ⟨va, kb, mb, bs, m, h1, h2, h3, h4, h5, h6, h7.keep (k.sub (Nat.le_refl _) hm) h1 h2 h3 h4 h5 h6, own_keepG h8 (fun g cur _ hc => k.nd g cur hc), isPTs_keep ks h9 (k.sub (by omega) (Nat.le_refl _))⟩
theorem isPTs_keep {w w' : World} : ∀ (ks : List PT) {lo hi : Nat} {bs : List Nat}, IsPTs w ks lo hi bs → Kp lo hi w w' → IsPTs w' ks lo hi bs
  | [], lo, hi, bs, h, k => by rw [IsPTs] at h ⊢; exact h
  | p :: r, lo, hi, bs, h, k => by
    rw [IsPTs] at h ⊢
    obtain ⟨b, bs', m, h0, h1, h2⟩ := h
    have e1 := isPT_le p h1
    have e2 := isPTs_le r h2
    exact ⟨b, bs', m, h0, isPT_keep p h1 (k.sub (Nat.le_refl _) e2), isPTs_keep r h2 (k.sub (by omega) (Nat.le_refl _))⟩
end
theorem isPTs_up {w : World} : ∀ (ks : List PT) {lo hi hi' : Nat} {bs : List Nat}, IsPTs w ks lo hi bs → hi ≤ hi' → IsPTs w ks lo hi' bs
  | [], lo, hi, hi', bs, h, k => by rw [IsPTs] at h ⊢; exact ⟨h.1, by omega⟩
  | p :: r, lo, hi, hi', bs, h, k => by
    rw [IsPTs] at h ⊢
    obtain ⟨b, bs', m, h0, h1, h2⟩ := h
    exact ⟨b, bs', m, h0, h1, isPTs_up r h2 k⟩
theorem isPT_up {w : World} : ∀ (p : PT) {lo hi hi' b : Nat}, IsPT w p lo hi b → hi ≤ hi' → IsPT w p lo hi' b
  | .pt at' ah ks, lo, hi, hi', b, h, k => by
    rw [IsPT] at h ⊢
    obtain ⟨va, kb, mb, bs, m, h1, h2, h3, h4, h5, h6, h7, h8, h9⟩ := h
    exact ⟨va, kb, mb, bs, m, h1, h2, h3, h4, h5, h6, h7, h8, isPTs_up ks h9 k⟩
theorem isPTs_snoc {w : World} : ∀ (ks : List PT) {lo mid hi b : Nat} {bs : List Nat} {p : PT}, IsPTs w ks lo mid bs → IsPT w p mid hi b → IsPTs w (ks ++ [p]) lo hi (bs ++ [b])
  | [], lo, mid, hi, b, bs, p, h, k => by
    rw [IsPTs] at h
    obtain ⟨rfl, h⟩ := h
    rw [List.nil_append, IsPTs]
    have hk := isPT_le p k
    refine ⟨b, [], hi, rfl, ?_, by rw [IsPTs]; exact ⟨rfl, Nat.le_refl _⟩⟩
    obtain ⟨a', ah, ks⟩ := p
    rw [IsPT] at k ⊢
    obtain ⟨va, kb, mb, bs, m, h1, h2, h3, h4, h5, h6, h7⟩ := k
    exact ⟨va, kb, mb, bs, m, by omega, h2, by omega, h4, by omega, h6, h7⟩
  | q :: r, lo, mid, hi, b, bs, p, h, k => by
    rw [IsPTs] at h
    obtain ⟨b', bs', m, rfl, h1, h2⟩ := h
    rw [List.cons_append, IsPTs]
    exact ⟨b', bs' ++ [b], m, rfl, h1, isPTs_snoc r h2 k⟩
theorem isPTs_len {w : World} : ∀ (ks : List PT) {lo hi : Nat} {bs : List Nat}, IsPTs w ks lo hi bs → bs.length = ks.length
  | [], lo, hi, bs, h => by rw [IsPTs] at h; rw [h.1]; rfl
  | p :: r, lo, hi, bs, h => by
    rw [IsPTs] at h
    obtain ⟨b, bs', m, rfl, h1, h2⟩ := h
    simp [isPTs_len r h2]
/-- One of the parts. -/
theorem isPTs_at {w : World} : ∀ (ks : List PT) {lo hi : Nat} {bs : List Nat}, IsPTs w ks lo hi bs → ∀ {k : Nat} {p : PT}, ks[k]? = some p → ∃ b l h, bs[k]? = some b ∧ lo ≤ l ∧ h ≤ hi ∧ IsPT w p l h b
  | [], lo, hi, bs, h, k, p, hp => by simp at hp
  | q :: r, lo, hi, bs, h, k, p, hp => by
    rw [IsPTs] at h
    obtain ⟨b, bs', m, rfl, h1, h2⟩ := h
    have e1 := isPT_le q h1
    have e2 := isPTs_le r h2
    cases k with
    | zero => simp at hp; subst hp; exact ⟨b, lo, m, rfl, Nat.le_refl _, e2, h1⟩
    | succ k =>
      obtain ⟨b', l, hh, k1, k2, k3, k4⟩ := isPTs_at r h2 (k := k) (by simpa using hp)
      exact ⟨b', l, hh, by simpa using k1, by omega, k3, k4⟩
theorem setc {w : World} {b o : Nat} {C : Array Value} {t : TypeId} {u : Value} (h : w.heap[b]? = some (.cells C t (0, 0))) : (w.setCell ⟨b, o, none⟩ u).heap[b]? = some (.cells (C.setIfInBounds o u) t (0, 0)) := by
  simp [World.setCell, Array.getElem?_modify, h]
theorem setc_ne {w : World} {b o k : Nat} {u : Value} (h : k ≠ b) : (w.setCell ⟨b, o, none⟩ u).heap[k]? = w.heap[k]? := Below.heap_setCell _ _ _ _ h
/-- A part's own cell is set. -/
theorem Kp.set {lo hi b : Nat} {w : World} {C : Array Value} (h : w.heap[b]? = some (.cells C 68 (0, 0))) (hb : b < lo ∨ hi ≤ b) (o : Nat) (u : Value) : Kp lo hi w (w.setCell ⟨b, o, none⟩ u) := by
  refine ⟨fun k cur hk => setc_ne ?_, fun k cur h1 h2 hk => setc_ne (by omega), fun k cur h1 h2 hk => setc_ne (by omega), fun k es c h1 h2 hk => setc_ne (by omega)⟩
  rintro rfl
  rw [h] at hk
  cases hk
/-- A cast is laid around a part: what stands ahead of it is another row. -/
theorem isPT_lay {w : World} {va' : Value} {c : Nd} : ∀ (p : PT) {lo hi b : Nat}, IsPT w p lo hi b → (∀ at' ah ks, p = .pt at' ah ks → w.ownsRow 0 36 8 va' (ah.length + 1) (nrow (c :: ah))) → IsPT (w.setCell ⟨b, 1, none⟩ va') (lay c p) lo hi b
  | .pt at' ah ks, lo, hi, b, h, k => by
    have k := k at' ah ks rfl
    rw [lay]
    rw [IsPT] at h ⊢
    obtain ⟨va, kb, mb, bs, m, h1, h2, h3, h4, h5, h6, ⟨q1, q2, q3⟩, h8, h9⟩ := h
    have hkb : kb ≠ b := by
      rintro rfl
      rw [q1] at q2
      have q4 := Option.some.inj q2
      injection q4 with _ q5 _
      exact absurd q5 (by decide)
    obtain ⟨es, cc, hm⟩ := q3.isMap
    have hmb : mb ≠ b := by rintro rfl; rw [q1] at hm; cases hm
    have hm := isPTs_le ks h9
    refine ⟨va', kb, mb, bs, m, h1, h2, h3, h4, h5, h6, ⟨?_, (setc_ne hkb).trans q2, q3.keep (setc_ne hmb)⟩, ?_, isPTs_keep ks h9 (Kp.set q1 (.inl h2) 1 va')⟩
    · rw [setc q1]; rfl
    · refine own_keepG k (fun g cur _ hc => setc_ne ?_)
      rintro rfl
      rw [q1] at hc
      cases hc
theorem isPTs_lay {w : World} {va' : Value} {c : Nd} : ∀ (ks : List PT) {lo hi k b : Nat} {bs : List Nat}, IsPTs w ks lo hi bs → bs[k]? = some b → (∀ at' ah ks', ks[k]? = some (.pt at' ah ks') → w.ownsRow 0 36 8 va' (ah.length + 1) (nrow (c :: ah))) → IsPTs (w.setCell ⟨b, 1, none⟩ va') (ks.modify k (lay c)) lo hi bs
  | [], lo, hi, k, b, bs, h, hb, _ => by rw [IsPTs] at h; rw [h.1] at hb; simp at hb
  | p :: r, lo, hi, k, b, bs, h, hb, hv => by
    rw [IsPTs] at h
    obtain ⟨b0, bs', m, rfl, h1, h2⟩ := h
    have e1 := isPT_le p h1
    have e2 := isPTs_le r h2
    have part_blk : ∀ (p : PT) {lo hi b : Nat}, IsPT w p lo hi b → ∃ C, w.heap[b]? = some (.cells C 68 (0, 0)) := fun p lo hi b h => by
      obtain ⟨a', ah, ks⟩ := p
      rw [IsPT] at h
      obtain ⟨va, kb, mb, bs, m, _, _, _, _, _, _, q, _⟩ := h
      exact ⟨_, q.blk⟩
    cases k with
    | zero =>
      simp at hb
      subst hb
      rw [List.modify_zero_cons, IsPTs]
      obtain ⟨C, hC⟩ := part_blk p h1
      exact ⟨b0, bs', m, rfl, isPT_lay p h1 (fun a ah ks e => hv a ah ks (by simp [e])), isPTs_keep r h2 (Kp.set hC (.inl e1.2) 1 va')⟩
    | succ k =>
      rw [List.modify_succ_cons, IsPTs]
      have hb' : bs'[k]? = some b := by simpa using hb
      have hkl : k < r.length := by rw [← isPTs_len r h2]; exact (List.getElem?_eq_some_iff.1 hb').1
      obtain ⟨b2, l, hh, k1, k2, k3, k4⟩ := isPTs_at r h2 (k := k) (p := r[k]) (List.getElem?_eq_getElem hkl)
      obtain rfl : b2 = b := by rw [hb'] at k1; exact (Option.some.inj k1).symm
      have e3 := isPT_le _ k4
      obtain ⟨C, hC⟩ := part_blk _ k4
      exact ⟨b0, bs', m, rfl, isPT_keep p h1 (Kp.set hC (.inr (by omega)) 1 va'), isPTs_lay r h2 hb' (fun a ah ks e => hv a ah ks (by simpa using e))⟩
end In
end Go.Proofs.YthdlfeejeboboaaDoor
