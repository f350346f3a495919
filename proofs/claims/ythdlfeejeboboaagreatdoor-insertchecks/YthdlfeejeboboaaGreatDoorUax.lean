/- Package insert: written, distances, distance, within. Package insert: parts as they lie in memory. Package insert: the inserter in its block; what may change. Append of a row that lies somewhere, or of nothing, onto a row of the call's own. Package insert: cast. -/
import Derived.Test.YthdlfeejeboboaaGreatDoorUav
import Derived.Test.YthdlfeejeboboaaGreatDoorUaw
import Derived.Test.YthdlfeejeboboaaGreatDoorUaj
import Derived.Maps.OwnOps
import Derived.Test.YthdlfeejeboboaaGreatDoorUan
import Derived.Maps.OwnSet
import Derived.Maps.Views
import Derived.Deep.AppendLies
import Derived.Deep.RegionHeld3
import Derived.RegionTactic
import Derived.BigRegion
import Derived.Deep.RegionLaw
namespace Go.Proofs.YthdlfeejeboboaaGreatDoor
open Go.RowKit Go.Maps Ck
open Go.WideMaps Go.WideElems
open T3.Tp (Ty enc cns met)
open Tr (T Nd nm)
set_option maxRecDepth 100000
set_option linter.unusedSimpArgs false
set_option linter.unusedVariables false

theorem inWritten_any (s : ByteArray) (w : World) : Calls Tryz.prog 119 #[.string s] w fun e w' => e = .returned (.string (In.wrS s)) ∧ w' = w := by
  by_cases h : s = ⟨#[]⟩
  · subst h
    go_enter Tryz.func119, Tryz.ntmps119
    go_wp2_with fail
    go_ret
    exact ⟨rfl, rfl⟩
  · have hs : s.size ≠ 0 := fun e => h (by obtain ⟨⟨l⟩⟩ := s; simp [ByteArray.size] at e; simp [e])
    have hb : (s.toList == []) = false := by have := (Lib.bytes_beq_false_iff s ⟨#[]⟩).2 h; simpa using this
    have HW : Aside (In.wrS s = s) := by show _ = _; unfold In.wrS; rw [if_neg hs]
    go_enter Tryz.func119, Tryz.ntmps119
    go_wp2_with fail
    go_ret
    rw [HW.out]
    exact ⟨rfl, rfl⟩
def farAt (N : List (List UInt8)) (k : Nat) (l : List UInt8) : Option Nat := (lastAt N k l).map fun j => N.length - 1 - j
theorem farAt_outer (N : List (List UInt8)) (l : List UInt8) : (farAt N N.length l).getD 0 = In.outer N l := by
  unfold farAt In.outer
  cases lastAt N N.length l <;> rfl

set_option maxHeartbeats 4000000 in
theorem distances_any (N : List (List UInt8)) (hN : N.length ≤ 1000) (hs : ∀ p ∈ N, p.length ≤ maxLen) (vn : Value) (w : World) (hn : T3.IsTexts w vn N) :
    Calls Tryz.prog 25 #[vn] w fun e w' => e = .returned (.map (some w.heap.size)) ∧ Idx w' w.heap.size N.length (farAt N N.length) ∧ Below w.heap.size w w' := by
  have hmm := run_makeMap_hint
  obtain ⟨an, cn, rfl⟩ := txs_form hn
  have hI0 := Idx.made w
  go_enter Tryz.func25, Tryz.ntmps25
  go_wp2_with fail
  go_loopg [11] (N.length) (fun gq tq wr => ∃ k : Nat, k + gq = N.length ∧ tq = .int .i64 (k : Int) ∧ Below w.heap.size w wr ∧ Idx wr w.heap.size k (farAt N k))
  case atStart => exact ⟨0, by omega, rfl, (Below.refl _ _).alloc (Nat.le_refl _) _, hI0⟩
  case round =>
    obtain ⟨k, hkg, rfl, hB, hI⟩ := hrel
    clear hI0
    have hk0 : (0 : Int) ≤ (k : Int) := by omega
    by_cases hk : k < N.length
    · have hk' : (k : Int) < (N.length : Int) := by omega
      obtain ⟨p, hp⟩ := getp hk
      obtain ⟨bn, on, rfl, hcn, hbn, cN⟩ := txs_at (txs_below hn hB) hp
      have hps : (T3.S p).size ≤ maxLen := by rw [T3.S_size]; exact hs p (List.mem_of_getElem? hp)
      have HK : Aside (∀ w', Idx w' w.heap.size (k + 1) (fun l => if l = (T3.S p).data.toList then some (N.length - 1 - k) else farAt N k l) → Idx w' w.heap.size (k + 1) (farAt N (k + 1))) := by
        intro w' h
        obtain ⟨D, h1, h2⟩ := h
        refine ⟨D, h1, fun l => ?_⟩
        have e : farAt N (k + 1) l = (if l = (T3.S p).data.toList then some (N.length - 1 - k) else farAt N k l) := by
          unfold farAt
          rw [lastAt, hp]
          by_cases e : l = p
          · subst e; simp [T3.S_list]
          · rw [if_neg (by intro h; exact e (Option.some.inj h).symm), if_neg (by rw [T3.S_list]; exact e)]
        rw [e]; exact h2 l
      have hv : IntKind.i64.wrap (IntKind.i64.wrap ((N.length : Int) - 1) - (k : Int)) = ((N.length - 1 - k : Nat) : Int) := by
        rw [IntWalk.i64_in ((N.length : Int) - 1) (by omega), IntWalk.i64_in _ (by omega)]
        omega
      have hv2 : (N.length : Int) - 1 - (k : Int) = ((N.length - 1 - k : Nat) : Int) := by omega
      clear hn hp
      generalize T3.S p = sp at *
      go_wp2_with (at_mapUpdate; refine wpList_idx _ rfl _ _ _ rfl w.heap.size k (farAt N k) rfl hI (by omega) sp hps rfl (N.length - 1 - k) (by first | rfl | (simp only [go_sem]; first | exact congrArg _ hv | exact congrArg _ hv2)) (by omega) ?_; intro w2 hI2 hg2)
      go_roundg (N.length - (k + 1))
      case measure => omega
      case rel => exact ⟨k + 1, by omega, by go_num, hB.grown hg2 hB.size (fun q e => by have := Option.some.inj e; omega), HK.out w2 hI2⟩
    · have hk' : ¬ (k : Int) < (N.length : Int) := by omega
      obtain rfl : k = N.length := by omega
      go_wp2_with fail
      go_ret
      exact ⟨rfl, hI, hB⟩
theorem lastAt_back {L : List (List UInt8)} {k : Nat} {a : List UInt8} (hk : k < L.length) (h : L[L.length - 1 - k]? ≠ some a) : lastAt L (L.length - k) a = lastAt L (L.length - (k + 1)) a := by
  obtain ⟨m, hm⟩ : ∃ m, L.length - k = m + 1 := ⟨L.length - k - 1, by omega⟩
  have e1 : L.length - 1 - k = m := by omega
  have e2 : L.length - (k + 1) = m := by omega
  rw [hm, lastAt, e2, ← e1, if_neg h]
theorem lastAt_here {L : List (List UInt8)} {k : Nat} {a : List UInt8} (hk : k < L.length) (h : L[L.length - 1 - k]? = some a) : lastAt L (L.length - k) a = some (L.length - 1 - k) := by
  obtain ⟨m, hm⟩ : ∃ m, L.length - k = m + 1 := ⟨L.length - k - 1, by omega⟩
  have e1 : L.length - 1 - k = m := by omega
  rw [hm, lastAt, ← e1, if_pos h]
structure In.Far (w : World) (ib mb : Nat) (N : List (List UInt8)) : Prop where
  c3 : w.cell? ⟨ib, 3, none⟩ = some (.map (some mb))
  mp : Idx w mb N.length (farAt N N.length)

set_option maxHeartbeats 4000000 in
theorem distance_any (N L : List (List UInt8)) (hN : N.length ≤ 1000) (hL : L.length ≤ 100000) (s : ByteArray) (hs : s.size ≤ maxLen) (v : Value) (w : World) (ib mb : Nat) (hF : In.Far w ib mb N) (hv : T3.IsTexts w v L) :
    Calls Tryz.prog 118 #[.pointer (some ⟨ib, 0, none⟩), .string s, v] w fun e w' => e = .returned (.int .i64 (In.dist N L s.data.toList : Int)) ∧ w' = w := by
  obtain ⟨c3, hI⟩ := hF
  obtain ⟨D, hD, hat⟩ := hI
  obtain ⟨_, ha2⟩ := hat s.data.toList
  rw [farAt_outer] at ha2
  have HA2 : Aside (∀ c : Int, D.atKey (.string s.data.toList) (.lit (.int .i64 0)) = .lit (.int .i64 c) → c = (In.outer N s.data.toList : Int)) := fun c hc => by rw [ha2] at hc; simp at hc; omega
  have hol : In.outer N s.data.toList ≤ 1000 := by unfold In.outer; split <;> omega
  obtain ⟨av, cv, rfl⟩ := txs_form hv
  clear hat ha2
  go_enter Tryz.func118, Tryz.ntmps118
  go_wp2_with fail
  go_loopg [10] L.length (fun gq tq wr => wr = w ∧ ∃ k : Nat, k + gq = L.length ∧ tq = .int .i64 (k : Int) ∧ Aside (lastAt L L.length s.data.toList = lastAt L (L.length - k) s.data.toList))
  case atStart => exact ⟨rfl, 0, by omega, rfl, rfl⟩
  case round =>
    obtain ⟨rfl, k, hkg, rfl, HK⟩ := hrel
    by_cases hk : k < L.length
    · have hk' : (k : Int) < (L.length : Int) := by omega
      obtain ⟨p, hp⟩ := getp (a := L) (k := L.length - 1 - k) (by omega)
      obtain ⟨b1, o1, rfl, hc1, hb1, e0⟩ := txs_at hv hp
      have hw1 : IntKind.i64.wrap ((L.length : Int) - 1) = (L.length : Int) - 1 := IntWalk.i64_in _ (by omega)
      have hw2 : IntKind.i64.wrap ((L.length : Int) - 1 - (k : Int)) = ((L.length - 1 - k : Nat) : Int) := by rw [IntWalk.i64_in _ (by omega)]; omega
      have hw3 : (L.length : Int) - 1 - (k : Int) = ((L.length - 1 - k : Nat) : Int) := by omega
      have hj0 : (0 : Int) ≤ ((L.length - 1 - k : Nat) : Int) := by omega
      have hj1 : ((L.length - 1 - k : Nat) : Int) < (L.length : Int) := by omega
      by_cases e : T3.S p = s
      · have hq : ((T3.S p).toList == s.toList) = true := by rw [e]; simp
        have HR : Aside (In.dist N L s.data.toList = k) := by
          show _ = _
          unfold In.dist
          rw [HK.out, lastAt_here hk (by rw [hp, ← e, T3.S_list])]
          show L.length - 1 - (L.length - 1 - k) = k
          omega
        clear hv hp e HK
        generalize T3.S p = sp at *
        go_wp2_with fail
        go_ret
        rw [HR.out]
        exact ⟨rfl, rfl⟩
      · have hq : ((T3.S p).toList == s.toList) = false := (Lib.bytes_beq_false_iff (T3.S p) s).2 e
        have HS : Aside (lastAt L L.length s.data.toList = lastAt L (L.length - (k + 1)) s.data.toList) := by
          show _ = _
          rw [HK.out, lastAt_back hk]
          rw [hp]
          intro h
          apply e
          have := Option.some.inj h
          rw [this]
          obtain ⟨⟨l⟩⟩ := s
          rfl
        clear hp e HK hv
        generalize T3.S p = sp at *
        go_wp2_with fail
        go_roundg (gk - 1)
        case measure => omega
        case rel => exact ⟨rfl, k + 1, by omega, by go_num, HS⟩
    · have hk' : ¬ (k : Int) < (L.length : Int) := by omega
      have HR : Aside (In.dist N L s.data.toList = L.length + In.outer N s.data.toList) := by
        show _ = _
        unfold In.dist
        rw [HK.out, show L.length - k = 0 by omega]
        rfl
      clear HK hv
      go_wp2_with (at_lookup; refine wpList_lookup_own_int _ rfl _ _ 79 rfl 9 3 .i64 keyed9 tyCnt ty3 (kz3 _) mb N.length D rfl hD _ _ rfl (keyOf_string_mk ty9 hs) ?_; intro c hc hwc; rw [HA2.out c hc])
      go_ret
      rw [HR.out]
      exact ⟨ret_int (by omega), rfl⟩
def IsAr (w : World) (v : Value) (L : List (List UInt8)) : Prop :=
  (L = [] ∧ v = .slice none 0 0) ∨ ∃ b o c, v = .slice (some ⟨b, o, none⟩) L.length c ∧ L.length ≤ c ∧ (∃ cur, w.heap[b]? = some (.cells cur 9 (0, 0))) ∧ ∀ j p, L[j]? = some p → w.cell? ⟨b, o + j, none⟩ = some (.string (S p))
theorem ar_lt {w : World} {b : Nat} (h : ∃ cur, w.heap[b]? = some (.cells cur 9 (0, 0))) : b < w.heap.size := by obtain ⟨cur, h⟩ := h; exact (Array.getElem?_eq_some_iff.1 h).1
theorem IsAr.texts {w : World} {v : Value} {L : List (List UInt8)} (h : IsAr w v L) : T3.IsTexts w v L := by
  rcases h with ⟨rfl, rfl⟩ | ⟨b, o, c, h0, h1, h2, h3⟩
  · exact .inl ⟨rfl, _, _, rfl⟩
  · exact .inr ⟨b, o, c, h0, h1, ar_lt h2, h3⟩
theorem IsAr.kept {w w' : World} {v : Value} {L : List (List UInt8)} (h : IsAr w v L) (k : ∀ (b : Nat) (cur : Array Value), w.heap[b]? = some (.cells cur 9 (0, 0)) → w'.heap[b]? = w.heap[b]?) : IsAr w' v L := by
  rcases h with h | ⟨b, o, c, rfl, h1, ⟨cur, h2⟩, h3⟩
  · exact .inl h
  · exact .inr ⟨b, o, c, rfl, h1, ⟨cur, (k b cur h2).trans h2⟩, fun j p hp => (World.cell?_of_block (a := ⟨b, o + j, none⟩) (k b cur h2)).trans (h3 j p hp)⟩
theorem IsAr.below {w w' : World} {v : Value} {L : List (List UInt8)} (h : IsAr w v L) (hB : Below w.heap.size w w') : IsAr w' v L := h.kept fun b cur e => hB.block b (ar_lt ⟨cur, e⟩)
theorem IsAr.own {w : World} {base : Nat} {v : Value} {L : List (List UInt8)} (h : w.ownsRow base 9 1 v L.length (tcells L)) (h0 : L ≠ []) : IsAr w v L := by
  have h2 := h
  rcases IsTexts.own h with ⟨e, _⟩ | ⟨b, o, c, e, q1, q2, q3⟩
  · exact absurd e h0
  · obtain ⟨_, ⟨e2, _⟩ | ⟨g, cap, cur, e2, r1, r2, r3⟩⟩ := h2
    · rw [e2] at e; cases e
    · have e3 := e
      rw [e2] at e3
      cases e3
      exact .inr ⟨_, _, _, e2, q1, ⟨cur, r2⟩, q3⟩
theorem ar_olds {w : World} {b o : Nat} {L : List (List UInt8)} (h : ∀ j p, L[j]? = some p → w.cell? ⟨b, o + j, none⟩ = some (.string (S p))) : ∀ j u, (tcells L)[j]? = some u → w.cell? ((⟨b, o, none⟩ : Addr).add j) = some u := by
  intro j u hu
  unfold tcells at hu
  rw [List.getElem?_map] at hu
  cases hp : L[j]? with
  | none => rw [hp] at hu; cases hu
  | some p =>
    rw [hp] at hu
    cases hu
    have := h j p hp
    unfold Addr.add
    by_cases h0 : j = 0
    · subst h0; simpa using this
    · simpa [h0] using this
theorem tcells_len (L : List (List UInt8)) : (tcells L).length = L.length := by unfold tcells; simp
theorem tcells_app (L M : List (List UInt8)) : tcells (L ++ M) = tcells L ++ tcells M := by unfold tcells; simp
end Go.Proofs.YthdlfeejeboboaaGreatDoor
namespace Go.Proofs.YthdlfeejeboboaaGreatDoor
open Go.RowKit Go.Maps Ck
open Go.WideMaps Go.WideElems
open T3.Tp (Ty enc cns met)
open Tr (T Nd nm flat flats)
set_option maxRecDepth 100000
set_option linter.unusedSimpArgs false
set_option linter.unusedVariables false

theorem own_keepG {w w' : World} {B e z n : Nat} {v : Value} {xs : List Value} (h : w.ownsRow B e z v n xs) (k : ∀ (g : Nat) (cur : Array Value), v.ownBlock = some g → w.heap[g]? = some (.cells cur e (0, 0)) → w'.heap[g]? = w.heap[g]?) : w'.ownsRow B e z v n xs := by
  obtain ⟨h0, ⟨rfl, rfl⟩ | ⟨g, cap, cur, rfl, h1, h2, h3, h4, h5, h6⟩⟩ := h
  · exact ⟨h0, .inl ⟨rfl, rfl⟩⟩
  · exact ⟨h0, .inr ⟨g, cap, cur, rfl, h1, (k g cur rfl h2).trans h2, h3, h4, h5, h6⟩⟩
theorem own_low {w : World} {B B' e z n : Nat} {v : Value} {xs : List Value} (h : w.ownsRow B e z v n xs) (k : B' ≤ B) : w.ownsRow B' e z v n xs := by
  obtain ⟨h0, h | ⟨g, cap, cur, rfl, h1, h2⟩⟩ := h
  · exact ⟨h0, .inl h⟩
  · exact ⟨h0, .inr ⟨g, cap, cur, rfl, Nat.le_trans k h1, h2⟩⟩
namespace In
def ptrE (v : Value) : Option (DataW Unit × List MemPlace) := match v with
  | .pointer (some ⟨b, 0, none⟩) => some (.lit (.int .i64 (b : Int)), [])
  | _ => none
theorem ptrE_mk (b : Nat) : ptrE (.pointer (some ⟨b, 0, none⟩)) = some (.lit (.int .i64 (b : Int)), []) := rfl
theorem ptrE_inv {v : Value} {z : DataW Unit × List MemPlace} {b : Nat} (h : ptrE v = some z) (hz : z.1 = .lit (.int .i64 (b : Int))) : v = .pointer (some ⟨b, 0, none⟩) := by
  unfold ptrE at h
  split at h
  · rename_i c
    cases h
    simp at hz
    have : c = b := Int.ofNat.inj hz
    rw [this]
  · cases h
theorem tyPm : Tryz.prog.underlying 114 = some (.map 3 83) := by kernel_rfl
theorem kzPm (w : World) : (zeroValue 83).run Tryz.prog w = .ok (.pointer none) w := by kernel_rfl
theorem tyI3 : Tryz.prog.underlying 3 = some (.int .i64) := by kernel_rfl
theorem keyed3 : Maps.Keyed Tryz.prog 3 := Maps.int_keyed tyI3
def PMp (w : World) (mb : Nat) (pl bs : List Nat) : Prop := ∃ (D : DataW Unit) (n : Nat), w.ownsMap Tryz.prog 3 ptrE mb n D ∧ n ≤ pl.length ∧ pl.length = bs.length ∧
  ∀ (j p b : Nat), pl[j]? = some p → bs[j]? = some b → ∀ zd, D.atKey (.int .i64 (p : Int)) zd = .lit (.int .i64 (b : Int))
theorem PMp.keep {w w' : World} {mb : Nat} {pl bs : List Nat} (h : PMp w mb pl bs) (k : w'.heap[mb]? = w.heap[mb]?) : PMp w' mb pl bs := by
  obtain ⟨D, n, ⟨es, clock, hb, F, h3, rfl⟩, h4⟩ := h
  exact ⟨_, n, ⟨es, clock, k.trans hb, F, h3, rfl⟩, h4⟩
theorem PMp.isMap {w : World} {mb : Nat} {pl bs : List Nat} (h : PMp w mb pl bs) : ∃ es c, w.heap[mb]? = some (.map es c) := by
  obtain ⟨D, n, ⟨es, clock, hb, _⟩, _⟩ := h; exact ⟨es, clock, hb⟩
theorem PMp.made (w : World) : PMp (w.alloc (.map #[] 0)) w.heap.size [] [] := ⟨.map [], 0, World.ownsMap_made w _ _ _, Nat.le_refl _, rfl, fun j p b h => by simp at h⟩
theorem PMp.put {w w' : World} {mb : Nat} {pl bs : List Nat} {D : DataW Unit} {n p b : Nat} (hD : w.ownsMap Tryz.prog 3 ptrE mb n D) (hn : n ≤ pl.length) (hl : pl.length = bs.length) (hat : ∀ (j p b : Nat), pl[j]? = some p → bs[j]? = some b → ∀ zd, D.atKey (.int .i64 (p : Int)) zd = .lit (.int .i64 (b : Int))) (hp : p ∉ pl)
    (h1 : w'.ownsMap Tryz.prog 3 ptrE mb (n + 1) (D.put (.int .i64 (p : Int)) (.lit (.int .i64 (b : Int))))) : PMp w' mb (pl ++ [p]) (bs ++ [b]) := by
  refine ⟨_, _, h1, by simp; omega, by simp [hl], fun j q c hq hc zd => ?_⟩
  by_cases hj : j < pl.length
  · rw [List.getElem?_append_left hj] at hq
    rw [List.getElem?_append_left (by omega)] at hc
    have hne : q ≠ p := fun e => hp (e ▸ List.mem_of_getElem? hq)
    rw [atKey_put_other (by intro h; cases h; exact hne rfl)]
    exact hat j q c hq hc zd
  · have hj' : j = pl.length := by
      have := (List.getElem?_eq_some_iff.1 hq).1
      simp at this; omega
    subst hj'
    rw [List.getElem?_append_right (Nat.le_refl _)] at hq
    rw [hl, List.getElem?_append_right (Nat.le_refl _)] at hc
    simp at hq hc
    subst hq hc
    exact atKey_put_same hD.isMap (by trivial) ..
theorem PMp.look {w : World} {mb : Nat} {pl bs : List Nat} (h : PMp w mb pl bs) {j p b : Nat} (hp : pl[j]? = some p) (hb : bs[j]? = some b) (hp2 : p < 9223372036854775807) :
    (Instr.lookup 114 (.map (some mb)) (.int .i64 (p : Int)) false).run Tryz.prog w = .ok (.pointer (some ⟨b, 0, none⟩)) w := by
  obtain ⟨D, n, ⟨es, clock, hm, F, _, rfl⟩, _, _, hat⟩ := h
  have hkey : keyOf Tryz.prog 3 (.int .i64 (p : Int)) = some (.int .i64 (p : Int)) := keyOf_int_mk tyI3 (by apply WalkArith.wf_i64; omega)
  rcases Maps.fit_look false keyed3 tyPm (kzPm w) hm F hkey with ⟨hrun, _, hz⟩ | ⟨e0, y, _, _, hrun, hRv, hz, _⟩
  · have h1 := hz (.lit (.bool true))
    rw [hat j p b hp hb] at h1
    cases h1
  · have h1 := hz (.lit (.bool true))
    rw [hat j p b hp hb] at h1
    rw [hrun, ptrE_inv hRv h1.symm]
    rfl
def PT.plc : PT → Nat
  | .pt p _ _ => p
def icells (pl : List Nat) : List Value := pl.map fun (p : Nat) => Value.int .i64 (p : Int)
structure Pn (w : World) (b at' : Nat) (va : Value) (kb mb n : Nat) (cur : List Value) (pl bs : List Nat) : Prop where
  blk : w.heap[b]? = some (.cells #[.int .i64 (at' : Int), va, .slice (some ⟨kb, 0, none⟩) n n, .map (some mb)] 116 (0, 0))
  row : w.heap[kb]? = some (.cells cur.toArray 3 (0, 0))
  mp : PMp w mb pl bs
mutual
def IsPT (w : World) : PT → Nat → Nat → Nat → Prop
  | .pt at' ah ks, lo, hi, b => ∃ va kb mb bs m, lo ≤ b ∧ b < m ∧ lo ≤ kb ∧ kb < m ∧ lo ≤ mb ∧ mb < m ∧ Pn w b at' va kb mb ks.length (icells (ks.map PT.plc)) (ks.map PT.plc) bs ∧ w.ownsRow 0 72 8 va ah.length (nrow ah) ∧ IsPTs w ks m hi bs
def IsPTs (w : World) : List PT → Nat → Nat → List Nat → Prop
  | [], lo, hi, bs => bs = [] ∧ lo ≤ hi
  | p :: r, lo, hi, bs => ∃ b bs' m, bs = b :: bs' ∧ IsPT w p lo m b ∧ IsPTs w r m hi bs'
end
structure Kp (lo hi : Nat) (w w' : World) : Prop where
  nd : ∀ (k : Nat) (cur : Array Value), w.heap[k]? = some (.cells cur 72 (0, 0)) → w'.heap[k]? = w.heap[k]?
  pt : ∀ (k : Nat) (cur : Array Value), lo ≤ k → k < hi → w.heap[k]? = some (.cells cur 116 (0, 0)) → w'.heap[k]? = w.heap[k]?
  it : ∀ (k : Nat) (cur : Array Value), lo ≤ k → k < hi → w.heap[k]? = some (.cells cur 3 (0, 0)) → w'.heap[k]? = w.heap[k]?
  mp : ∀ (k : Nat) (es : Array MapEntry) (c : Nat), lo ≤ k → k < hi → w.heap[k]? = some (.map es c) → w'.heap[k]? = w.heap[k]?
theorem Kp.sub {lo hi lo' hi' : Nat} {w w' : World} (h : Kp lo hi w w') (h1 : lo ≤ lo') (h2 : hi' ≤ hi) : Kp lo' hi' w w' :=
  ⟨h.nd, fun k c a b => h.pt k c (by omega) (by omega), fun k c a b => h.it k c (by omega) (by omega), fun k c d a b => h.mp k c d (by omega) (by omega)⟩
theorem Pn.keep {w w' : World} {b at' kb mb n lo m : Nat} {va : Value} {cur : List Value} {pl bs : List Nat} (h : Pn w b at' va kb mb n cur pl bs) (k : Kp lo m w w') (h1 : lo ≤ b) (h2 : b < m) (h3 : lo ≤ kb) (h4 : kb < m) (h5 : lo ≤ mb) (h6 : mb < m) : Pn w' b at' va kb mb n cur pl bs := by
  obtain ⟨es, c, hm⟩ := h.mp.isMap
  exact ⟨(k.pt _ _ h1 h2 h.blk).trans h.blk, (k.it _ _ h3 h4 h.row).trans h.row, h.mp.keep (k.mp _ _ _ h5 h6 hm)⟩
mutual
theorem isPT_le {w : World} : ∀ (p : PT) {lo hi b : Nat}, IsPT w p lo hi b → lo ≤ b ∧ b < hi
  | .pt at' ah ks, lo, hi, b, h => by
    rw [IsPT] at h
    obtain ⟨va, kb, mb, bs, m, h1, h2, h3, h4, h5, h6, h7, h8, h9⟩ := h
    have := isPTs_le ks h9
    omega
theorem isPTs_le {w : World} : ∀ (ks : List PT) {lo hi : Nat} {bs : List Nat}, IsPTs w ks lo hi bs → lo ≤ hi
  | [], lo, hi, bs, h => by rw [IsPTs] at h; exact h.2
  | p :: r, lo, hi, bs, h => by
    rw [IsPTs] at h
    obtain ⟨b, bs', m, _, h1, h2⟩ := h
    have := isPT_le p h1
    have := isPTs_le r h2
    omega
end
mutual
theorem isPT_keep {w w' : World} : ∀ (p : PT) {lo hi b : Nat}, IsPT w p lo hi b → Kp lo hi w w' → IsPT w' p lo hi b
  | .pt at' ah ks, lo, hi, b, h, k => by
    rw [IsPT] at h ⊢
    obtain ⟨va, kb, mb, bs, m, h1, h2, h3, h4, h5, h6, h7, h8, h9⟩ := h
    have hm := isPTs_le ks h9
    exact ⟨va, kb, mb, bs, m, h1, h2, h3, h4, h5, h6, h7.keep (k.sub (Nat.le_refl _) hm) h1 h2 h3 h4 h5 h6, own_keepG h8 (fun g cur _ hc => k.nd g cur hc), isPTs_keep ks h9 (k.sub (by omega) (Nat.le_refl _))⟩
theorem isPTs_keep {w w' : World} : ∀ (ks : List PT) {lo hi : Nat} {bs : List Nat}, IsPTs w ks lo hi bs → Kp lo hi w w' → IsPTs w' ks lo hi bs
  | [], lo, hi, bs, h, k => by rw [IsPTs] at h ⊢; exact h
  | p :: r, lo, hi, bs, h, k => by
    rw [IsPTs] at h ⊢
    obtain ⟨b, bs', m, h0, h1, h2⟩ := h
    have e1 := isPT_le p h1
    have e2 := isPTs_le r h2
    exact ⟨b, bs', m, h0, isPT_keep p h1 (k.sub (Nat.le_refl _) e2), isPTs_keep r h2 (k.sub (by omega) (Nat.le_refl _))⟩
end
theorem isPTs_up {w : World} : ∀ (ks : List PT) {lo hi hi' : Nat} {bs : List Nat}, IsPTs w ks lo hi bs → hi ≤ hi' → IsPTs w ks lo hi' bs
  | [], lo, hi, hi', bs, h, k => by rw [IsPTs] at h ⊢; exact ⟨h.1, by omega⟩
  | p :: r, lo, hi, hi', bs, h, k => by
    rw [IsPTs] at h ⊢
    obtain ⟨b, bs', m, h0, h1, h2⟩ := h
    exact ⟨b, bs', m, h0, h1, isPTs_up r h2 k⟩
theorem isPTs_snoc {w : World} : ∀ (ks : List PT) {lo mid hi b : Nat} {bs : List Nat} {p : PT}, IsPTs w ks lo mid bs → IsPT w p mid hi b → IsPTs w (ks ++ [p]) lo hi (bs ++ [b])
  | [], lo, mid, hi, b, bs, p, h, k => by
    rw [IsPTs] at h
    obtain ⟨rfl, h⟩ := h
    rw [List.nil_append, IsPTs]
    have hk := isPT_le p k
    refine ⟨b, [], hi, rfl, ?_, by rw [IsPTs]; exact ⟨rfl, Nat.le_refl _⟩⟩
    obtain ⟨a', ah, ks⟩ := p
    rw [IsPT] at k ⊢
    obtain ⟨va, kb, mb, bs, m, h1, h2, h3, h4, h5, h6, h7⟩ := k
    exact ⟨va, kb, mb, bs, m, by omega, h2, by omega, h4, by omega, h6, h7⟩
  | q :: r, lo, mid, hi, b, bs, p, h, k => by
    rw [IsPTs] at h
    obtain ⟨b', bs', m, rfl, h1, h2⟩ := h
    rw [List.cons_append, IsPTs]
    exact ⟨b', bs' ++ [b], m, rfl, h1, isPTs_snoc r h2 k⟩
theorem isPTs_len {w : World} : ∀ (ks : List PT) {lo hi : Nat} {bs : List Nat}, IsPTs w ks lo hi bs → bs.length = ks.length
  | [], lo, hi, bs, h => by rw [IsPTs] at h; rw [h.1]; rfl
  | p :: r, lo, hi, bs, h => by
    rw [IsPTs] at h
    obtain ⟨b, bs', m, rfl, h1, h2⟩ := h
    simp [isPTs_len r h2]
theorem isPTs_at {w : World} : ∀ (ks : List PT) {lo hi : Nat} {bs : List Nat}, IsPTs w ks lo hi bs → ∀ {k : Nat} {p : PT}, ks[k]? = some p → ∃ b l h, bs[k]? = some b ∧ lo ≤ l ∧ h ≤ hi ∧ IsPT w p l h b
  | [], lo, hi, bs, h, k, p, hp => by simp at hp
  | q :: r, lo, hi, bs, h, k, p, hp => by
    rw [IsPTs] at h
    obtain ⟨b, bs', m, rfl, h1, h2⟩ := h
    have e1 := isPT_le q h1
    have e2 := isPTs_le r h2
    cases k with
    | zero => simp at hp; subst hp; exact ⟨b, lo, m, rfl, Nat.le_refl _, e2, h1⟩
    | succ k =>
      obtain ⟨b', l, hh, k1, k2, k3, k4⟩ := isPTs_at r h2 (k := k) (by simpa using hp)
      exact ⟨b', l, hh, by simpa using k1, by omega, k3, k4⟩
theorem setc {w : World} {b o : Nat} {C : Array Value} {t : TypeId} {u : Value} (h : w.heap[b]? = some (.cells C t (0, 0))) : (w.setCell ⟨b, o, none⟩ u).heap[b]? = some (.cells (C.setIfInBounds o u) t (0, 0)) := by
  simp [World.setCell, Array.getElem?_modify, h]
theorem setc_ne {w : World} {b o k : Nat} {u : Value} (h : k ≠ b) : (w.setCell ⟨b, o, none⟩ u).heap[k]? = w.heap[k]? := Below.heap_setCell _ _ _ _ h
theorem Kp.set {lo hi b : Nat} {w : World} {C : Array Value} (h : w.heap[b]? = some (.cells C 116 (0, 0))) (hb : b < lo ∨ hi ≤ b) (o : Nat) (u : Value) : Kp lo hi w (w.setCell ⟨b, o, none⟩ u) := by
  refine ⟨fun k cur hk => setc_ne ?_, fun k cur h1 h2 hk => setc_ne (by omega), fun k cur h1 h2 hk => setc_ne (by omega), fun k es c h1 h2 hk => setc_ne (by omega)⟩
  rintro rfl
  rw [h] at hk
  cases hk
theorem isPT_lay {w : World} {va' : Value} {c : Nd} : ∀ (p : PT) {lo hi b : Nat}, IsPT w p lo hi b → (∀ at' ah ks, p = .pt at' ah ks → w.ownsRow 0 72 8 va' (ah.length + 1) (nrow (c :: ah))) → IsPT (w.setCell ⟨b, 1, none⟩ va') (lay c p) lo hi b
  | .pt at' ah ks, lo, hi, b, h, k => by
    have k := k at' ah ks rfl
    rw [lay]
    rw [IsPT] at h ⊢
    obtain ⟨va, kb, mb, bs, m, h1, h2, h3, h4, h5, h6, ⟨q1, q2, q3⟩, h8, h9⟩ := h
    have hkb : kb ≠ b := by
      rintro rfl
      rw [q1] at q2
      have q4 := Option.some.inj q2
      injection q4 with _ q5 _
      exact absurd q5 (by decide)
    obtain ⟨es, cc, hm⟩ := q3.isMap
    have hmb : mb ≠ b := by rintro rfl; rw [q1] at hm; cases hm
    have hm := isPTs_le ks h9
    refine ⟨va', kb, mb, bs, m, h1, h2, h3, h4, h5, h6, ⟨?_, (setc_ne hkb).trans q2, q3.keep (setc_ne hmb)⟩, ?_, isPTs_keep ks h9 (Kp.set q1 (.inl h2) 1 va')⟩
    · rw [setc q1]; rfl
    · refine own_keepG k (fun g cur _ hc => setc_ne ?_)
      rintro rfl
      rw [q1] at hc
      cases hc
theorem isPTs_lay {w : World} {va' : Value} {c : Nd} : ∀ (ks : List PT) {lo hi k b : Nat} {bs : List Nat}, IsPTs w ks lo hi bs → bs[k]? = some b → (∀ at' ah ks', ks[k]? = some (.pt at' ah ks') → w.ownsRow 0 72 8 va' (ah.length + 1) (nrow (c :: ah))) → IsPTs (w.setCell ⟨b, 1, none⟩ va') (ks.modify k (lay c)) lo hi bs
  | [], lo, hi, k, b, bs, h, hb, _ => by rw [IsPTs] at h; rw [h.1] at hb; simp at hb
  | p :: r, lo, hi, k, b, bs, h, hb, hv => by
    rw [IsPTs] at h
    obtain ⟨b0, bs', m, rfl, h1, h2⟩ := h
    have e1 := isPT_le p h1
    have e2 := isPTs_le r h2
    have part_blk : ∀ (p : PT) {lo hi b : Nat}, IsPT w p lo hi b → ∃ C, w.heap[b]? = some (.cells C 116 (0, 0)) := fun p lo hi b h => by
      obtain ⟨a', ah, ks⟩ := p
      rw [IsPT] at h
      obtain ⟨va, kb, mb, bs, m, _, _, _, _, _, _, q, _⟩ := h
      exact ⟨_, q.blk⟩
    cases k with
    | zero =>
      simp at hb
      subst hb
      rw [List.modify_zero_cons, IsPTs]
      obtain ⟨C, hC⟩ := part_blk p h1
      exact ⟨b0, bs', m, rfl, isPT_lay p h1 (fun a ah ks e => hv a ah ks (by simp [e])), isPTs_keep r h2 (Kp.set hC (.inl e1.2) 1 va')⟩
    | succ k =>
      rw [List.modify_succ_cons, IsPTs]
      have hb' : bs'[k]? = some b := by simpa using hb
      have hkl : k < r.length := by rw [← isPTs_len r h2]; exact (List.getElem?_eq_some_iff.1 hb').1
      obtain ⟨b2, l, hh, k1, k2, k3, k4⟩ := isPTs_at r h2 (k := k) (p := r[k]) (List.getElem?_eq_getElem hkl)
      obtain rfl : b2 = b := by rw [hb'] at k1; exact (Option.some.inj k1).symm
      have e3 := isPT_le _ k4
      obtain ⟨C, hC⟩ := part_blk _ k4
      exact ⟨b0, bs', m, rfl, isPT_keep p h1 (Kp.set hC (.inr (by omega)) 1 va'), isPTs_lay r h2 hb' (fun a ah ks e => hv a ah ks (by simpa using e))⟩
end In
end Go.Proofs.YthdlfeejeboboaaGreatDoor
namespace Go.Proofs.YthdlfeejeboboaaGreatDoor
open Go.RowKit Go.Maps Ck
open Go.WideMaps Go.WideElems
open T3.Tp (Ty enc cns met)
open Tr (T Nd nm flat flats)
set_option maxRecDepth 100000
set_option linter.unusedSimpArgs false
set_option linter.unusedVariables false
namespace In
def scell (m : ByteArray) (s : Si) : List Value := [.string m, .string ⟨#[]⟩, .int .i64 s.ln, .int .i64 s.co, .int .i64 s.rule]
def srow (m : ByteArray) (ss : List Si) : List Value := (ss.map (scell m)).flatten
theorem srow_app (m : ByteArray) (a b : List Si) : srow m (a ++ b) = srow m a ++ srow m b := by simp [srow]
theorem srow_one (m : ByteArray) (s : Si) : srow m [s] = scell m s := by simp [srow]
theorem tySites : Tryz.prog.underlying 30 = some (.slice 75) := by kernel_rfl
theorem infoS : (Tryz.prog.info? 75).map (fun i => (i.zero, i.size, i.bytes)) = some (some (.agg #[.string ⟨#[]⟩, .string ⟨#[]⟩, .int .i64 0, .int .i64 0, .int .i64 0]), 5, 56) := by kernel_rfl
structure Is (B : Nat) (w : World) (ib : Nat) (sv : Value) (md : ByteArray) (nv tv : Value) (l : List Nd) (ts : List Ty) (N : List (List UInt8)) (fb i : Nat) (ss : List Si) : Prop where
  blk : w.heap[ib]? = some (.cells #[.string md, nv, tv, .map (some fb), .int .i64 (i : Int), sv] 82 (0, 0))
  no : IsNodes w nv l
  nlo : Low nv B
  ty : T3.IsTexts w tv (ts.map enc)
  tlo : Low tv B
  far : Idx w fb N.length (farAt N N.length)
  own : w.ownsRow B 75 5 sv ss.length (srow md ss)
  lt : ib < B ∧ fb < B ∧ B ≤ w.heap.size
  nib : ∀ b o n c, nv = .slice (some ⟨b, o, none⟩) n c → b ≠ ib
  tib : ∀ b o n c, tv = .slice (some ⟨b, o, none⟩) n c → b ≠ ib
  fib : fb ≠ ib
structure Fz (B ib L : Nat) (w w' : World) : Prop where
  os : w'.os = w.os
  tape : w'.tape = w.tape
  output : w'.output = w.output
  size : w.heap.size ≤ w'.heap.size
  block : ∀ k, k < L → k ≠ ib → (k < B ∨ ∀ cur, w.heap[k]? ≠ some (.cells cur 75 (0, 0))) → w'.heap[k]? = w.heap[k]?
theorem Fz.refl (B ib L : Nat) (w : World) : Fz B ib L w w := ⟨rfl, rfl, rfl, Nat.le_refl _, fun _ _ _ _ => rfl⟩
theorem Fz.trans {B ib L : Nat} {w w1 w2 : World} (h : Fz B ib L w w1) (k : Fz B ib L w1 w2) : Fz B ib L w w2 :=
  ⟨k.os.trans h.os, k.tape.trans h.tape, k.output.trans h.output, Nat.le_trans h.size k.size, fun j h1 h2 h3 => by
    have e := h.block j h1 h2 h3
    exact (k.block j h1 h2 (by rw [e]; exact h3)).trans e⟩
theorem Fz.mono {B ib L L' : Nat} {w w' : World} (h : Fz B ib L w w') (k : L' ≤ L) : Fz B ib L' w w' := ⟨h.os, h.tape, h.output, h.size, fun j h1 => h.block j (by omega)⟩
theorem Fz.below {B ib L : Nat} {w w' : World} (h : Below w.heap.size w w') (hL : L ≤ w.heap.size) : Fz B ib L w w' := ⟨h.os, h.tape, h.output, h.size, fun j h1 _ _ => h.block j (by omega)⟩
theorem Fz.setI (B ib L : Nat) (w : World) (o : Nat) (u : Value) : Fz B ib L w (w.setCell ⟨ib, o, none⟩ u) := ⟨rfl, rfl, rfl, by simp [World.setCell], fun k _ h _ => setc_ne h⟩
theorem Fz.setH (B ib L : Nat) (w : World) (b o : Nat) (u : Value) (h : L ≤ b) : Fz B ib L w (w.setCell ⟨b, o, none⟩ u) := ⟨rfl, rfl, rfl, by simp [World.setCell], fun k hk _ _ => setc_ne (by omega)⟩
theorem Fz.grown {B ib L n : Nat} {w w' : World} {sv : Value} {xs : List Value} (h : w.ownsRow B 75 5 sv n xs) (k : w.grownBy w' sv.ownBlock) (hL : L ≤ w.heap.size) : Fz B ib L w w' := by
  refine ⟨k.os, k.tape, k.output, k.size, fun j h1 _ h2 => k.block j (by omega) ?_⟩
  intro e
  obtain ⟨_, ⟨rfl, _⟩ | ⟨g, cap, cur, rfl, h3, h4, _⟩⟩ := h
  · cases e
  · have e2 : j = g := by simpa [Value.ownBlock] using e
    subst e2
    rcases h2 with h2 | h2
    · exact absurd h2 (Nat.not_lt.2 h3)
    · exact h2 _ h4
theorem Fz.drew {B ib L : Nat} {w w' : World} (h : Fz B ib L w w') : Fz B ib L w w'.drew := ⟨h.os, h.tape, h.output, h.size, h.block⟩
theorem Fz.grownN {B ib L : Nat} {w w' : World} {r : Option Nat} (k : w.grownBy w' r) (hr : ∀ x, r = some x → L ≤ x) (hL : L ≤ w.heap.size) : Fz B ib L w w' :=
  ⟨k.os, k.tape, k.output, k.size, fun j h1 _ _ => k.block j (by omega) (fun e => by have := hr j e.symm; omega)⟩
theorem Fz.low {B ib L : Nat} {w w' : World} (h : Fz B ib L w w') {k : Nat} (h1 : k < B) (h2 : k < L) (h3 : k ≠ ib) : w'.heap[k]? = w.heap[k]? := h.block k h2 h3 (.inl h1)
theorem Fz.kp {B ib : Nat} {w w' : World} {C : Array Value} (h : Fz B ib w.heap.size w w') (hi : w.heap[ib]? = some (.cells C 82 (0, 0))) (lo hi' : Nat) : Kp lo hi' w w' := by
  have lt : ∀ {k o}, w.heap[k]? = some o → k < w.heap.size := fun h => (Array.getElem?_eq_some_iff.1 h).1
  refine ⟨fun k cur hk => h.block k (lt hk) ?_ (.inr fun c => by rw [hk]; intro e; cases e), fun k cur _ _ hk => h.block k (lt hk) ?_ (.inr fun c => by rw [hk]; intro e; cases e), fun k cur _ _ hk => h.block k (lt hk) ?_ (.inr fun c => by rw [hk]; intro e; cases e), fun k es c _ _ hk => h.block k (lt hk) ?_ (.inr fun c => by rw [hk]; intro e; cases e)⟩
  all_goals
    rintro rfl
    rw [hi] at hk
    cases hk
structure Fy (B ib lo hi : Nat) (w w' : World) : Prop where
  os : w'.os = w.os
  tape : w'.tape = w.tape
  output : w'.output = w.output
  size : w.heap.size ≤ w'.heap.size
  block : ∀ k, k < w.heap.size → k ≠ ib → (k < lo ∨ hi ≤ k) → (k < B ∨ ∀ cur, w.heap[k]? ≠ some (.cells cur 75 (0, 0))) → w'.heap[k]? = w.heap[k]?
theorem Fy.refl (B ib lo hi : Nat) (w : World) : Fy B ib lo hi w w := ⟨rfl, rfl, rfl, Nat.le_refl _, fun _ _ _ _ _ => rfl⟩
theorem Fy.trans {B ib lo hi : Nat} {w w1 w2 : World} (h : Fy B ib lo hi w w1) (k : Fy B ib lo hi w1 w2) : Fy B ib lo hi w w2 :=
  ⟨k.os.trans h.os, k.tape.trans h.tape, k.output.trans h.output, Nat.le_trans h.size k.size, fun j h1 h2 h3 h4 => by
    have e := h.block j h1 h2 h3 h4
    exact (k.block j (Nat.lt_of_lt_of_le h1 h.size) h2 h3 (by rw [e]; exact h4)).trans e⟩
theorem Fy.of {B ib lo hi : Nat} {w w' : World} (h : Fz B ib w.heap.size w w') : Fy B ib lo hi w w' := ⟨h.os, h.tape, h.output, h.size, fun k h1 h2 _ h4 => h.block k h1 h2 h4⟩
theorem Fy.below {B ib lo hi : Nat} {w w' : World} (h : Below w.heap.size w w') : Fy B ib lo hi w w' := ⟨h.os, h.tape, h.output, h.size, fun k h1 _ _ _ => h.block k h1⟩
theorem Fy.setP {B ib lo hi : Nat} {w : World} {b o : Nat} {u : Value} (h1 : lo ≤ b) (h2 : b < hi) : Fy B ib lo hi w (w.setCell ⟨b, o, none⟩ u) := ⟨rfl, rfl, rfl, by simp [World.setCell], fun k _ _ h _ => setc_ne (by omega)⟩
theorem Fy.grownN {B ib lo hi : Nat} {w w0 w' : World} {r : Option Nat} (h : Fy B ib lo hi w w0) (k : w0.grownBy w' r) (hr : ∀ x, r = some x → w.heap.size ≤ x) : Fy B ib lo hi w w' :=
  ⟨k.os.trans h.os, k.tape.trans h.tape, k.output.trans h.output, Nat.le_trans h.size k.size, fun j h1 h2 h3 h4 => (k.block j (Nat.lt_of_lt_of_le h1 h.size) (fun e => by have := hr j e.symm; omega)).trans (h.block j h1 h2 h3 h4)⟩
theorem Fy.fz {B ib lo hi : Nat} {w w' : World} (h : Fy B ib lo hi w w') (hL : lo ≤ w.heap.size) : Fz B ib lo w w' := ⟨h.os, h.tape, h.output, h.size, fun k h1 h2 h3 => h.block k (by omega) h2 (.inl h1) h3⟩
theorem Kp.below {lo hi : Nat} {w w' : World} (h : Below w.heap.size w w') : Kp lo hi w w' := by
  have lt : ∀ {k o}, w.heap[k]? = some o → k < w.heap.size := fun h => (Array.getElem?_eq_some_iff.1 h).1
  exact ⟨fun k cur hk => h.block k (lt hk), fun k cur _ _ hk => h.block k (lt hk), fun k cur _ _ hk => h.block k (lt hk), fun k es c _ _ hk => h.block k (lt hk)⟩
theorem Kp.trans {lo hi : Nat} {w w1 w2 : World} (h : Kp lo hi w w1) (k : Kp lo hi w1 w2) : Kp lo hi w w2 := by
  refine ⟨fun j c hj => ?_, fun j c a b hj => ?_, fun j c a b hj => ?_, fun j c d a b hj => ?_⟩
  · have e := h.nd j c hj; exact (k.nd j c (e.trans hj)).trans e
  · have e := h.pt j c a b hj; exact (k.pt j c a b (e.trans hj)).trans e
  · have e := h.it j c a b hj; exact (k.it j c a b (e.trans hj)).trans e
  · have e := h.mp j c d a b hj; exact (k.mp j c d a b (e.trans hj)).trans e
theorem Is.move {B : Nat} {w w' : World} {ib fb i i' : Nat} {sv sv' nv tv : Value} {md : ByteArray} {l : List Nd} {ts : List Ty} {N : List (List UInt8)} {ss ss' : List Si} (h : Is B w ib sv md nv tv l ts N fb i ss) (k : Fz B ib B w w')
    (hb : w'.heap[ib]? = some (.cells #[.string md, nv, tv, .map (some fb), .int .i64 (i' : Int), sv'] 82 (0, 0))) (ho : w'.ownsRow B 75 5 sv' ss'.length (srow md ss')) : Is B w' ib sv' md nv tv l ts N fb i' ss' := by
  obtain ⟨h1, h2, h3⟩ := h.lt
  have low : ∀ k', k' < B → k' ≠ ib → w'.heap[k']? = w.heap[k']? := fun k' a b => k.block k' a b (.inl a)
  refine ⟨hb, ?_, h.nlo, ?_, h.tlo, ?_, ho, ⟨h1, h2, Nat.le_trans h3 k.size⟩, h.nib, h.tib, h.fib⟩
  · rcases h.no with h0 | ⟨b, o, c, rfl, q1, q2, q3⟩
    · exact .inl h0
    · exact .inr ⟨b, o, c, rfl, q1, Nat.lt_of_lt_of_le q2 k.size, fun j x hx i u hu => (World.cell?_of_block (low b (h.nlo b o _ c rfl) (h.nib b o _ c rfl))).trans (q3 j x hx i u hu)⟩
  · rcases h.ty with h0 | ⟨b, o, c, rfl, q1, q2, q3⟩
    · exact .inl h0
    · exact .inr ⟨b, o, c, rfl, q1, Nat.lt_of_lt_of_le q2 k.size, fun j p hp => (World.cell?_of_block (low b (h.tlo b o _ c rfl) (h.tib b o _ c rfl))).trans (q3 j p hp)⟩
  · obtain ⟨D, ⟨es, clock, hm, F, h4, rfl⟩, h5⟩ := h.far
    exact ⟨_, ⟨es, clock, (low fb h2 h.fib).trans hm, F, h4, rfl⟩, h5⟩
theorem Is.below {B : Nat} {w w' : World} {ib fb i : Nat} {sv nv tv : Value} {md : ByteArray} {l : List Nd} {ts : List Ty} {N : List (List UInt8)} {ss : List Si} (h : Is B w ib sv md nv tv l ts N fb i ss) (k : Below w.heap.size w w') : Is B w' ib sv md nv tv l ts N fb i ss := by
  obtain ⟨h1, h2, h3⟩ := h.lt
  have lt : ∀ {k o}, w.heap[k]? = some o → k < w.heap.size := fun h => (Array.getElem?_eq_some_iff.1 h).1
  exact h.move (Fz.below k h3) ((k.block ib (by omega)).trans h.blk) (own_keepG h.own fun g cur _ hc => k.block g (lt hc))
theorem Is.setH {B : Nat} {w : World} {ib fb i b o : Nat} {sv nv tv u : Value} {md : ByteArray} {l : List Nd} {ts : List Ty} {N : List (List UInt8)} {ss : List Si} {C : Array Value} {t : TypeId} (h : Is B w ib sv md nv tv l ts N fb i ss) (hb : B ≤ b) (hC : w.heap[b]? = some (.cells C t (0, 0))) (ht : t ≠ 75) : Is B (w.setCell ⟨b, o, none⟩ u) ib sv md nv tv l ts N fb i ss := by
  obtain ⟨h1, h2, h3⟩ := h.lt
  refine h.move (Fz.setH _ _ _ _ _ _ _ hb) ((setc_ne (by omega)).trans h.blk) (own_keepG h.own fun g cur _ hc => setc_ne ?_)
  rintro rfl
  rw [hC] at hc
  cases hc
  exact ht rfl
theorem Is.cells {B : Nat} {w : World} {ib fb i : Nat} {sv nv tv : Value} {md : ByteArray} {l : List Nd} {ts : List Ty} {N : List (List UInt8)} {ss : List Si} (h : Is B w ib sv md nv tv l ts N fb i ss) :
    w.cell? ⟨ib, 0, none⟩ = some (.string md) ∧ w.cell? ⟨ib, 1, none⟩ = some nv ∧ w.cell? ⟨ib, 2, none⟩ = some tv ∧ w.cell? ⟨ib, 3, none⟩ = some (.map (some fb)) ∧ w.cell? ⟨ib, 4, none⟩ = some (.int .i64 (i : Int)) ∧ w.cell? ⟨ib, 5, none⟩ = some sv ∧ ∀ q, w.frozen? ⟨ib, q, none⟩ = false := by
  obtain ⟨a, b⟩ := block_cells h.blk
  exact ⟨a 0, a 1, a 2, a 3, a 4, a 5, b⟩
theorem Is.farD {B : Nat} {w : World} {ib fb i : Nat} {sv nv tv : Value} {md : ByteArray} {l : List Nd} {ts : List Ty} {N : List (List UInt8)} {ss : List Si} (h : Is B w ib sv md nv tv l ts N fb i ss) : In.Far w ib fb N := ⟨h.cells.2.2.2.1, h.far⟩
theorem Is.type {B : Nat} {w : World} {ib fb i : Nat} {sv nv : Value} {a : Option Addr} {n c : Nat} {md : ByteArray} {l : List Nd} {ts : List Ty} {N : List (List UInt8)} {ss : List Si} (h : Is B w ib sv md nv (.slice a n c) l ts N fb i ss) {k : Nat} {t : Ty} (ht : ts[k]? = some t) : ∃ b o, a = some ⟨b, o, none⟩ ∧ n ≤ c ∧ b < w.heap.size ∧ w.cell? ⟨b, o + k, none⟩ = some (.string (S (enc t))) :=
  txs_at h.ty (by rw [List.getElem?_map, ht]; rfl)
theorem Pn.cells {w : World} {b at' kb mb n : Nat} {va : Value} {cur : List Value} {pl bs : List Nat} (h : Pn w b at' va kb mb n cur pl bs) :
    w.cell? ⟨b, 0, none⟩ = some (.int .i64 (at' : Int)) ∧ w.cell? ⟨b, 1, none⟩ = some va ∧ w.cell? ⟨b, 2, none⟩ = some (.slice (some ⟨kb, 0, none⟩) n n) ∧ w.cell? ⟨b, 3, none⟩ = some (.map (some mb)) ∧ (∀ q, w.frozen? ⟨b, q, none⟩ = false) ∧ (∀ j, w.cell? ⟨kb, j, none⟩ = cur[j]?) ∧ (∀ q, w.frozen? ⟨kb, q, none⟩ = false) := by
  obtain ⟨a, b'⟩ := block_cells h.blk
  obtain ⟨c, d⟩ := block_cells h.row
  exact ⟨a 0, a 1, a 2, a 3, b', fun j => by rw [c j, List.getElem?_toArray], d⟩
theorem isPT_cells {w : World} : ∀ (p : PT) {lo hi b : Nat}, IsPT w p lo hi b → ∃ va C, w.heap[b]? = some (.cells C 116 (0, 0)) ∧ w.cell? ⟨b, 1, none⟩ = some va ∧ (∀ q, w.frozen? ⟨b, q, none⟩ = false) ∧ ∀ at' ah ks, p = .pt at' ah ks → w.ownsRow 0 72 8 va ah.length (nrow ah)
  | .pt at' ah ks, lo, hi, b, h => by
    rw [IsPT] at h
    obtain ⟨va, kb, mb, bs, m, h1, h2, h3, h4, h5, h6, h7, h8, h9⟩ := h
    have hc := h7.cells
    exact ⟨va, _, h7.blk, hc.2.1, hc.2.2.2.2.1, fun a' ah' ks' e => by cases e; exact h8⟩
end In
end Go.Proofs.YthdlfeejeboboaaGreatDoor
namespace Go.Proofs.YthdlfeejeboboaaGreatDoor
open Go.RowKit
set_option maxRecDepth 100000
set_option linter.unusedSimpArgs false
set_option linter.unusedVariables false

theorem run_append_none {P : Program} {w : World} {t e ty : TypeId} {i : TypeInfo} (ht : P.underlying t = some (.slice e)) (hi : P.info? e = some i) (b : Option Addr) (n c : Nat) (hc : n ≤ c) (hb : b = none → n = 0 ∧ c = 0) :
    (Builtin.append_ #[t, t] ty #[.slice b n c, .slice none 0 0]).run P w = .ok (.slice b n c) w := by
  cases b with
  | none =>
    obtain ⟨rfl, rfl⟩ := hb rfl
    simp [Builtin.append_, run_underlying ht, sizeOf, typeInfo, hi, Builtin.lenOf, Builtin.firstCells, loadCells, loadCellsFrom]
  | some a =>
    simp [Builtin.append_, run_underlying ht, sizeOf, typeInfo, hi, Builtin.lenOf, Builtin.firstCells, loadCells, loadCellsFrom, hc, storeCells]
section
variable {P : Program} {w : World}
theorem wp_append_rows {o : Oper} {a : Act} {K : Act → World → Prop} {Q : Exit → Act → World → Prop} (s x : Operand) (t : TypeId)
    (ho : o.op = .call { callee := .builtin .append, args := #[s, x], argTypes := #[t, t] })
    (base bx : Nat) (e : TypeId) (i : TypeInfo) (z : Value) (size bytes : Nat) (ht : P.underlying t = some (.slice e)) (hi : P.info? e = some i) (hz : i.zero = some z)
    (hsize : i.size = size) (hby : i.bytes = bytes) (hzs : z.cells.size = size) (hsz : 0 < size)
    (v : Value) (n : Nat) (xs : List Value) (hs : a.eval s = v) (hown : w.ownsRow base e size v n xs)
    (vx : Value) (m : Nat) (news : List Value) (hx : a.eval x = vx) (hownx : w.ownsRow bx e size vx m news) (h1 : ∀ u ∈ news, u.oneCell' = true)
    (h63 : n + m ≤ maxLen) (hbytes : (n + m) * bytes ≤ 140737488355328) (hbase : base ≤ w.heap.size)
    (h : ∀ v' w', w'.ownsRow base e size v' (n + m) (xs ++ news) → w.grownBy w' v.ownBlock → (v'.ownBlock = v.ownBlock ∨ ∃ g, v'.ownBlock = some g ∧ w.heap.size ≤ g) → K (a.put o.dst v') w') : o.wp P a w K Q := by
  have hcase := hownx
  obtain ⟨hl, ⟨rfl, rfl⟩ | ⟨g, cap, cur, rfl, k1, k2, k3, k4, k5, k6⟩⟩ := hownx
  · have hn0 : news = [] := List.length_eq_zero_iff.1 (by omega)
    subst hn0
    have hf : ∃ b c, v = .slice b n c ∧ n ≤ c ∧ (b = none → n = 0 ∧ c = 0) := by
      obtain ⟨_, ⟨rfl, rfl⟩ | ⟨g, cap, cur, rfl, _, _, k, _⟩⟩ := hown
      · exact ⟨none, 0, rfl, Nat.le_refl _, fun _ => ⟨rfl, rfl⟩⟩
      · exact ⟨_, cap, rfl, k, fun h => by cases h⟩
    obtain ⟨b, c, rfl, hc, hb⟩ := hf
    have hrun := run_append_none (P := P) (w := w) (ty := o.type) ht hi b n c hc hb
    unfold Oper.wp
    simp [execOp, ho, resolve, invoke, builtin, hs, hx, hrun, Result.andThen]
    have hf := h (.slice b n c) w (by simpa using hown) (grownBy_refl _ _) (.inl rfl)
    exact hf
  · by_cases hm : m = 0
    · subst hm
      have hn0 : news = [] := List.length_eq_zero_iff.1 (by omega)
      subst hn0
      have hf : ∃ b c, v = .slice b n c ∧ n ≤ c ∧ (b = none → n = 0 ∧ c = 0) := by
        obtain ⟨_, ⟨rfl, rfl⟩ | ⟨g, cap, cur, rfl, _, _, k, _⟩⟩ := hown
        · exact ⟨none, 0, rfl, Nat.le_refl _, fun _ => ⟨rfl, rfl⟩⟩
        · exact ⟨_, cap, rfl, k, fun h => by cases h⟩
      obtain ⟨b, c, rfl, hc, hb⟩ := hf
      have hrun : (Builtin.append_ #[t, t] o.type #[.slice b n c, .slice (some ⟨g, 0, none⟩) 0 cap]).run P w = .ok (.slice b n c) w := by
        cases b with
        | none =>
          obtain ⟨rfl, rfl⟩ := hb rfl
          simp [Builtin.append_, run_underlying ht, sizeOf, typeInfo, hi, Builtin.lenOf, Builtin.firstCells, loadCells, loadCellsFrom]
        | some a =>
          simp [Builtin.append_, run_underlying ht, sizeOf, typeInfo, hi, Builtin.lenOf, Builtin.firstCells, loadCells, loadCellsFrom, hc, storeCells]
      unfold Oper.wp
      simp [execOp, ho, resolve, invoke, builtin, hs, hx, hrun, Result.andThen]
      exact h (.slice b n c) w (by simpa using hown) (grownBy_refl _ _) (.inl rfl)
    · refine wp_append_lies w s x t ho base e i z size bytes ht hi hz hsize hby hzs hsz v n xs hs hown ⟨g, 0, none⟩ m cap news hx hl (hcase.cells rfl) h1 (by omega) h63 hbytes hbase w.heap.size rfl ?_
      intro g2 cap2 w' r1 r2 r3 r4
      refine h _ w' r1 r2 ?_
      rcases r3 with r3 | r3
      · exact .inl r3.symm
      · exact .inr ⟨g2, rfl, by omega⟩
theorem step_append_rows {ops : Array Oper} {o : Oper} {a : Act} {K : Act → World → Prop} {Q : Exit → Act → World → Prop} {E : Prop} (hgd : o.guard = none) (s x : Operand) (t : TypeId)
    (ho : o.op = .call { callee := .builtin .append, args := #[s, x], argTypes := #[t, t] })
    (base bx : Nat) (e : TypeId) (i : TypeInfo) (z : Value) (size bytes : Nat) (ht : P.underlying t = some (.slice e)) (hi : P.info? e = some i) (hz : i.zero = some z)
    (hsize : i.size = size) (hby : i.bytes = bytes) (hzs : z.cells.size = size) (hsz : 0 < size)
    (v : Value) (n : Nat) (xs : List Value) (hs : a.eval s = v) (hown : w.ownsRow base e size v n xs)
    (vx : Value) (m : Nat) (news : List Value) (hx : a.eval x = vx) (hownx : w.ownsRow bx e size vx m news) (h1 : ∀ u ∈ news, u.oneCell' = true)
    (h63 : n + m ≤ maxLen) (hbytes : (n + m) * bytes ≤ 140737488355328) (hbase : base ≤ w.heap.size)
    (h : ∀ v' w', w'.ownsRow base e size v' (n + m) (xs ++ news) → w.grownBy w' v.ownBlock → (v'.ownBlock = v.ownBlock ∨ ∃ g, v'.ownBlock = some g ∧ w.heap.size ≤ g) → K (a.put o.dst v') w') :
    if Region.wanted o (yielded ops a.tmps) = true then Oper.wp P o a w K Q else E := by
  have hw : Region.wanted o (yielded ops a.tmps) = true := by simp [Region.wanted, hgd]
  rw [if_pos hw]
  exact wp_append_rows s x t ho base bx e i z size bytes ht hi hz hsize hby hzs hsz v n xs hs hown vx m news hx hownx h1 h63 hbytes hbase h
theorem wpList_append_rows {ops : Array Oper} {rest : List Oper} {o : Oper} {a : Act} {Q : Exit → Act → World → Prop} (hgd : o.guard = none) (s x : Operand) (t : TypeId)
    (ho : o.op = .call { callee := .builtin .append, args := #[s, x], argTypes := #[t, t] })
    (base bx : Nat) (e : TypeId) (i : TypeInfo) (z : Value) (size bytes : Nat) (ht : P.underlying t = some (.slice e)) (hi : P.info? e = some i) (hz : i.zero = some z)
    (hsize : i.size = size) (hby : i.bytes = bytes) (hzs : z.cells.size = size) (hsz : 0 < size)
    (v : Value) (n : Nat) (xs : List Value) (hs : a.eval s = v) (hown : w.ownsRow base e size v n xs)
    (vx : Value) (m : Nat) (news : List Value) (hx : a.eval x = vx) (hownx : w.ownsRow bx e size vx m news) (h1 : ∀ u ∈ news, u.oneCell' = true)
    (h63 : n + m ≤ maxLen) (hbytes : (n + m) * bytes ≤ 140737488355328) (hbase : base ≤ w.heap.size)
    (h : ∀ v' w', w'.ownsRow base e size v' (n + m) (xs ++ news) → w.grownBy w' v.ownBlock → (v'.ownBlock = v.ownBlock ∨ ∃ g, v'.ownBlock = some g ∧ w.heap.size ≤ g) → wpList P ops Q rest (a.put o.dst v') w') : wpList P ops Q (o :: rest) a w := by
  refine wpList_plain hgd fun K hK => ?_
  exact wp_append_rows s x t ho base bx e i z size bytes ht hi hz hsize hby hzs hsz v n xs hs hown vx m news hx hownx h1 h63 hbytes hbase (fun v' w' a b c => hK _ _ (h v' w' a b c))
end
end Go.Proofs.YthdlfeejeboboaaGreatDoor
namespace Go.Proofs.YthdlfeejeboboaaGreatDoor
open Go.RowKit Go.Maps Ck
open T3.Tp (Ty enc cns met)
open Tr (T Nd nm flat flats)
set_option maxRecDepth 100000
set_option linter.unusedSimpArgs false
set_option linter.unusedVariables false
namespace In
def wsh (x y : Nd) (t : Ty) (st : List PT × List Si) (w : Nat × Ty × Int) : List PT × List Si :=
  if t = w.2.1 then st
  else (st.1.modify w.1 (lay (castN t w.2.1 (st.2.length + 1) (if w.2.2 = 16 then x.ln else y.ln) (if w.2.2 = 16 then x.co else y.co))), st.2 ++ [⟨w.2.2, if w.2.2 = 16 then x.ln else y.ln, if w.2.2 = 16 then x.co else y.co⟩])
theorem wish_wsh {x y : Nd} {t : Ty} {tk : List Ty} {kx : List Nd} {st : List PT × List Si} {w : Nat × Ty × Int} (ht : tk.getD w.1 .tq = t) (hy : kx.getD w.1 x = y) : wish x tk kx st w = wsh x y t st w := by
  unfold wish wsh placeN
  rw [ht, hy]
  by_cases h : w.2.2 = 16
  · simp only [h, if_true]
  · simp only [h, if_false]
def AhB (m : Nat) (ks : List PT) : Prop := ∀ (k a : Nat) (ah : List Nd) (ks' : List PT), ks[k]? = some (.pt a ah ks') → ah.length ≤ m
theorem AhB.wsh {m : Nat} {x y : Nd} {t : Ty} {st : List PT × List Si} {w : Nat × Ty × Int} (h : AhB m st.1) : AhB (m + 1) (wsh x y t st w).1 := by
  unfold In.wsh
  split
  · exact fun k a ah ks' e => Nat.le_succ_of_le (h k a ah ks' e)
  · intro k a ah ks' e
    simp only [List.getElem?_modify] at e
    cases hk : st.1[k]? with
    | none => rw [hk] at e; simp at e
    | some p =>
      obtain ⟨a0, ah0, ks0⟩ := p
      rw [hk] at e
      have := h k a0 ah0 ks0 hk
      simp only [Option.map_eq_map, Option.map_some, Option.some.injEq] at e
      split at e
      · simp [lay] at e
        obtain ⟨_, rfl, _⟩ := e
        simp; omega
      · simp at e
        obtain ⟨_, rfl, _⟩ := e
        omega
theorem wsh_len {x y : Nd} {t : Ty} {st : List PT × List Si} {w : Nat × Ty × Int} : (wsh x y t st w).1.length = st.1.length ∧ (wsh x y t st w).2.length ≤ st.2.length + 1 := by
  unfold In.wsh
  split
  · exact ⟨rfl, by omega⟩
  · simp
theorem wsh_plc {x y : Nd} {t : Ty} {st : List PT × List Si} {w : Nat × Ty × Int} : (wsh x y t st w).1.map PT.plc = st.1.map PT.plc := by
  unfold In.wsh
  split
  · rfl
  · apply List.ext_getElem?
    intro k
    simp only [List.getElem?_map, List.getElem?_modify]
    cases st.1[k]? with
    | none => rfl
    | some p => obtain ⟨a, b, c⟩ := p; simp only [Option.map_eq_map, Option.map_some]; split <;> rfl
structure Cst (B ib fb i b at' kb mb lo hi : Nat) (md : ByteArray) (nv tv va : Value) (l : List Nd) (ts : List Ty) (N : List (List UInt8)) (ah : List Nd) (bs : List Nat) (w : World) (st : List PT × List Si) (sv : Value) : Prop where
  is : Is B w ib sv md nv tv l ts N fb i st.2
  pn : Pn w b at' va kb mb st.1.length (icells (st.1.map PT.plc)) (st.1.map PT.plc) bs
  ah : w.ownsRow 0 72 8 va ah.length (nrow ah)
  ks : IsPTs w st.1 lo hi bs
  lt : B ≤ b ∧ b < lo ∧ B ≤ kb ∧ kb < lo ∧ B ≤ mb ∧ mb < lo ∧ hi ≤ w.heap.size
def CsEnd (B ib fb i b at' kb mb lo hi : Nat) (md : ByteArray) (nv tv va : Value) (l : List Nd) (ts : List Ty) (N : List (List UInt8)) (ah : List Nd) (bs : List Nat) (w : World) (st : List PT × List Si) (e : Ending) (w' : World) : Prop :=
  e = .returned (.tuple #[]) ∧ Fy B ib lo hi w w' ∧ ∃ sv, Cst B ib fb i b at' kb mb lo hi md nv tv va l ts N ah bs w' st sv
theorem Cst.types {B ib fb i b at' kb mb lo hi : Nat} {md : ByteArray} {nv tv va sv : Value} {l : List Nd} {ts : List Ty} {N : List (List UInt8)} {ah : List Nd} {bs : List Nat} {w : World} {st : List PT × List Si} (h : Cst B ib fb i b at' kb mb lo hi md nv tv va l ts N ah bs w st sv) : lo ≤ hi := isPTs_le _ h.ks
theorem Cst.keep {B ib fb i b at' kb mb lo hi : Nat} {md : ByteArray} {nv tv va sv sv' : Value} {l : List Nd} {ts : List Ty} {N : List (List UInt8)} {ah : List Nd} {bs : List Nat} {w w' : World} {st : List PT × List Si} {ss' : List Si} (h : Cst B ib fb i b at' kb mb lo hi md nv tv va l ts N ah bs w st sv) (hk : Kp B hi w w') (hi' : Is B w' ib sv' md nv tv l ts N fb i ss') (hs : w.heap.size ≤ w'.heap.size) : Cst B ib fb i b at' kb mb lo hi md nv tv va l ts N ah bs w' (st.1, ss') sv' := by
  obtain ⟨h1, h2, h3, h4, h5, h6, h7⟩ := h.lt
  have hl := h.types
  exact ⟨hi', h.pn.keep (lo := B) (m := lo) (hk.sub (Nat.le_refl _) hl) h1 h2 h3 h4 h5 h6, own_keepG h.ah (fun g cur _ hc => hk.nd g cur hc), isPTs_keep _ h.ks (hk.sub (by omega) (Nat.le_refl _)), ⟨h1, h2, h3, h4, h5, h6, by omega⟩⟩
end In

set_option maxHeartbeats 8000000 in
theorem cast_same (B ib fb i b at' kb mb lo hi k p m : Nat) (md : ByteArray) (nv tv va sv : Value) (l : List Nd) (ts : List Ty) (N : List (List UInt8)) (ah : List Nd) (bs : List Nat) (w : World) (st : List In.PT × List In.Si) (x y : Nd) (t T2 : Ty) (r : Int) (hC : In.Cst B ib fb i b at' kb mb lo hi md nv tv va l ts N ah bs w st sv) (hp : (st.1.map In.PT.plc)[k]? = some p) (hx : l[at']? = some x) (hy : l[p]? = some y) (ht : ts[p]? = some t) (hm : In.AhB m st.1) (hm2 : m ≤ 1000000) (hl : l.length ≤ 100000) (hss : st.2.length ≤ 100000) (he : t = T2) : Calls Tryz.prog 121 #[.pointer (some ⟨ib, 0, none⟩), .pointer (some ⟨b, 0, none⟩), .int .i64 (k : Int), .string (S (enc T2)), .int .i64 r] w (In.CsEnd B ib fb i b at' kb mb lo hi md nv tv va l ts N ah bs w (In.wsh x y t st (k, T2, r))) := by
  obtain ⟨c0, c1, c2, c3, c4, c5, cz⟩ := hC.is.cells
  obtain ⟨d0, d1, d2, d3, dz, dk, dkz⟩ := hC.pn.cells
  have hkp : p < l.length := (List.getElem?_eq_some_iff.1 hy).1
  have hkt : p < ts.length := (List.getElem?_eq_some_iff.1 ht).1
  have hkn : k < st.1.length := by have := (List.getElem?_eq_some_iff.1 hp).1; simpa using this
  have hkk : w.cell? ⟨kb, k, none⟩ = some (.int .i64 (p : Int)) := by rw [dk k]; simp only [In.icells, List.getElem?_map, hp, Option.map_some]
  clear dk
  obtain ⟨at1, ct, rfl⟩ := txs_form hC.is.ty
  obtain ⟨tb, to', rfl, htc, htb, hty⟩ := hC.is.type ht
  rw [List.length_map] at htc c2
  have hk' : (k : Int) < (st.1.length : Int) := by omega
  have hp' : (p : Int) < (ts.length : Int) := by omega
  have HR : Aside (In.wsh x y t st (k, T2, r) = st) := by show _ = _; unfold In.wsh; rw [if_pos he]
  have HC : Aside (∃ sv', In.Cst B ib fb i b at' kb mb lo hi md nv (.slice (some ⟨tb, to', none⟩) (ts.map enc).length ct) va l ts N ah bs w st sv') := ⟨sv, hC⟩
  rw [List.length_map] at HC ⊢
  clear hC hx hy ht hm hp
  subst he
  generalize S (enc t) = s1 at *
  generalize st.1.length = n at *
  go_enter Tryz.func121, Tryz.ntmps121
  go_wp2_with fail
  go_end0
  rw [HR.out]
  exact ⟨rfl, In.Fy.refl _ _ _ _ _, HC.out⟩

theorem own_site (w : World) (md : ByteArray) (s : In.Si) : (w.alloc (.cells (In.scell md s).toArray 75)).ownsRow 0 75 5 (.slice (some ⟨w.heap.size, 0, none⟩) 1 1) 1 (In.scell md s) :=
  ⟨by simp [In.scell], .inr ⟨w.heap.size, 1, _, rfl, Nat.zero_le _, heap_alloc_new _ _, Nat.le_refl _, by unfold maxLen; omega, by simp [In.scell], by simp [In.scell]⟩⟩

theorem cast_mid {B ib fb i : Nat} {md : ByteArray} {nv tv sv v2 : Value} {l : List Nd} {ts : List Ty} {N : List (List UInt8)} {V0 w2 : World} {ss : List In.Si} {s : In.Si} (is0 : In.Is B V0 ib sv md nv tv l ts N fb i ss) (hg : V0.grownBy w2 sv.ownBlock) (ho : w2.ownsRow B 75 5 v2 (ss.length + 1) (In.srow md ss ++ In.scell md s)) :
    In.Fz B ib V0.heap.size V0 (w2.setCell ⟨ib, 5, none⟩ v2) ∧ In.Is B (w2.setCell ⟨ib, 5, none⟩ v2) ib v2 md nv tv l ts N fb i (ss ++ [s]) := by
  have F : In.Fz B ib V0.heap.size V0 (w2.setCell ⟨ib, 5, none⟩ v2) := (In.Fz.grown is0.own hg (Nat.le_refl _)).trans (In.Fz.setI _ _ _ _ _ _)
  refine ⟨F, is0.move (F.mono is0.lt.2.2) ?_ ?_⟩
  · have hb : w2.heap[ib]? = V0.heap[ib]? := hg.block ib (Nat.lt_of_lt_of_le is0.lt.1 is0.lt.2.2) (fun e => by have := (is0.own.lt ib e.symm).1; have := is0.lt.1; omega)
    rw [In.setc (hb.trans is0.blk)]
    rfl
  · rw [In.srow_app, In.srow_one, List.length_append]
    refine own_keepG ho fun g cur hg2 _ => In.setc_ne ?_
    have := (ho.lt g hg2).1
    have := is0.lt.1
    omega

theorem own_lit8 (w : World) (cs : List Value) (h : cs.length = 8) : (w.alloc (.cells cs.toArray 72)).ownsRow w.heap.size 72 8 (.slice (some ⟨w.heap.size, 0, none⟩) 1 1) 1 cs :=
  ⟨by simpa using h, .inr ⟨w.heap.size, 1, _, rfl, Nat.le_refl _, heap_alloc_new _ _, Nat.le_refl _, by unfold maxLen; omega, by simpa using h, by rw [← h]; simp⟩⟩
theorem lay_plc {c : Nd} {ks : List In.PT} {k : Nat} : (ks.modify k (In.lay c)).map In.PT.plc = ks.map In.PT.plc := by
  apply List.ext_getElem?
  intro j
  simp only [List.getElem?_map, List.getElem?_modify]
  cases ks[j]? with
  | none => rfl
  | some p => obtain ⟨a, b, c⟩ := p; simp only [Option.map_eq_map, Option.map_some]; split <;> rfl
theorem cast_fin {B ib fb i b at' kb mb lo hi k bk : Nat} {md : ByteArray} {nv tv va sv v3 : Value} {l : List Nd} {ts : List Ty} {N : List (List UInt8)} {ah : List Nd} {bs : List Nat} {w W2 w3 : World} {st : List In.PT × List In.Si} {c : Nd} (hC : In.Cst B ib fb i b at' kb mb lo hi md nv tv va l ts N ah bs W2 st sv) (hF : In.Fy B ib lo hi w W2) (hbk : bs[k]? = some bk) (hg : W2.grownBy w3 (some W2.heap.size))
    (hv : ∀ a ahk kk, st.1[k]? = some (.pt a ahk kk) → w3.ownsRow W2.heap.size 72 8 v3 (1 + ahk.length) (Tr.ncells c ++ nrow ahk)) :
    In.Fy B ib lo hi w (w3.setCell ⟨bk, 1, none⟩ v3) ∧ In.Cst B ib fb i b at' kb mb lo hi md nv tv va l ts N ah bs (w3.setCell ⟨bk, 1, none⟩ v3) (st.1.modify k (In.lay c), st.2) sv := by
  have hB : Below W2.heap.size W2 w3 := ⟨hg.os, hg.tape, hg.output, hg.size, fun j hj => hg.block j hj (by intro e; have := Option.some.inj e; omega)⟩
  have hC3 := hC.keep (In.Kp.below hB) (hC.is.below hB) hB.size
  obtain ⟨b1, b2, b3, b4, b5, b6, b7⟩ := hC3.lt
  have hlh := hC3.types
  have hkn : k < st.1.length := by rw [← In.isPTs_len _ hC.ks]; exact (List.getElem?_eq_some_iff.1 hbk).1
  obtain ⟨pk, hpk⟩ : ∃ pk, st.1[k]? = some pk := ⟨_, List.getElem?_eq_getElem hkn⟩
  obtain ⟨bk2, lk, hk2, hbk2, hlk, hhk, hpt⟩ := In.isPTs_at _ hC3.ks hpk
  obtain rfl : bk2 = bk := by rw [hbk] at hbk2; exact (Option.some.inj hbk2).symm
  have hle := In.isPT_le _ hpt
  obtain ⟨vk, C, hkb, _⟩ := In.isPT_cells _ hpt
  have hK := In.Kp.set (lo := B) (hi := lo) hkb (.inr (by omega)) 1 v3
  refine ⟨(hF.trans (In.Fy.below hB)).trans (In.Fy.setP (by omega) (by omega)), hC3.is.setH (by omega) hkb (by decide), ?_, own_keepG hC3.ah (fun g cur _ hc => hK.nd g cur hc), ?_, ⟨b1, b2, b3, b4, b5, b6, by simpa [World.setCell] using b7⟩⟩
  · have h := hC3.pn.keep (lo := B) (m := lo) hK b1 b2 b3 b4 b5 b6
    simpa [lay_plc] using h
  · refine In.isPTs_lay _ hC3.ks hbk (fun a ahk kk e => ?_)
    have h := hv a ahk kk e
    rw [show 1 + ahk.length = ahk.length + 1 by omega] at h
    exact own_low h (Nat.zero_le _)
end Go.Proofs.YthdlfeejeboboaaGreatDoor
