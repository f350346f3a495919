/- Package check: environment. What the finder's walk through a part finds. What the finder's walk through a part finds: a node with kids. What the program's Free answers. Package check: what Expr answers. -/
import Derived.Test.YthihnkgjkmaplaaGreatDoorUbj
import Derived.Deep.Cut
import Derived.Deep.DeepCutAuto
import Derived.Test.YthihnkgjkmaplaaGreatDoorUaz
import Derived.Test.YthihnkgjkmaplaaGreatDoorUau
namespace Go.Proofs.YthihnkgjkmaplaaGreatDoor
open Go.RowKit Go.Maps Ck
open Go.WideMaps Go.WideElems
open T3.Tp (Ty enc cns met)
set_option maxRecDepth 100000
set_option linter.unusedSimpArgs false

theorem envB_len {N Th : List (List UInt8)} (h : N.length ≠ Th.length) : envB N Th = false := by unfold envB; simp [h]
theorem envB_bad {N Th : List (List UInt8)} {k : Nat} {p t : List UInt8} (hp : N[k]? = some p) (ht : Th[k]? = some t) (h : (T3.Tp.chk t).1 ≠ 0 ∨ nameB p = false) : envB N Th = false := by
  unfold envB
  have m1 := List.mem_of_getElem? hp
  have m2 := List.mem_of_getElem? ht
  rcases h with h | h
  · have : (Th.all fun t => (T3.Tp.chk t).1 == 0) = false := by
      rw [List.all_eq_false]; exact ⟨t, m2, by simpa using h⟩
    simp [this]
  · have : N.all nameB = false := by rw [List.all_eq_false]; exact ⟨p, m1, by simp [h]⟩
    simp [this]
theorem envB_good {N Th : List (List UInt8)} (hl : N.length = Th.length) (h : ∀ (j : Nat) p t, N[j]? = some p → Th[j]? = some t → (T3.Tp.chk t).1 = 0 ∧ nameB p = true) : envB N Th = true := by
  unfold envB
  simp only [Bool.and_eq_true, decide_eq_true_eq, List.all_eq_true, beq_iff_eq]
  refine ⟨⟨hl, fun t ht => ?_⟩, fun p hp => ?_⟩
  · obtain ⟨j, hj⟩ := List.getElem?_of_mem ht
    have hjl := (List.getElem?_eq_some_iff.1 hj).1
    exact (h j N[j] t (List.getElem?_eq_getElem (by omega)) hj).1
  · obtain ⟨j, hj⟩ := List.getElem?_of_mem hp
    have hjl := (List.getElem?_eq_some_iff.1 hj).1
    exact (h j p Th[j] hj (List.getElem?_eq_getElem (by omega))).2

theorem below_grown {w w1 w2 : World} {b : Nat} (h : Below w.heap.size w w1) (hg : w1.grownBy w2 (some b)) (hb : w.heap.size ≤ b) : Below w.heap.size w w2 :=
  h.grown hg h.size (fun k e => by have hk := Option.some.inj e; omega)

theorem run_makeMap_hint (n : Int) (w : World) : (Instr.makeMap 81 (some (.int .i64 n))).run Tryz.prog w = .ok (.map (some w.heap.size)) (w.alloc (.map #[] 0)) := by
  simp [Instr.makeMap, run_underlying tyCnt, asInt, newObj]
  rfl

set_option maxHeartbeats 4000000 in
theorem environment_any (N Th : List (List UInt8)) (hN : N.length ≤ 1000) (hs : ∀ p ∈ N, p.length ≤ maxLen) (vn vt : Value) (w : World) (hn : T3.IsTexts w vn N) (ht : T3.IsTexts w vt Th) :
    Calls Tryz.prog 23 #[vn, vt] w (EnvEnd w N Th) := by
  have hmm := run_makeMap_hint
  have hmf : ∀ (fn : Go.Fn) (first cap : Array Value) (w : World), (Instr.makeFunc fn first cap).run Tryz.prog w = .ok (.func fn first cap) w := fun _ _ _ _ => rfl
  obtain ⟨an, cn, rfl⟩ := txs_form hn
  obtain ⟨at', ct, rfl⟩ := txs_form ht
  by_cases hlen : N.length = Th.length
  · have HG : Aside ((∀ (j : Nat) p t, N[j]? = some p → Th[j]? = some t → (T3.Tp.chk t).1 = 0 ∧ nameB p = true) → envB N Th = true) := fun h => envB_good hlen h
    have hlb : ((N.length : Int) != (Th.length : Int)) = false := by simp; omega
    have hTl : Th.length ≤ 1000 := by omega
    have h1 := heap_alloc_new w (.cells #[.slice at' Th.length ct] 23)
    have c1 := (block_cells h1).1 0
    have hI0 := Idx.made (w.alloc (.cells #[.slice at' Th.length ct] 23))
    have HL : Aside (N.length = Th.length) := hlen
    clear hlen
    go_enter Tryz.func23, Tryz.ntmps23
    go_wp2_with fail
    go_loopg [21] (N.length) (fun gq tq wr => ∃ k : Nat, k + gq = N.length ∧ tq = .int .i64 (k : Int) ∧ Below w.heap.size w wr ∧ w.heap.size + 3 ≤ wr.heap.size ∧ wr.cell? ⟨w.heap.size, 0, none⟩ = some (.slice at' Th.length ct) ∧ wr.cell? ⟨w.heap.size + 2, 0, none⟩ = some (.map (some (w.heap.size + 1))) ∧ Idx wr (w.heap.size + 1) k (lastAt N k) ∧ Aside (∀ (j : Nat) p t, j < k → N[j]? = some p → Th[j]? = some t → (T3.Tp.chk t).1 = 0 ∧ nameB p = true))
    case atStart =>
      refine ⟨0, by omega, rfl, by repeat (first | exact Below.refl _ _ | refine balloc ?_ _), by simp, ?_, ?_, ?_, fun j p t hj => absurd hj (by omega)⟩
      · simp [go_sem]
      · simp [go_sem]
      · have hI1 := hI0.kept (World.grownBy_alloc _ (.cells #[.map (some (w.heap.size + 1))] 81) none) (by simp)
        rw [show (w.alloc (.cells #[.slice at' Th.length ct] 23)).heap.size = w.heap.size + 1 by simp] at hI1
        exact hI1
    case round =>
      obtain ⟨k, hkg, rfl, hB, hsz, cT, cM, hI, HA⟩ := hrel
      clear h1 c1 hI0
      by_cases hk : k < N.length
      · have hk' : (k : Int) < (N.length : Int) := by omega
        have hk0 : (0 : Int) ≤ (k : Int) := by omega
        have hkt : (k : Int) < (Th.length : Int) := by have := HL.out; omega
        obtain ⟨p, hp⟩ := getp hk
        obtain ⟨t, htk⟩ := getp (a := Th) (k := k) (by omega)
        obtain ⟨bn, on, rfl, hcn, hbn, cN⟩ := txs_at (txs_below hn hB) hp
        obtain ⟨bt', ot, rfl, hct, hbt, cTh⟩ := txs_at (txs_below ht hB) htk
        have hps : (T3.S p).size ≤ maxLen := by rw [T3.S_size]; exact hs p (List.mem_of_getElem? hp)
        have hck := T3.check_any (T3.S t)
        have hnm := isName_any (T3.S p) hps
        rw [T3.S_list] at hck hnm
        by_cases hc : (T3.Tp.chk t).1 = 0
        · rw [T3.Tp.chk_snd hc] at hck
          cases hnb : nameB p with
          | false =>
            have HE : Aside (envB N Th = false) := envB_bad hp htk (.inr hnb)
            rw [hnb] at hnm
            clear hp htk hnb HA hn ht hc HG
            go_wp2_with (first | (go_at_call 48; refine (hck _).mono ?_; rintro e w' ⟨rfl, hw'⟩; replace hw' := hw'.symm; subst hw') | (go_at_call 49; refine (hnm _).mono ?_; rintro e w1 ⟨rfl, hB1⟩))
            go_ret2
            exact EnvEnd.no (bt hB hB1) HE.out
          | true =>
            have HA2 : Aside (∀ (j : Nat) p t, j < k + 1 → N[j]? = some p → Th[j]? = some t → (T3.Tp.chk t).1 = 0 ∧ nameB p = true) := by
              intro j p' t' hj h1 h2
              by_cases e : j = k
              · subst e; rw [hp] at h1; rw [htk] at h2; cases h1; cases h2; exact ⟨hc, hnb⟩
              · exact HA.out j p' t' (by omega) h1 h2
            have HK : Aside (∀ w', Idx w' (w.heap.size + 1) (k + 1) (fun l => if l = (T3.S p).data.toList then some k else lastAt N k l) → Idx w' (w.heap.size + 1) (k + 1) (lastAt N (k + 1))) := by
              intro w' h
              obtain ⟨D, h1, h2⟩ := h
              refine ⟨D, h1, fun l => ?_⟩
              have e : lastAt N (k + 1) l = (if l = (T3.S p).data.toList then some k else lastAt N k l) := by
                rw [lastAt, hp]
                by_cases e : l = p
                · subst e; simp [T3.S_list]
                · rw [if_neg (by intro h; exact e (Option.some.inj h).symm), if_neg (by rw [T3.S_list]; exact e)]
              rw [e]; exact h2 l
            rw [hnb] at hnm
            clear hp htk hnb HA hn ht hc
            go_wp2_with (first | (go_at_call 48; refine (hck _).mono ?_; rintro e w' ⟨rfl, hw'⟩; replace hw' := hw'.symm; subst hw') | (go_at_call 49; refine (hnm _).mono ?_; rintro e w1 ⟨rfl, hB1⟩; have cM1 := (hB1.cell (p := ⟨w.heap.size + 2, 0, none⟩) (by show w.heap.size + 2 < _; omega)).trans cM; have hI1 := hI.kept (r := none) (grown_of_below (grownBy_refl _ _) hB1) (by simp)) | (at_mapUpdate; refine wpList_idx _ rfl _ _ _ rfl (w.heap.size + 1) k (lastAt N k) rfl hI1 (by omega) (T3.S p) hps rfl k rfl (by omega) ?_; intro w2 hI2 hg2))
            go_roundg (N.length - (k + 1))
            case measure => omega
            case rel =>
              have hs1 := hB1.size
              have hs2 := hg2.size
              refine ⟨k + 1, by omega, by go_num, below_grown (bt hB hB1) hg2 (by omega), by omega, ?_, ?_, HK.out _ hI2, HA2⟩
              · exact hg2.cell ((hB1.cell (p := ⟨w.heap.size, 0, none⟩) (by show w.heap.size < _; omega)).trans cT) (by simp)
              · exact hg2.cell cM1 (by simp)
        · have hc' : (((T3.Tp.chk t).1 : Int) != 0) = true := by simpa using hc
          have HE : Aside (envB N Th = false) := envB_bad hp htk (.inl hc)
          generalize (T3.Tp.chk t).1 = q1 at *
          generalize (T3.Tp.chk t).2 = q2 at *
          clear hp htk HA hn ht hc HG
          go_wp2_with (first | (go_at_call 48; refine (hck _).mono ?_; rintro e w' ⟨rfl, hw'⟩; replace hw' := hw'.symm; subst hw'))
          go_ret2
          exact EnvEnd.no hB HE.out
      · have hk' : ¬ (k : Int) < (N.length : Int) := by omega
        obtain rfl : k = N.length := by omega
        have hE : envB N Th = true := HG.out (fun j p t h1 h2 => HA.out j p t (List.getElem?_eq_some_iff.1 h1).1 h1 h2)
        obtain ⟨ts, e1, e2, e3⟩ := envB_types hE
        have HF : Aside (EnvEnd w N Th (.returned (.tuple #[.func (.func 50) #[] #[.pointer (some ⟨w.heap.size + 2, 0, none⟩), .pointer (some ⟨w.heap.size, 0, none⟩)], .bool true])) wr) := by
          refine ⟨hB, ?_⟩
          rw [if_pos hE]
          refine ⟨_, ts, rfl, e1, e2, e3, fun a b ha hb => ⟨_, _, rfl, enters_of Tryz.func50 (by kernel_rfl) rfl, fun w' hT n hn' => ?_⟩⟩
          have hTc : ∀ {q o : Nat}, q < wr.heap.size → w'.cell? ⟨q, o, none⟩ = wr.cell? ⟨q, o, none⟩ := fun {q o} h => hT.cell (p := ⟨q, o, none⟩) h (by show q ≠ a; omega) (by show q ≠ b; omega)
          have hI' : Idx w' (w.heap.size + 1) N.length (lastAt N N.length) := by
            exact hI.kept (r := none) ⟨hT.os, hT.tape, hT.output, hT.size, fun k hk _ => hT.block k hk (by omega) (by omega)⟩ (by simp)
          have hl := look_last N ts e1 N.length (Nat.le_refl _)
          rw [List.take_of_length_le (by simp; omega)] at hl
          refine env1_any w' (w.heap.size + 2) w.heap.size (w.heap.size + 1) N.length (lastAt N N.length) ts (envOf N ts) n hn' hI' ((hTc (by omega)).trans cM) (.slice at' Th.length ct) ((hTc (by omega)).trans cT) (fun j u hu => ?_) (fun l j h => by have := lastAt_lt h; omega) hl
          have hTj : Th[j]? = some (enc u) := by rw [e2, List.getElem?_map, hu]; rfl
          obtain ⟨tb, k, h1, h2, h3, h4⟩ := txs_at (txs_below ht hB) hTj
          subst h1
          exact ⟨tb, k, ct, by rw [e2]; simp, (hTc h3).trans h4⟩
        clear HA HG hn ht cM cT hI hE e1 e2 e3
        go_wp2_with fail
        go_ret2
        exact HF.out
  · have hlb : ((N.length : Int) != (Th.length : Int)) = true := by simp; omega
    have HE : Aside (envB N Th = false) := envB_len hlen
    clear hlen
    go_enter Tryz.func23, Tryz.ntmps23
    go_wp2_with fail
    go_ret2
    exact EnvEnd.no ((Below.refl _ _).alloc (Nat.le_refl _) _) HE.out
end Go.Proofs.YthihnkgjkmaplaaGreatDoor
namespace Go.Proofs.YthihnkgjkmaplaaGreatDoor
open Go.RowKit Go.Maps
open Go.WideMaps Go.WideElems
set_option maxRecDepth 100000
set_option linter.unusedSimpArgs false

/-- A list lies below a mark. -/
def Low (v : Value) (B0 : Nat) : Prop := ∀ b o n c, v = .slice (some ⟨b, o, none⟩) n c → b < B0
theorem IsNodes.low {w w' : World} {v : Value} {l : List Tr.Nd} {B0 : Nat} (h : IsNodes w v l) (hv : Low v B0) (hB : Below B0 w w') : IsNodes w' v l := by
  rcases h with h | ⟨b, o, c, rfl, h1, h2, h3⟩
  · exact .inl h
  · exact .inr ⟨b, o, c, rfl, h1, Nat.lt_of_lt_of_le h2 hB.size, fun j x hx i u hu => (hB.cell (p := ⟨b, o + j * 8 + i, none⟩) (hv b o _ _ rfl)).trans (h3 j x hx i u hu)⟩
namespace Tr
theorem obL_append (b : List (List UInt8)) (x : Nd) : ∀ (a c : List T) (j : Nat), obL b x j (a ++ c) = obL b x j a ++ obL b x (j + a.length) c
  | [], c, j => by simp [obL]
  | t :: a, c, j => by rw [List.cons_append, obL, obL, obL_append b x a c (j + 1), List.append_assoc]; simp [Nat.add_assoc, Nat.add_comm 1]
theorem add1_len (acc : List (List UInt8)) (o : Option (List UInt8)) : (add1 acc o).length ≤ acc.length + 1 := by
  cases o with
  | none => simp [add1]
  | some n => rw [add1]; split <;> simp
theorem adds_len : ∀ (os : List (Option (List UInt8))) (acc : List (List UInt8)), (adds acc os).length ≤ acc.length + os.length
  | [], acc => by simp [adds]
  | o :: os, acc => by
    have h1 := adds_len os (add1 acc o)
    have h2 := add1_len acc o
    simp only [adds, List.foldl_cons, List.length_cons] at h1 ⊢
    omega
end Tr

theorem IsTexts.kf {w w' : World} {v : Value} {ps : List (List UInt8)} {fb bm tm : Nat} {fv fv' : Value} (h : IsTexts w v ps) (hk : KF w w' fb bm tm fv fv') (hne : ∀ b o n c, v = .slice (some ⟨b, o, none⟩) n c → b ≠ fb ∧ b ≠ bm ∧ b ≠ tm ∧ some b ≠ fv.ownBlock) : IsTexts w' v ps := by
  rcases h with h | ⟨b, o, c, rfl, h1, h2, h3⟩
  · exact .inl h
  · obtain ⟨e1, e2, e3, e4⟩ := hne b o _ _ rfl
    exact .inr ⟨b, o, c, rfl, h1, Nat.lt_of_lt_of_le h2 hk.size, fun j p hp => (World.cell?_of_block (w := w) (a := ⟨b, o + j, none⟩) (hk.block b h2 e1 e2 e3 e4)).trans (h3 j p hp)⟩
/-- A node in a block of its own. -/
def Bx (w : World) (q : Nat) (x : Tr.Nd) : Prop := w.heap[q]? = some (.cells (Tr.ncells x).toArray 64 (0, 0))
theorem Bx.c {w : World} {q : Nat} {x : Tr.Nd} (h : Bx w q x) :
    w.cell? ⟨q, 0, none⟩ = some (.int .i8 x.kind) ∧ w.cell? ⟨q, 1, none⟩ = some (.int .i64 x.kids) ∧ w.cell? ⟨q, 2, none⟩ = some (.int .i64 x.n) ∧ w.cell? ⟨q, 3, none⟩ = some (.string x.s) ∧
    w.cell? ⟨q, 4, none⟩ = some (.string x.t) ∧ w.cell? ⟨q, 5, none⟩ = some (.string x.u) ∧ w.cell? ⟨q, 6, none⟩ = some (.int .i64 x.ln) ∧ w.cell? ⟨q, 7, none⟩ = some (.int .i64 x.co) := by
  unfold Bx at h; simp [World.cell?, h, Tr.ncells]
theorem Bx.kf {w w' : World} {q : Nat} {x : Tr.Nd} {fb bm tm : Nat} {fv fv' : Value} (h : Bx w q x) (hk : KF w w' fb bm tm fv fv') (e1 : q ≠ fb) (e2 : q ≠ bm) (e3 : q ≠ tm) (e4 : some q ≠ fv.ownBlock) : Bx w' q x := by
  unfold Bx at *; rw [hk.block q (Array.getElem?_eq_some_iff.1 h).1 e1 e2 e3 e4]; exact h
end Go.Proofs.YthihnkgjkmaplaaGreatDoor
namespace Go.Proofs.YthihnkgjkmaplaaGreatDoor
open Go.RowKit Go.Maps
open Go.WideMaps Go.WideElems
set_option maxRecDepth 100000
set_option linter.unusedSimpArgs false

namespace Tr
theorem flats_len : ∀ ts : List T, ts.length ≤ (flats ts).length
  | [] => by simp
  | t :: r => by have := flats_len r; have := flat_pos t; simp [flats]; omega
theorem binds_len (x : Nd) (j : Nat) : (binds x j).length ≤ 2 := by
  unfold binds
  split
  · simp
  · split
    · simp
    · split <;> simp
theorem binds_name {x : Nd} (hm : mayB x = true) (j : Nat) : ∀ n ∈ binds x j, n.length ≤ 32 := by
  intro n hn
  have hs := mayB_s hm
  unfold sB at hs
  unfold binds at hn
  split at hn
  · rename_i h; rw [h] at hs; simp at hn; subst hn; exact name_len hs
  · split at hn
    · rename_i h; rw [h] at hs
      have hs' : (nameB (cut32 (nm x)).1 && nameB (cut32 (nm x)).2.1) = true := hs
      simp only [Bool.and_eq_true] at hs'
      simp at hn
      rcases hn with rfl | rfl
      · exact name_len hs'.1
      · exact name_len hs'.2
    · split at hn
      · rename_i h; rw [h.1] at hs; simp at hn; subst hn; exact name_len hs
      · simp at hn
theorem let_kids {x : Nd} (hm : mayB x = true) (h : x.kind = 8) : x.kids = 2 := by
  have hf : fitB x = true := by
    unfold mayB at hm
    simp only [Bool.and_eq_true] at hm
    exact hm.1.1.1.1
  unfold fitB at hf
  rw [h] at hf
  have hf' : (true && x.kids == 2) = true := hf
  simpa using hf'
theorem count_take {ls : List (List UInt8)} {i : Nat} {u : List UInt8} (h : ls[i]? = some u) (b : List (List UInt8)) (n : List UInt8) :
    (ls.take (i + 1) ++ b).count n = if n = u then (ls.take i ++ b).count u + 1 else (ls.take i ++ b).count n := by
  rw [List.take_add_one, h]
  by_cases e : n = u
  · subst e; simp [List.count_append]; omega
  · simp [List.count_append, e, List.count_cons]; intro h2; exact absurd h2.symm e
theorem count_drop {ls : List (List UInt8)} {i : Nat} {u : List UInt8} (h : ls[i]? = some u) (b : List (List UInt8)) (n : List UInt8) :
    0 < (ls.drop i ++ b).count u ∧ (ls.drop (i + 1) ++ b).count n = if n = u then (ls.drop i ++ b).count u - 1 else (ls.drop i ++ b).count n := by
  obtain ⟨hi, he⟩ := List.getElem?_eq_some_iff.1 h
  have hd := List.drop_eq_getElem_cons hi
  rw [he] at hd
  rw [hd]
  clear hd he hi h
  generalize ls.drop (i + 1) = d
  constructor
  · simp
  · by_cases e : n = u
    · subst e; simp [List.count_append]
    · simp [List.count_append, e, List.count_cons]; intro h2; exact absurd h2.symm e
end Tr

theorem IsTexts.below {w w' : World} {v : Value} {ps : List (List UInt8)} (h : IsTexts w v ps) (hB : Below w.heap.size w w') : IsTexts w' v ps := by
  rcases h with h | ⟨b, o, c, rfl, h1, h2, h3⟩
  · exact .inl h
  · exact .inr ⟨b, o, c, rfl, h1, Nat.lt_of_lt_of_le h2 hB.size, fun j p hp => (hB.cell (p := ⟨b, o + j, none⟩) h2).trans (h3 j p hp)⟩

/-- A list of texts that lies apart from the finder. -/
def Tx3 (w : World) (nv : Value) (ps : List (List UInt8)) (fb bm tm : Nat) (fv : Value) : Prop :=
  IsTexts w nv ps ∧ (ps ≠ [] → ∃ b o n c, nv = .slice (some ⟨b, o, none⟩) n c ∧ b < w.heap.size ∧ b ≠ fb ∧ b ≠ bm ∧ b ≠ tm ∧ some b ≠ fv.ownBlock)
theorem Tx3.kf {w w' : World} {nv : Value} {ps : List (List UInt8)} {fb bm tm : Nat} {fv fv' : Value} (h : Tx3 w nv ps fb bm tm fv) (hk : KF w w' fb bm tm fv fv') : Tx3 w' nv ps fb bm tm fv' := by
  obtain ⟨h1, h2⟩ := h
  by_cases hp : ps = []
  · subst hp
    obtain ⟨a, c, rfl⟩ := h1.form
    exact ⟨.inl ⟨rfl, _, _, rfl⟩, fun h => absurd rfl h⟩
  · obtain ⟨b, o, n, c, rfl, e1, e2, e3, e4, e5⟩ := h2 hp
    refine ⟨h1.kf hk (fun b' o' n' c' h => ?_), fun _ => ⟨b, o, n, c, rfl, Nat.lt_of_lt_of_le e1 hk.size, e2, e3, e4, ?_⟩⟩
    · simp only [Value.slice.injEq, Option.some.injEq, Addr.mk.injEq] at h
      obtain ⟨⟨rfl, _⟩, _⟩ := h
      exact ⟨e2, e3, e4, e5⟩
    · rcases hk.row with e | e
      · rw [e]; exact e5
      · intro e'; have := e b e'.symm; omega
end Go.Proofs.YthihnkgjkmaplaaGreatDoor
namespace Go.Proofs.YthihnkgjkmaplaaGreatDoor
open Go.RowKit Go.Maps
open Go.WideMaps Go.WideElems
set_option maxRecDepth 100000
set_option linter.unusedSimpArgs false

/-- A list that Check takes is a tree. -/
theorem chk_tree {l : List Tr.Nd} (h : (chkN l).1 = 0) : ∃ t, Tr.wf t ∧ l = Tr.flat t ∧ (∀ x ∈ l, Tr.mayB x = true) ∧ l.length ≤ 4096 ∧ Tr.high t ≤ 64 := by
  by_cases hm : l.length = 0 ∨ 4096 < l.length
  · rw [chkN_many hm] at h; simp at h
  rw [chkN_ck hm] at h
  have hr := Tr.ck_ref Tr.mayB (fun x hx => Tr.mayB_kids hx) l [1] 0 0 (by simp)
  rw [hr] at h
  split at h
  · simp at h
  · rename_i hbad
    obtain ⟨hmay, _⟩ := Tr.bad_end hbad
    split at h
    · rename_i hgo
      rw [Tr.go_gs] at hgo
      obtain ⟨t, hw, he⟩ := Tr.whole (l := l) (by simpa [Tr.kd] using hgo)
      refine ⟨t, hw, he, hmay, by omega, ?_⟩
      have hd := Tr.dps_flat t [] 0 [] hw
      rw [List.append_nil, ← he] at hd
      have hdd : Tr.dps (l.map (·.kids)) [1] = Tr.dpT 1 t := by
        have h0 : Tr.dps [] [0] = [] := rfl
        simpa [h0, Tr.kd] using hd
      rw [hdd] at h
      cases hde : Tr.deep (Tr.dpT 1 t) 0 with
      | some j => rw [hde] at h; simp [Tr.fin2] at h
      | none =>
        have key : ∀ (ds : List Nat) (i a : Nat), Tr.deep ds i = none → a ≤ 64 → Tr.mx ds a ≤ 64 := by
          intro ds
          induction ds with
          | nil => intro i a _ ha; exact ha
          | cons d ds ih =>
            intro i a hd ha
            rw [Tr.deep] at hd
            split at hd
            · simp at hd
            · rw [Tr.mx]; exact ih _ _ hd (by omega)
        have := key _ 0 0 hde (by omega)
        rw [Tr.mx_dpT] at this
        omega
    · simp at h

theorem own_mono {w : World} {base base' e size n : Nat} {v : Value} {xs : List Value} (h : w.ownsRow base e size v n xs) (hb : base' ≤ base) : w.ownsRow base' e size v n xs := by
  obtain ⟨h1, h2 | ⟨g, cap, cur, h2, h3, r⟩⟩ := h
  · exact ⟨h1, .inl h2⟩
  · exact ⟨h1, .inr ⟨g, cap, cur, h2, Nat.le_trans hb h3, r⟩⟩
/-- The free names of a list, as the program tells them. -/
def freeN (l : List Tr.Nd) (ns : List (List UInt8)) : Prop := ((chkN l).1 ≠ 0 ∧ ns = []) ∨ ∃ t, (chkN l).1 = 0 ∧ Tr.wf t ∧ l = Tr.flat t ∧ ns = Tr.free t

end Go.Proofs.YthihnkgjkmaplaaGreatDoor
namespace Go.Proofs.YthihnkgjkmaplaaGreatDoor
open Go.RowKit Ck
open T3.Tp (Ty enc cns met)
open Tr (flat wf)
set_option maxRecDepth 100000
set_option linter.unusedSimpArgs false

/-- What Expr answers of a list, names and types: the types' texts, the error and its node; which tree it is and in which environment. -/
inductive Ex (l : List Tr.Nd) (N Th : List (List UInt8)) : List (List UInt8) → Int → Int → Prop
  | arg (h : envB N Th = false) : Ex l N Th [] 1 0
  | tree (h : envB N Th = true) (h1 : (chkN l).1 ≠ 0) : Ex l N Th [] ((chkN l).1 : Int) ((chkN l).2 : Int)
  | bad (h : envB N Th = true) (h1 : (chkN l).1 = 0) (ts : List Ty) (t : Tr.T) (h2 : N.length = ts.length) (h3 : Th = ts.map enc) (h4 : wf t) (h5 : l = flat t) (q : Int × Nat) (h6 : ckT (envOf N ts) t 0 = .error q) (h7 : q.1 ≠ 0) : Ex l N Th [] q.1 (q.2 : Int)
  | good (h : envB N Th = true) (h1 : (chkN l).1 = 0) (ts : List Ty) (t : Tr.T) (h2 : N.length = ts.length) (h3 : Th = ts.map enc) (h4 : wf t) (h5 : l = flat t) (a : List Ty) (h6 : ckT (envOf N ts) t 0 = .ok a) (h7 : ∀ u ∈ a, (enc u).length ≤ 64) (h8 : a.length = l.length) : Ex l N Th (a.map enc) 0 0
/-- How Expr ends. -/
def ExEnd (w : World) (l : List Tr.Nd) (N Th : List (List UInt8)) (e : Ending) (w' : World) : Prop := Below w.heap.size w w' ∧ ∃ a n c r er at', e = .returned (.tuple #[.slice a n c, .int .i64 er, .int .i64 at']) ∧ Ex l N Th r er at' ∧ n = r.length ∧ T3.IsTexts w' (.slice a n c) r ∧ (∀ b o, a = some ⟨b, o, none⟩ → w.heap.size ≤ b) ∧ (a = none ∧ c = 0 ∨ ∃ b, a = some ⟨b, 0, none⟩ ∧ w.heap.size ≤ b ∧ c = n ∧ Rw w' b n)
theorem ExEnd.nil {w w' : World} {l : List Tr.Nd} {N Th : List (List UInt8)} {er at' : Int} (hB : Below w.heap.size w w') (h : Ex l N Th [] er at') : ExEnd w l N Th (.returned (.tuple #[.slice none 0 0, .int .i64 er, .int .i64 at'])) w' :=
  ⟨hB, none, 0, 0, [], er, at', rfl, h, rfl, .inl ⟨rfl, none, 0, rfl⟩, fun b o e => (by cases e), .inl ⟨rfl, rfl⟩⟩

theorem envOk_of {N : List (List UInt8)} {ts : List Ty} (h : ∀ t ∈ ts, (enc t).length ≤ 64) (hl : N.length = ts.length) : EnvOk (envOf N ts) := by
  intro n t hn
  have := look_last N ts hl N.length (Nat.le_refl _) n
  rw [List.take_of_length_le (by simp; omega)] at this
  unfold envOf at hn
  rw [hn] at this
  cases hj : lastAt N N.length n with
  | none => rw [hj] at this; simp at this
  | some j => rw [hj] at this; exact h t (List.mem_of_getElem? this.symm)
theorem tyTx : Tryz.prog.underlying 23 = some (.slice 9) := by kernel_rfl
theorem infTx : (Tryz.prog.info? 9).map (fun i => (i.zero, i.size, i.bytes)) = some (some (.string ⟨#[]⟩), 1, 16) := by kernel_rfl

theorem made_str (n k : Nat) (h : k < n) : (madeCells #[.string ⟨#[]⟩] n)[k]? = some (.string ⟨#[]⟩) := by
  simp [madeCells, h, Nat.mod_one]

set_option maxHeartbeats 4000000 in
theorem expr_any (l : List Tr.Nd) (hf : Fits l) (N Th : List (List UInt8)) (hN : N.length ≤ 1000) (hs : ∀ p ∈ N, p.length ≤ maxLen) (v vn vt : Value) (w : World) (hl : IsNodes w v l) (hn : T3.IsTexts w vn N) (ht : T3.IsTexts w vt Th) (hG : HasG w) (hg : 8 ≤ w.heap.size) :
    Calls Tryz.prog 9 #[v, vn, vt] w (ExEnd w l N Th) := by
  have henv := environment_any N Th hN hs vn vt w hn ht
  obtain ⟨a, c, rfl⟩ := hl.form
  cases hb : envB N Th with
  | false =>
    have henv' := henv.mono (R' := fun e w' => e = .returned (.tuple #[.nilFunc, .bool false]) ∧ Below w.heap.size w w') (fun e w' ⟨hB, h⟩ => by rw [if_neg (by rw [hb]; decide)] at h; exact ⟨h, hB⟩)
    have HX : Aside (Ex l N Th [] 1 0) := .arg hb
    clear henv hb hn ht
    go_enter Tryz.func9, Tryz.ntmps9
    go_wp2_with (go_at_call 23; refine henv'.mono ?_; rintro e w1 ⟨rfl, hB1⟩)
    refine bodyPost_ret (v := .tuple #[.slice none 0 0, .int .i64 1, .int .i64 0]) (by simp [results, Tryz.results9, go_sem]) rfl ?_
    exact ExEnd.nil hB1 HX.out
  | true =>
    have henv' := henv.mono (R' := fun e w' => ∃ sv ts, e = .returned (.tuple #[sv, .bool true]) ∧ N.length = ts.length ∧ Th = ts.map enc ∧ (∀ t ∈ ts, (enc t).length ≤ 64) ∧ (∀ a b, w'.heap.size ≤ a → w'.heap.size ≤ b → Scope a b w' sv (envOf N ts)) ∧ Below w.heap.size w w') (fun e w' ⟨hB, h⟩ => by
      rw [if_pos hb] at h
      obtain ⟨sv, ts, h1, h2, h3, h4, h5⟩ := h
      exact ⟨sv, ts, h1, h2, h3, h4, h5, hB⟩)
    clear henv hn ht
    by_cases h0 : (chkN l).1 = 0
    · obtain ⟨t, hw, he, hmay, hl4, _⟩ := chk_tree h0
      have hl0 : 0 < l.length := by rw [he]; exact Tr.flat_pos t
      have hmk := run_make_row' (P := Tryz.prog) 23 9 (.string ⟨#[]⟩) 16 tyTx infTx rfl .i64 .i64 l.length (by omega) (by omega)
      have hck : ∀ w1, Below w.heap.size w w1 → Calls Tryz.prog 24 #[.slice a l.length c] w1 fun e w' => e = .returned (.tuple #[.int .i64 0, .int .i64 ((chkN l).2 : Int)]) ∧ Below w1.heap.size w1 w' := fun w1 hB => by
        have := treeCheck_any l hf _ w1 (hl.below hB)
        rw [h0] at this
        exact this
      generalize ((chkN l).2 : Int) = q2 at hck
      have HP : Aside (∀ (w1 w2 : World) (sv : Value) (ts : List Ty), Below w.heap.size w w1 → Below w1.heap.size w1 w2 → N.length = ts.length → (∀ t ∈ ts, (enc t).length ≤ 64) → (∀ a b, w1.heap.size ≤ a → w1.heap.size ≤ b → Scope a b w1 sv (envOf N ts)) →
          Calls Tryz.prog 25 #[.pointer (some ⟨w2.heap.size + 1, 0, none⟩), sv] ((w2.alloc (.cells (madeCells #[.string ⟨#[]⟩] l.length) 9)).alloc (.cells #[.slice a l.length c, .slice (some ⟨w2.heap.size, 0, none⟩) l.length l.length, .int .i64 0] 74)) (PEnd (w2.heap.size + 2) ((w2.alloc (.cells (madeCells #[.string ⟨#[]⟩] l.length) 9)).alloc (.cells #[.slice a l.length c, .slice (some ⟨w2.heap.size, 0, none⟩) l.length l.length, .int .i64 0] 74)) (w2.heap.size + 1) w2.heap.size (.slice a l.length c) l 0 (ckT (envOf N ts) t 0))) := by
        intro w1 w2 sv ts hB1 hB2 hts h64 hsc
        have hz1 := hB1.size
        have hz2 := hB2.size
        obtain ⟨X, hX⟩ : ∃ X, X = w2.alloc (.cells (madeCells #[.string ⟨#[]⟩] l.length) 9) := ⟨_, rfl⟩
        have hXn : X.heap[w2.heap.size]? = some (.cells (madeCells #[.string ⟨#[]⟩] l.length) 9) := by rw [hX]; exact heap_alloc_new _ _
        have hXz : X.heap.size = w2.heap.size + 1 := by rw [hX]; simp
        have hBX : Below w2.heap.size w2 X := by rw [hX]; exact (Below.refl _ _).alloc (Nat.le_refl _) _
        rw [← hX]
        clear hX
        obtain ⟨Y, hY⟩ : ∃ Y, Y = X.alloc (.cells #[.slice a l.length c, .slice (some ⟨w2.heap.size, 0, none⟩) l.length l.length, .int .i64 0] 74) := ⟨_, rfl⟩
        have hYn : Y.heap[w2.heap.size + 1]? = some (.cells #[.slice a l.length c, .slice (some ⟨w2.heap.size, 0, none⟩) l.length l.length, .int .i64 0] 74) := by rw [hY, ← hXz]; exact heap_alloc_new _ _
        have hYz : Y.heap.size = w2.heap.size + 2 := by rw [hY]; simp; omega
        have hBY : Below X.heap.size X Y := by rw [hY]; exact (Below.refl _ _).alloc (Nat.le_refl _) _
        rw [← hY]
        clear hY
        have hYt : Y.heap[w2.heap.size]? = some (.cells (madeCells #[.string ⟨#[]⟩] l.length) 9) := (hBY.block _ (by omega)).trans hXn
        have hBw : Below w.heap.size w Y := bt (bt (bt hB1 hB2) hBX) hBY
        refine ckPart_any (w2.heap.size + 2) (w2.heap.size + 1) w2.heap.size (.slice a l.length c) l hmay hf.str hl4 (flat t).length t 0 [] (envOf N ts) Y sv (Nat.le_refl _) hw (by rw [List.drop_zero, List.append_nil]; exact he) (envOk_of h64 hts) ?_ ((hsc _ _ (by omega) (by omega)).next (below_two (bt (bt hB2 hBX) hBY) _ _))
        refine ⟨⟨(block_cells hYn).1 0, hl.below hBw⟩, (block_cells hYn).1 1, (block_cells hYn).1 2, (block_cells hYn).2, (block_cells hYt).2, fun k hk => ⟨⟨#[]⟩, ?_⟩, fun b o n c' e => ?_, by omega, hG.below hBw, by omega, by omega, ⟨_, hYt, by simp [size_madeCells]⟩⟩
        · rw [(block_cells hYt).1 k]
          exact made_str _ k hk
        · have hb2 : b < w.heap.size := by
            rcases hl with ⟨h, _⟩ | ⟨b1, o1, c1, h1, _, h2, _⟩
            · rw [h] at hl0; simp at hl0
            · rw [h1] at e; cases e; exact h2
          omega
      have HX : Aside (∀ ts, N.length = ts.length → Th = ts.map enc → (∀ q, ckT (envOf N ts) t 0 = .error q → q.1 ≠ 0 → Ex l N Th [] q.1 (q.2 : Int)) ∧ (∀ x, ckT (envOf N ts) t 0 = .ok x → (∀ u ∈ x, (enc u).length ≤ 64) → Ex l N Th (x.map enc) 0 0 ∧ x.length = l.length)) := fun ts e1 e2 =>
        ⟨fun q h1 h2 => .bad hb h0 ts t e1 e2 hw he q h1 h2, fun x h1 h2 => by
          have h8 : x.length = l.length := by rw [Ck.len_T t _ 0 x h1, he]
          exact ⟨.good hb h0 ts t e1 e2 hw he x h1 h2 h8, h8⟩⟩
      clear hb h0 he hw hmay hG hl
      go_enter Tryz.func9, Tryz.ntmps9
      go_wp2_with fail
      go_at_call 23
      refine henv'.mono ?_
      rintro e w1 ⟨sv, ts, rfl, e1, e2, e3, hsc, hB1⟩
      go_wp2_with fail
      go_at_call 24
      refine (hck w1 hB1).mono ?_
      rintro e w2 ⟨rfl, hB2⟩
      have HPP := HP.out w1 w2 sv ts hB1 hB2 e1 e3 hsc
      have HXX := HX.out ts e1 e2
      clear HP HX hck henv' hsc
      go_wp2_with fail
      refine HPP.mono ?_
      rintro e w3 ⟨hT3, hpe⟩
      have hz1 := hB1.size
      have hz2 := hB2.size
      have hz3 := hT3.size
      simp only [World.size_alloc] at hz3
      have HB3 : Aside (Below w.heap.size w w3) := (balloc (balloc (bt hB1 hB2) _) _).trans ⟨hT3.os, hT3.tape, hT3.output, hT3.size, fun k hk => hT3.block k (by simp; omega) (by omega) (by omega)⟩
      clear HPP hB1 hB2 hT3 hmk
      cases hr : ckT (envOf N ts) t 0 with
      | error q =>
        rw [hr] at hpe
        obtain ⟨hq0, rfl⟩ := hpe
        obtain ⟨q1, q2'⟩ := q
        have HE : Aside (Ex l N Th [] q1 (q2' : Int)) := HXX.1 _ hr hq0
        have hq1 : (q1 != 0) = true := by simpa using hq0
        clear hr hq0 HXX e2
        unfold rf
        go_wp2_with fail
        go_quiet (fail)
        go_wp2_with fail
        refine bodyPost_ret (v := .tuple #[.slice none 0 0, .int .i64 q1, .int .i64 (q2' : Int)]) (by simp [results, Tryz.results9, go_sem]) rfl ?_
        exact ExEnd.nil (below_drewN (balloc HB3.out _) _) HE.out
      | ok x =>
        rw [hr] at hpe
        obtain ⟨⟨p, rfl⟩, hst, hcell, -⟩ := hpe
        obtain ⟨HE1, HE2⟩ := HXX.2 x hr (fun u hu => by obtain ⟨k, hk⟩ := List.getElem?_of_mem hu; exact (hcell k u hk).2)
        have HE : Aside (Ex l N Th (x.map enc) 0 0 ∧ x.length = l.length) := ⟨HE1, HE2⟩
        have HC : Aside (∀ k u, x[k]? = some u → w3.cell? ⟨w2.heap.size, k, none⟩ = some (.string (S (enc u)))) := fun k u hk => by have := (hcell k u hk).1; rwa [Nat.zero_add] at this
        have HRw : Aside (Rw w3 w2.heap.size l.length) := hst.rwo
        have ct1 : w3.cell? ⟨w2.heap.size + 1, 1, none⟩ = some (.slice (some ⟨w2.heap.size, 0, none⟩) l.length l.length) := hst.typ
        have hlt1 : w2.heap.size + 1 < w3.heap.size := by omega
        have hlt0 : w2.heap.size < w3.heap.size := by omega
        clear hr hcell hst HXX e2 HE1 HE2
        unfold rf
        go_wp2_with fail
        refine bodyPost_ret (v := .tuple #[.slice (some ⟨w2.heap.size, 0, none⟩) l.length l.length, .int .i64 0, .int .i64 0]) (by simp [results, Tryz.results9, go_sem]) rfl ?_
        obtain ⟨HE1, HE2⟩ := HE.out
        refine ⟨balloc HB3.out _, _, _, _, x.map enc, 0, 0, rfl, HE1, by simp [HE2], .inr ⟨w2.heap.size, 0, l.length, by simp [HE2], by simp [HE2], by simp; omega, fun j p hp => ?_⟩, fun b o e => (by cases e; omega), .inr ⟨w2.heap.size, rfl, by omega, rfl, HRw.out.same (Below.heap_alloc _ _ _ (by omega))⟩⟩
        rw [List.getElem?_map] at hp
        cases hu : x[j]? with
        | none => rw [hu] at hp; simp at hp
        | some u =>
          rw [hu] at hp
          simp at hp
          subst hp
          rw [Nat.zero_add, World.cell?_alloc_lt _ _ _ hlt0]
          exact HC.out j u hu
    · have h0' : (((chkN l).1 : Int) != 0) = true := by simpa using h0
      have hck : ∀ w1, Below w.heap.size w w1 → Calls Tryz.prog 24 #[.slice a l.length c] w1 fun e w' => e = .returned (.tuple #[.int .i64 ((chkN l).1 : Int), .int .i64 ((chkN l).2 : Int)]) ∧ Below w1.heap.size w1 w' := fun w1 hB => treeCheck_any l hf _ w1 (hl.below hB)
      have HX : Aside (Ex l N Th [] ((chkN l).1 : Int) ((chkN l).2 : Int)) := .tree hb h0
      generalize ((chkN l).1 : Int) = q1 at *
      generalize ((chkN l).2 : Int) = q2 at *
      clear hb h0 hl
      go_enter Tryz.func9, Tryz.ntmps9
      go_wp2_with fail
      go_at_call 23
      refine henv'.mono ?_
      rintro e w1 ⟨sv, ts, rfl, e1, e2, e3, hsc, hB1⟩
      clear e1 e2 e3 hsc
      go_wp2_with fail
      go_at_call 24
      refine (hck w1 hB1).mono ?_
      rintro e w2 ⟨rfl, hB2⟩
      go_wp2_with fail
      refine bodyPost_ret (v := .tuple #[.slice none 0 0, .int .i64 q1, .int .i64 q2]) (by simp [results, Tryz.results9, go_sem]) rfl ?_
      exact ExEnd.nil (bt hB1 hB2) HX.out
end Go.Proofs.YthihnkgjkmaplaaGreatDoor
