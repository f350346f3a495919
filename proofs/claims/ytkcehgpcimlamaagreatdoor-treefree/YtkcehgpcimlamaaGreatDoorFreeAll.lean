/- For every list of nodes, TreeFree returns true: the program's Free answers as the document's does, its answers are new memory, and the list stays. Conditions: the listed variables of the library start as the program's text lays them. -/
import Derived.Test.YtkcehgpcimlamaaGreatDoorWhA
import Derived.Test.YtkcehgpcimlamaaGreatDoorWhE
import Derived.Test.YtkcehgpcimlamaaGreatDoorRefD
import Derived.Maps.AppendAt
import Derived.Deep.CutRange
import Derived.Deep.DeepCutAuto
import Derived.Test.YtkcehgpcimlamaaGreatDoorTbReady
import Derived.Test.YtkcehgpcimlamaaGreatDoorTbApa
import Derived.Test.YtkcehgpcimlamaaGreatDoorNRow
import Derived.Test.YtkcehgpcimlamaaGreatDoorTie
import Derived.Test.YtkcehgpcimlamaaGreatDoorCards
import Derived.SevenTiedAt
import Derived.SizedLaws
import Derived.Lib.LaidTab
import Derived.ProofKit
import Derived.OpenShut
import Derived.LaidMore
import Derived.Lay
import Derived.Stop.Joined
import Derived.Stop.LaidErr
namespace Go.Proofs.YtkcehgpcimlamaaGreatDoor
open Go.RowKit
set_option maxRecDepth 100000
set_option linter.unusedSimpArgs false

theorem flats_ge2 : ∀ ks : List Tr.T, ks.length ≤ (Tr.flats ks).length
  | [] => by simp
  | t :: r => by have := flats_ge2 r; have := Tr.flat_pos t; rw [Tr.flats]; simp; omega
/-- The ends of all parts, one after the other. -/
def endsN (l : List Tr.Nd) : List Nat := (List.range l.length).map fun (i : Nat) => bhI l (i : Int)
theorem endsN_len (l : List Tr.Nd) : (endsN l).length = l.length := by simp [endsN]
theorem endsN_at {l : List Tr.Nd} {i : Nat} (h : i < l.length) : (endsN l)[i]? = some (bhI l (i : Int)) := by simp [endsN, h]
theorem bhI_bh (l : List Tr.Nd) (i : Nat) : bhI l (i : Int) = Tr.bh l i := by unfold bhI; rw [if_neg (by omega), Int.toNat_natCast]
/-- The node at i, above the place p, binds a name in one of its kids from number k on. -/
def hitK (l : List Tr.Nd) (p : Nat) (n : List UInt8) (i : Nat) (x : Tr.Nd) (k : Nat) : Prop := Tr.kidAt l i k ≤ p ∧ p < bhI l (Tr.kidAt l i k : Int) ∧ n ∈ Tr.binds x k
def hit (l : List Tr.Nd) (p : Nat) (n : List UInt8) (i : Nat) : Prop := p < bhI l (i : Int) ∧ ∃ x, l[i]? = some x ∧ ∃ k, k < x.kids.toNat ∧ hitK l p n i x k
theorem inn_hit (l : List Tr.Nd) (p : Nat) (n : List UInt8) : Tr.inn l 0 p n ↔ ∃ i, i < p ∧ hit l p n i := by
  unfold Tr.inn hit hitK
  constructor
  · rintro ⟨i, _, h1, h2, x, h3, k, h4, h5, h6, h7⟩
    exact ⟨i, h1, by rw [bhI_bh]; exact h2, x, h3, k, h4, h5, by rw [bhI_bh]; exact h6, h7⟩
  · rintro ⟨i, h1, h2, x, h3, k, h4, h5, h6, h7⟩
    exact ⟨i, Nat.zero_le _, h1, by rw [← bhI_bh]; exact h2, x, h3, k, h4, h5, by rw [← bhI_bh]; exact h6, h7⟩

theorem beq_S2 (p q : List UInt8) : ((S p).toList == (S q).toList) = decide (p = q) := by
  rw [beq_bytes, S_list, S_list, Bool.eq_iff_iff]; simp

/-- How bound ends. -/
def BoundEnd (l : List Tr.Nd) (p : Nat) (n : List UInt8) (w : World) (e : Ending) (w' : World) : Prop := ∃ r : Bool, e = .returned (.bool r) ∧ (r = true ↔ Tr.inn l 0 p n) ∧ Below w.heap.size w w'
theorem BoundEnd.mk {l : List Tr.Nd} {p : Nat} {n : List UInt8} {w w' : World} {e : Ending} (r : Bool) (h1 : e = .returned (.bool r)) (h2 : r = true ↔ Tr.inn l 0 p n) (h3 : Below w.heap.size w w') : BoundEnd l p n w e w' := ⟨r, h1, h2, h3⟩
set_option maxHeartbeats 3000000 in
theorem bound_any (l : List Tr.Nd) (hf : Fits l) (hlen : l.length ≤ 5000) (hc : (chkN l).1 = 0) (p : Nat) (hp : p < l.length) (y : Tr.Nd) (hy : l[p]? = some y) (v ve : Value) (w : World) (hl : IsNodes w v l) (base : Nat) (he : w.ownsRow base 3 1 ve l.length (icells (endsN l))) :
    Calls Tryz.prog 23 #[v, ve, .int .i64 (p : Int)] w (BoundEnd l p (Tr.nm y) w) := by
  obtain ⟨a, c, rfl⟩ := hl.form
  obtain ⟨b1, o1, rfl, hlc, hbl, _⟩ := hl.at hy
  obtain ⟨eb, ec, rfl, hecap, _, hecell⟩ := own_cells he (by omega)
  have hebl := (he.lt eb rfl).2
  have HcE : Aside (∀ W : World, Below w.heap.size w W → ∀ i, i < l.length → W.cell? ⟨eb, i, none⟩ = some (.int .i64 (bhI l (i : Int) : Int))) := fun W hB i hi => by
    rw [hB.cell (p := ⟨eb, i, none⟩) hebl, hecell i (by omega)]
    simp [icells, endsN_at hi]
  have HcN : Aside (∀ W : World, Below w.heap.size w W → ∀ i x, l[i]? = some x → ∀ q u, (Tr.ncells x)[q]? = some u → W.cell? ⟨b1, o1 + i * 8 + q, none⟩ = some u) := fun W hB i x hx => by
    obtain ⟨b, o, e, _, _, h⟩ := (hl.below hB).at hx
    cases e; exact h
  have HI : Aside (∀ r : Bool, (r = true ↔ ∃ i, i < p ∧ hit l p (Tr.nm y) i) → (r = true ↔ Tr.inn l 0 p (Tr.nm y))) := fun r h => h.trans (inn_hit l p (Tr.nm y)).symm
  have HNY : Aside (y.s = S (Tr.nm y)) := rfl
  generalize Tr.nm y = n at *
  have HP : Aside (l[p]? = some y) := hy
  have HC : Aside ((chkN l).1 = 0) := hc
  clear hecell he hy hc
  go_enter Tryz.func23, Tryz.ntmps23
  go_wp2_with fail
  go_loopg [7] p (fun g t wr => ∃ i : Nat, i + g = p ∧ t = .int .i64 (i : Int) ∧ Below w.heap.size w wr ∧ Aside (∀ i', i' < i → ¬ hit l p n i'))
  case atStart => exact ⟨0, by omega, rfl, Below.refl _ _, fun i' h => by omega⟩
  case round =>
    obtain ⟨i, hig, rfl, hB, HN⟩ := hrel
    by_cases hi : i < p
    · have hi' : (i : Int) < (p : Int) := by omega
      have hi0 : (0 : Int) ≤ (i : Int) := by omega
      have hil : i < l.length := by omega
      have hil' : (i : Int) < (l.length : Int) := by omega
      have d0 := HcE.out _ hB i hil
      by_cases hcov : bhI l (i : Int) ≤ p
      · have hcov' : (bhI l (i : Int) : Int) ≤ (p : Int) := by omega
        have HN2 : Aside (∀ i', i' < i + 1 → ¬ hit l p n i') := fun i' h => by
          by_cases e : i' = i
          · subst e; exact fun hh => by have := hh.1; omega
          · exact HN.out i' (by omega)
        clear HN
        go_wp2_with fail
        go_roundg (p - (i + 1))
        case measure => omega
        case rel => exact ⟨i + 1, by omega, by go_num, hB, HN2⟩
      · have hcov' : decide ((bhI l (i : Int) : Int) ≤ (p : Int)) = false := by simp; omega
        have hcov2 : (bhI l (i : Int) ≤ p) = False := by simp; omega
        obtain ⟨x, ks, e, PA⟩ := part_at HC.out hil
        have C1 : Aside (∀ W : World, Below w.heap.size w W → W.cell? ⟨b1, o1 + i * 8 + 1, none⟩ = some (.int .i64 (ks.length : Int))) := fun W hW => by rw [← PA.kids]; exact HcN.out _ hW i x PA.at' 1 _ rfl
        have HF : Aside (Tr.kidAt l i 0 = i + 1) := PA.first
        have hks5 : ks.length ≤ 5000 := by
          have h1 := PA.sum
          have h2 := flats_ge2 ks
          omega
        have HCV : Aside (p < bhI l (i : Int)) := by show _ < _; omega
        go_wp2_with fail
        clear hcov hcov' hcov2 d0
        go_loopg [8, 9] ks.length (fun g s8 s9 wr => ∃ k : Nat, k + g = ks.length ∧ s8 = .int .i64 (Tr.kidAt l i k : Int) ∧ s9 = .int .i64 (k : Int) ∧ Below w.heap.size w wr ∧ Aside (∀ k', k' < k → ¬ hitK l p n i x k'))
        case atStart => exact ⟨0, by omega, by rw [HF.out]; go_num, rfl, hB, fun k' h => by omega⟩
        case round =>
          clear hB
          obtain ⟨k, hkg, rfl, rfl, hB, HK⟩ := hrel
          have d1 := C1.out _ hB
          by_cases hk : k < ks.length
          · have hk' : (k : Int) < (ks.length : Int) := by omega
            obtain ⟨hkl, ST3⟩ : Tr.kidAt l i k < l.length ∧ Aside (bhI l (Tr.kidAt l i k : Int) = Tr.kidAt l i (k + 1)) := by
              obtain ⟨st1, st2, st3, _⟩ := PA.step k hk
              have hel := PA.le
              exact ⟨by omega, st3⟩
            have d2 := HcE.out _ hB _ hkl
            rw [ST3.out] at d2
            have hkl' : (Tr.kidAt l i k : Int) < (l.length : Int) := by omega
            have hk0 : (0 : Int) ≤ (Tr.kidAt l i k : Int) := by omega
            by_cases hin : Tr.kidAt l i k ≤ p ∧ p < Tr.kidAt l i (k + 1)
            · have h1' : (Tr.kidAt l i k : Int) ≤ (p : Int) := by omega
              have h2' : (p : Int) < (Tr.kidAt l i (k + 1) : Int) := by omega
              have hbn := refBinds_any x (hf.str x (List.mem_of_getElem? PA.at')) PA.may k
              obtain ⟨p0, p1, p2, p3, p4, p5, p6, p7⟩ := agg_cells (o := o1 + i * 8) (HcN.out _ hB i x PA.at')
              simp only [val_node, PA.kids] at hbn
              clear p1
              have HY : Aside (n ∈ Tr.binds x k → hit l p n i) := fun h => ⟨HCV.out, x, PA.at', k, by rw [PA.kids]; simpa using hk, hin.1, by rw [ST3.out]; exact hin.2, h⟩
              have HZ : Aside (n ∉ Tr.binds x k → ∀ k', k' < k + 1 → ¬ hitK l p n i x k') := fun h k' hk' => by
                by_cases e : k' = k
                · subst e; exact fun hh => h hh.2.2
                · exact HK.out k' (by omega)
              have hbl5 : (Tr.binds x k).length ≤ 2 := by
                unfold Tr.binds
                split
                · simp
                · split
                  · simp
                  · split <;> simp
              clear HK
              generalize hpk : Tr.kidAt l i k = pk at *
              generalize hpn : Tr.kidAt l i (k + 1) = pn at *
              have HQ : Aside (Tr.kidAt l i (k + 1) = pn) := hpn
              clear hpk hpn
              go_upto_region 11 with (go_at_call 55; refine (hbn _).mono ?_; rintro e' w2 ⟨ba, bc, rfl, hbt, _, hB2⟩)
              have hA2 := hB.trans (hB2.mono hB.size)
              have d3 := HcE.out _ hA2 _ hkl
              rw [ST3.out] at d3
              have q3 : w2.cell? ⟨b1, o1 + p * 8 + 3, none⟩ = some (.string (S n)) := by rw [← HNY.out]; exact HcN.out _ hA2 p y HP.out 3 _ rfl
              have hp0 : (0 : Int) ≤ (p : Int) := by omega
              have hpl : (p : Int) < (l.length : Int) := by omega
              clear hbn p0 p2 p3 p4 p5 p6 p7 d1 d2 hB hB2
              generalize Tr.binds x k = bs at *
              go_wp2_with fail
              go_loopg [11] bs.length (fun g t w3 => ∃ j m : Nat, j + g = bs.length ∧ t = .int .i64 (j : Int) ∧ w3 = w2.drewN m ∧ Aside (n ∉ bs.take j))
              case atStart => exact ⟨0, 0, by omega, rfl, rfl, by show _ ∉ _; simp⟩
              case round =>
                obtain ⟨j, m, hjg, rfl, rfl, HJ⟩ := hrel
                by_cases hj : j < bs.length
                · have hj' : (j : Int) < (bs.length : Int) := by omega
                  have hj0 : (0 : Int) ≤ (j : Int) := by omega
                  obtain ⟨z, hz⟩ := getT hj
                  obtain ⟨b2, o2, rfl, hbc, _, r0⟩ := hbt.at hz
                  have hs := beq_S2 z n
                  by_cases hzn : z = n
                  · have hs2 : ((S z).toList == (S n).toList) = true := by rw [hs]; simpa using hzn
                    have HR := HY.out (by subst hzn; exact List.mem_of_getElem? hz)
                    clear hs hz hbt
                    go_wp2_with fail
                    go_quiet (fail)
                    go_wp2_with fail
                    go_ret
                    exact BoundEnd.mk true rfl (HI.out true ⟨fun _ => ⟨i, hi, HR⟩, fun _ => rfl⟩) (below_drewN (below_drewN hA2 _) _)
                  · have hs2 : ((S z).toList == (S n).toList) = false := by rw [hs]; simpa using hzn
                    have HJ2 : Aside (n ∉ bs.take (j + 1)) := by
                      show _ ∉ _
                      rw [List.take_add_one, hz]
                      simp only [Option.toList, List.mem_append, List.mem_singleton]
                      rintro (h | h)
                      · exact HJ.out h
                      · exact hzn h.symm
                    clear hs hz
                    go_wp2_with fail
                    go_quiet (fail)
                    go_wp2_with fail
                    go_roundg (bs.length - (j + 1))
                    case measure => omega
                    case rel => exact ⟨j + 1, _, by omega, by go_num, by first | rfl | exact World.drewN_drewN, HJ2⟩
                · have hj' : ¬ (j : Int) < (bs.length : Int) := by omega
                  have HZ2 := HZ.out (by have := HJ.out; rwa [List.take_of_length_le (by omega)] at this)
                  have HZ3 : Aside (∀ k', k' < k + 1 → ¬ hitK l p n i x k') := HZ2
                  clear HZ2 HZ HY
                  go_wp2_with fail
                  go_roundg (ks.length - (k + 1))
                  case measure => omega
                  case rel => exact ⟨k + 1, by omega, by rw [HQ.out], by go_num, below_drewN hA2 _, HZ3⟩
            · have HZ3 : Aside (∀ k', k' < k + 1 → ¬ hitK l p n i x k') := fun k' hk' => by
                by_cases e : k' = k
                · subst e; exact fun hh => hin ⟨hh.1, by rw [← ST3.out]; exact hh.2.1⟩
                · exact HK.out k' (by omega)
              clear HK
              by_cases h1 : Tr.kidAt l i k ≤ p
              · have h1' : (Tr.kidAt l i k : Int) ≤ (p : Int) := by omega
                have h2' : decide ((p : Int) < (Tr.kidAt l i (k + 1) : Int)) = false := by simp; omega
                go_wp2_with fail
                go_roundg (ks.length - (k + 1))
                case measure => omega
                case rel => exact ⟨k + 1, by omega, rfl, by go_num, hB, HZ3⟩
              · have h1' : decide ((Tr.kidAt l i k : Int) ≤ (p : Int)) = false := by simp; omega
                go_wp2_with fail
                go_roundg (ks.length - (k + 1))
                case measure => omega
                case rel => exact ⟨k + 1, by omega, rfl, by go_num, hB, HZ3⟩
          · have hk' : ¬ (k : Int) < (ks.length : Int) := by omega
            have HN2 : Aside (∀ i', i' < i + 1 → ¬ hit l p n i') := fun i' h => by
              by_cases e : i' = i
              · subst e
                rintro ⟨_, x', hx', k', hk', hh⟩
                rw [PA.at'] at hx'
                cases hx'
                rw [PA.kids] at hk'
                exact HK.out k' (by simp at hk'; omega) hh
              · exact HN.out i' (by omega)
            clear HN HK
            go_wp2_with fail
            go_roundg (p - (i + 1))
            case measure => omega
            case rel => exact ⟨i + 1, by omega, by go_num, hB, HN2⟩
    · have hi' : ¬ (i : Int) < (p : Int) := by omega
      go_wp2_with fail
      go_ret
      refine BoundEnd.mk false rfl (HI.out false ⟨fun h => (by cases h), ?_⟩) hB
      rintro ⟨i', h1, h2⟩
      exact absurd h2 (HN.out i' (by omega))
end Go.Proofs.YtkcehgpcimlamaaGreatDoor
namespace Go.Proofs.YtkcehgpcimlamaaGreatDoor
open Go.RowKit
set_option maxRecDepth 100000
set_option linter.unusedSimpArgs false

theorem adds_take {L : List (Option (List UInt8))} {i : Nat} {o : Option (List UInt8)} (h : L[i]? = some o) : Tr.adds [] (L.take (i + 1)) = Tr.add1 (Tr.adds [] (L.take i)) o := by
  rw [List.take_add_one, h, Tr.adds_append]; rfl
theorem dec_takeF {x : List UInt8} {l : List (List UInt8)} {k : Nat} {y : List UInt8} (h : l[k]? = some y) : decide (x ∈ l.take (k + 1)) = (decide (x ∈ l.take k) || decide (y = x)) := by
  rw [Bool.eq_iff_iff, decide_eq_true_eq, Bool.or_eq_true, decide_eq_true_eq, decide_eq_true_eq, List.take_add_one, h]
  simp only [Option.toList, List.mem_append, List.mem_singleton]
  exact or_congr Iff.rfl eq_comm

set_option maxHeartbeats 8000000 in
theorem refFree_any (l : List Tr.Nd) (hf : Fits l) (v : Value) (w : World) (hl : IsNodes w v l) :
    Calls Tryz.prog 8 #[v] w fun e w' => ∃ r ns, e = .returned r ∧ freeN l ns ∧ w'.ownsRow w.heap.size 9 1 r ns.length (tcells ns) ∧ Below w.heap.size w w' := by
  obtain ⟨a, c, rfl⟩ := hl.form
  have hck := refCheck_any l hf _ w hl
  by_cases h0 : (chkN l).1 = 0
  · obtain ⟨t, hw, he, _, hlen, _⟩ := chk_tree h0
    have HC : Aside ((chkN l).1 = 0) := h0
    have HR : Aside (∀ ns, ns = Tr.free t → freeN l ns) := fun ns h => .inr ⟨t, h0, hw, he, h⟩
    have HO : Aside (∀ i, i < l.length → ∃ y o, l[i]? = some y ∧ (Tr.obT [] t)[i]? = some o ∧ Tr.Tells o y (y.kind = 4 ∧ Tr.nm y ∉ ([] : List (List UInt8)) ∧ ¬ Tr.inn l 0 i (Tr.nm y))) := fun i hi => by
      have := Tr.ob_T t l [] 0 [] i hw (by rw [List.drop_zero, List.append_nil]; exact he) (by rw [← he]; exact hi)
      simpa using this
    have HOL : Aside ((Tr.obT [] t).length = l.length) := by show _ = _; rw [Tr.ob_len, ← he]
    obtain ⟨i3, hi3, h30, h31, h32⟩ := info_parts info3
    obtain ⟨i9, hi9, h90, h91, h92⟩ := info_parts info9
    rw [h0] at hck
    clear h0 he hw
    go_enter Tryz.func8, Tryz.ntmps8
    go_upto_region 4 with (go_at_call 21; refine hck.mono ?_; rintro e w1 ⟨rfl, hB1⟩)
    clear hck
    generalize (chkN l).2 = r2
    go_wp2_with fail
    go_loopg [6, 7] l.length (fun g v6 s7 wr => ∃ i : Nat, i + g = l.length ∧ s7 = .int .i64 (i : Int) ∧ wr.ownsRow w.heap.size 3 1 v6 i (icells ((List.range i).map fun (j : Nat) => bhI l (j : Int))) ∧ Below w.heap.size w wr)
    case atStart => exact ⟨0, by omega, rfl, own_nil _ _ _ _, hB1⟩
    case round =>
      obtain ⟨i, hig, rfl, hown, hB⟩ := hrel
      obtain ⟨va, vc, rfl⟩ := own_len hown
      have hws := hB.size
      by_cases hi : i < l.length
      · have hi' : (i : Int) < (l.length : Int) := by omega
        have hb := refBehind_any l (by omega) _ (i : Int) wr (hl.below hB)
        have HAP : Aside (icells ((List.range (i + 1)).map fun (j : Nat) => bhI l (j : Int)) = icells ((List.range i).map fun (j : Nat) => bhI l (j : Int)) ++ [.int .i64 (bhI l (i : Int) : Int)]) := by
          show _ = _
          rw [List.range_succ, List.map_append, icells_append]; rfl
        generalize (bhI l (i : Int) : Int) = bz at *
        go_wp2_with (first | (go_at_call 22; refine hb.mono ?_; rintro e w' ⟨rfl, hw'⟩; replace hw' := hw'.symm; subst hw') | (at_builtin; go_must (refine wpList_append_own _ rfl _ _ 62 rfl w.heap.size 3 i3 (.int .i64 0) 1 8 tyInts hi3 h30 h31 h32 rfl (by decide) (.slice va i vc) _ _ rfl (hown.alloc _) ⟨wr.heap.size, 0, none⟩ 1 1 [.int .i64 bz] rfl rfl (cells_list_new _ [.int .i64 bz] 3) (fun u hu => by simp at hu; subst hu; rfl) (by unfold maxLen; omega) (by omega) (by simp; omega) ?_); intro v3 w3 hown3 hg3 _; have hB3 : Below w.heap.size w w3 := hB.grown (grownBy_alloc_pre hg3) hws (fun y e => (hown.lt y e).1)))
        go_roundg (l.length - (i + 1))
        case measure => omega
        case rel => exact ⟨i + 1, by omega, by go_num, by rw [HAP.out]; exact hown3, hB3⟩
      · have hi' : ¬ (i : Int) < (l.length : Int) := by omega
        obtain rfl : i = l.length := by omega
        have hends : wr.ownsRow w.heap.size 3 1 (.slice va l.length vc) l.length (icells (endsN l)) := hown
        clear hown hi
        go_wp2_with fail
        go_loopg [5, 8] l.length (fun g v5 s8 w4 => ∃ (i : Nat) (acc : List (List UInt8)), i + g = l.length ∧ s8 = .int .i64 (i : Int) ∧ w4.ownsRow w.heap.size 9 1 v5 acc.length (tcells acc) ∧ acc.length ≤ i ∧ w4.ownsRow w.heap.size 3 1 (.slice va l.length vc) l.length (icells (endsN l)) ∧ Sep v5 (.slice va l.length vc) ∧ Below w.heap.size w w4 ∧ Aside (acc = Tr.adds [] ((Tr.obT [] t).take i)))
        case atStart => exact ⟨0, [], by omega, rfl, own_nil _ _ _ _, by simp, hends, .inl rfl, hB, rfl⟩
        case round =>
          clear hends hB hws hig
          obtain ⟨i, acc, hig, rfl, hacc, hal, hends, hsep, hB, HA⟩ := hrel
          obtain ⟨fa, fc, rfl⟩ := own_len hacc
          by_cases hi : i < l.length
          · have hi' : (i : Int) < (l.length : Int) := by omega
            have hi0 : (0 : Int) ≤ (i : Int) := by omega
            obtain ⟨y, o, hy, hob, hT⟩ := HO.out i hi
            have HS : Aside (Tr.adds [] ((Tr.obT [] t).take (i + 1)) = Tr.add1 acc o) := by show _ = _; rw [adds_take hob, ← HA.out]
            obtain ⟨b1, o1, rfl, hlc, hbl, hcy⟩ := (hl.below hB).at hy
            have c0 : wr.cell? ⟨b1, o1 + i * 8, none⟩ = some (.int .i8 y.kind) := hcy 0 _ rfl
            by_cases hk4 : y.kind = 4
            · have hk4' : (y.kind != 4) = false := by rw [hk4]; rfl
              have hbd := bound_any l hf (by omega) HC.out i hi y hy _ _ wr (hl.below hB) w.heap.size hends
              rw [hk4] at c0
              go_upto_region 13 with fail
              go_cut [47] (fun s47 w2 => ∃ r : Bool, s47 = .bool r ∧ Aside (r = true ↔ Tr.inn l 0 i (Tr.nm y)) ∧ Below wr.heap.size wr w2)
              case first =>
                go_wp2_with (go_at_call 23; refine hbd.mono ?_; rintro e w2 ⟨r, rfl, hr, hB2⟩)
                go_meet
                case rel => exact ⟨r, rfl, hr, hB2⟩
              case rest =>
                obtain ⟨r, rfl, HRI, hB2⟩ := hcut
                have hA2 := hB.trans (hB2.mono hB.size)
                have hacc2 := own_below hacc hB2
                have hends2 := own_below hends hB2
                have q3 : wc.cell? ⟨b1, o1 + i * 8 + 3, none⟩ = some (.string (S (Tr.nm y))) := by
                  obtain ⟨b3, o3, e3, _, _, h3⟩ := (hl.below hA2).at hy
                  cases e3; exact h3 3 _ rfl
                clear hbd hends hacc c0 hcy hk4' hB hB2
                cases r
                · have HS2 : Aside (Tr.adds [] ((Tr.obT [] t).take (i + 1)) = if Tr.nm y ∈ acc then acc else acc ++ [Tr.nm y]) := by
                    show _ = _
                    rw [HS.out]
                    rcases hT with ⟨_, h⟩ | ⟨h, _⟩
                    · rw [h]; rfl
                    · exact absurd ⟨hk4, by simp, fun hh => by have := HRI.out.2 hh; cases this⟩ h
                  generalize Tr.nm y = x at *
                  clear HS hT hob HA hk4 HRI
                  have hal5 : acc.length ≤ 4096 := by omega
                  go_wp2_with fail
                  go_loopg [9, 10] acc.length (fun g f t w3 => ∃ k n : Nat, k + g = acc.length ∧ t = .int .i64 (k : Int) ∧ w3 = wc.drewN n ∧ ∃ q : Bool, f = .bool q ∧ Aside (q = decide (x ∈ acc.take k)))
                  case atStart => exact ⟨0, 0, by omega, rfl, rfl, false, rfl, by show _ = _; simp⟩
                  case round =>
                    obtain ⟨k, n, hkg, rfl, rfl, q, rfl, HQ⟩ := hrel
                    by_cases hk : k < acc.length
                    · have hk' : (k : Int) < (acc.length : Int) := by omega
                      have hk0 : (0 : Int) ≤ (k : Int) := by omega
                      obtain ⟨z, hz⟩ := getT hk
                      have HM : Aside (decide (x ∈ acc.take (k + 1)) = (decide (x ∈ acc.take k) || decide (z = x))) := dec_takeF hz
                      obtain ⟨gb, gc, hv, hgc, hgb, hcell⟩ := own_cells hacc2 (by omega)
                      cases hv
                      have d0 : wc.cell? ⟨gb, k, none⟩ = some (.string (S z)) := by
                        rw [hcell k (by omega)]; simp [tcells, hz]
                      clear hcell hz
                      cases q
                      · have hs := beq_S2 z x
                        generalize hr : decide (z = x) = r at hs HM
                        go_wp2_with fail
                        go_quiet (fail)
                        go_wp2_with fail
                        go_roundg (acc.length - (k + 1))
                        case measure => omega
                        case rel => exact ⟨k + 1, _, by omega, by go_num, by first | rfl | exact World.drewN_drewN, r, by first | rfl | (rw [hs]) | simp [hs], by show _ = _; rw [HM.out, ← HQ.out]; rfl⟩
                      · go_wp2_with fail
                        go_quiet (fail)
                        go_wp2_with fail
                        go_roundg (acc.length - (k + 1))
                        case measure => omega
                        case rel => exact ⟨k + 1, _, by omega, by go_num, by first | rfl | exact World.drewN_drewN, true, rfl, by show _ = _; rw [HM.out, ← HQ.out]; rfl⟩
                    · have hk' : ¬ (k : Int) < (acc.length : Int) := by omega
                      have HQ2 : Aside (q = decide (x ∈ acc)) := by show _ = _; rw [HQ.out, List.take_of_length_le (by omega)]
                      clear HQ
                      have hacc3 : (wc.drewN n).ownsRow w.heap.size 9 1 (.slice fa acc.length fc) acc.length (tcells acc) := hacc2
                      have hends3 : (wc.drewN n).ownsRow w.heap.size 3 1 (.slice va l.length vc) l.length (icells (endsN l)) := hends2
                      have hA3 : Below w.heap.size w (wc.drewN n) := below_drewN hA2 n
                      have q4 : (wc.drewN n).cell? ⟨b1, o1 + i * 8 + 3, none⟩ = some (.string (S x)) := q3
                      cases q
                      · have HW : Aside (acc ++ [x] = Tr.adds [] ((Tr.obT [] t).take (i + 1))) := by
                          show _ = _; rw [HS2.out, if_neg]; exact of_decide_eq_false HQ2.out.symm
                        clear HQ2 HS2 hacc2 hends2 hA2 q3
                        generalize wc.drewN n = w5 at *
                        have hws := hA3.size
                        go_wp2_with (at_builtin; go_must (refine wpList_append_own_at _ rfl _ _ 25 rfl w.heap.size 9 i9 (.string ⟨#[]⟩) 1 16 tyTexts hi9 h90 h91 h92 rfl (by decide) (.slice fa acc.length fc) _ _ rfl (hacc3.alloc _) ⟨w5.heap.size, 0, none⟩ 1 1 [.string (S x)] rfl rfl (cells_list_new _ [.string (S x)] 9) (fun u hu => by simp at hu; subst hu; rfl) (by unfold maxLen; omega) (by omega) (by simp; omega) ?_); intro v6 w6 hown6 hg6 _ hloc6)
                        go_roundg (l.length - (i + 1))
                        case measure => omega
                        case rel =>
                          refine ⟨i + 1, acc ++ [x], by omega, by go_num, ?_, by simp; omega, (hends3.alloc _).kept hg6 hsep.symm, hsep.grow (fun b e => by have := (hends3.lt b e).2; simp; omega) hloc6, hA3.grown (grownBy_alloc_pre hg6) hws (fun y e => (hacc3.lt y e).1), HW⟩
                          rw [tcells_append]; simpa [tcells] using hown6
                      · have HW : Aside (acc = Tr.adds [] ((Tr.obT [] t).take (i + 1))) := by
                          show _ = _; rw [HS2.out, if_pos]; exact of_decide_eq_true HQ2.out.symm
                        clear HQ2 HS2
                        go_wp2_with fail
                        go_roundg (l.length - (i + 1))
                        case measure => omega
                        case rel => exact ⟨i + 1, acc, by omega, by go_num, hacc3, by omega, hends3, hsep, hA3, HW⟩
                · have HS2 : Aside (acc = Tr.adds [] ((Tr.obT [] t).take (i + 1))) := by
                    show _ = _
                    rw [HS.out]
                    rcases hT with ⟨h, _⟩ | ⟨_, h⟩
                    · exact absurd (HRI.out.1 rfl) h.2.2
                    · rw [h]; rfl
                  clear HS hT hob HA hk4 HRI
                  go_wp2_with fail
                  go_roundg (l.length - (i + 1))
                  case measure => omega
                  case rel => exact ⟨i + 1, acc, by omega, by go_num, hacc2, by omega, hends2, hsep, hA2, HS2⟩
            · have hk4' : (y.kind != 4) = true := by simpa using hk4
              have HS2 : Aside (acc = Tr.adds [] ((Tr.obT [] t).take (i + 1))) := by
                show _ = _
                rw [HS.out]
                rcases hT with ⟨h, _⟩ | ⟨_, h⟩
                · exact absurd h.1 hk4
                · rw [h]; rfl
              clear HS hT hob hcy HA hk4
              go_wp2_with fail
              go_roundg (l.length - (i + 1))
              case measure => omega
              case rel => exact ⟨i + 1, acc, by omega, by go_num, hacc, by omega, hends, hsep, hB, HS2⟩
          · have hi' : ¬ (i : Int) < (l.length : Int) := by omega
            have HF : Aside (acc = Tr.free t) := by
              show _ = _
              rw [HA.out, List.take_of_length_le (by rw [HOL.out]; omega)]; rfl
            clear HA
            go_wp2_with fail
            go_ret
            exact ⟨_, rfl, acc, HR.out _ HF.out, hacc, hB⟩
  · have HR : Aside (freeN l []) := .inl ⟨h0, rfl⟩
    have h0' : (((chkN l).1 : Int) != 0) = true := by simpa using h0
    go_enter Tryz.func8, Tryz.ntmps8
    go_wp2_with (go_at_call 21; refine hck.mono ?_; rintro e w1 ⟨rfl, hB1⟩)
    go_ret
    exact ⟨_, [], rfl, HR.out, own_nil _ _ _ _, hB1⟩
end Go.Proofs.YtkcehgpcimlamaaGreatDoor
namespace Go.Proofs.YtkcehgpcimlamaaGreatDoor
open Go.RowKit
set_option maxRecDepth 100000
set_option linter.unusedSimpArgs false

theorem freeN_one {l : List Tr.Nd} {a b : List (List UInt8)} (ha : freeN l a) (hb : freeN l b) : a = b := by
  by_cases h : (chkN l).1 = 0
  · obtain ⟨t, hw, rfl, _⟩ := chk_tree h
    rw [freeN_tree hw h ha, freeN_tree hw h hb]
  · rw [freeN_no h ha, freeN_no h hb]
theorem freeN_len {l : List Tr.Nd} {a : List (List UInt8)} (ha : freeN l a) : a.length ≤ 4096 := by
  by_cases h : (chkN l).1 = 0
  · obtain ⟨t, hw, rfl, _, hl, _⟩ := chk_tree h
    rw [freeN_tree hw h ha]
    have := Tr.free_len t
    omega
  · rw [freeN_no h ha]; simp

theorem addFirst (w : World) (la : Option Addr) (ln lc : Nat) :
    Calls Tryz.prog 7 #[.pointer (some ⟨w.heap.size, 0, none⟩), .slice la ln lc] (w.alloc (.cells Tb.bag0 47)) fun e w' => e = .returned (.tuple #[]) ∧ ∃ g cap, w'.heap[w.heap.size]? = some (.cells (Tb.bag0.setIfInBounds 4 (.slice (some ⟨g, 0, none⟩) 1 cap)) 47 (0, 0)) ∧ w'.ownsRow (w.heap.size + 1) 25 1 (.slice (some ⟨g, 0, none⟩) 1 cap) 1 [.slice la ln lc] ∧ (w.alloc (.cells Tb.bag0 47)).heap.size ≤ g ∧ Tb.Two (w.alloc (.cells Tb.bag0 47)) w' w.heap.size none := by
  refine (Tb.addTexts_any w.heap.size (w.heap.size + 1) 0 (w.alloc (.cells Tb.bag0 47)) (.slice none 0 0) la ln lc [] Tb.bag0 (heap_alloc_new _ _) rfl (own_nil _ _ _ _) (by decide) (by simp) (by simp [Value.ownBlock]) (by omega)).mono ?_
  rintro e w' ⟨rfl, g, cap, h1, h2, h3, h4⟩
  refine ⟨rfl, g, cap, h1, h2, ?_, h4⟩
  rcases h3 with h3 | h3
  · simp [Value.ownBlock] at h3
  · exact h3

theorem addNext (B : Nat) (w : World) (g c : Nat) (xs : List Value) (la : Option Addr) (ln lc : Nat) (hb : w.heap[B]? = some (.cells (Tb.bag0.setIfInBounds 4 (.slice (some ⟨g, 0, none⟩) 1 c)) 47 (0, 0))) (ho : w.ownsRow (B + 1) 25 1 (.slice (some ⟨g, 0, none⟩) 1 c) 1 xs) :
    Calls Tryz.prog 7 #[.pointer (some ⟨B, 0, none⟩), .slice la ln lc] w fun e w' => e = .returned (.tuple #[]) ∧ ∃ g2 c2, w'.heap[B]? = some (.cells ((Tb.bag0.setIfInBounds 4 (.slice (some ⟨g, 0, none⟩) 1 c)).setIfInBounds 4 (.slice (some ⟨g2, 0, none⟩) 2 c2)) 47 (0, 0)) ∧ w'.ownsRow (B + 1) 25 1 (.slice (some ⟨g2, 0, none⟩) 2 c2) 2 (xs ++ [.slice la ln lc]) ∧ Tb.Two w w' B (some g) := by
  have hlt := Tb.own_lt ho (b := g) rfl
  refine (Tb.addTexts_any B (B + 1) 1 w (.slice (some ⟨g, 0, none⟩) 1 c) la ln lc xs _ hb (by simp [Tb.bag0]) ho (by decide) (by omega) (by simp [Value.ownBlock]; omega) (by omega)).mono ?_
  rintro e w' ⟨he, g2, c2, h1, h2, h3, h4⟩
  exact ⟨he, g2, c2, h1, h2, h4⟩
theorem below_two {w a b : World} {H B : Nat} {row : Option Nat} (h : Below H w a) (t : Tb.Two a b B row) (hB : H ≤ B) (hr : ∀ r, row = some r → H ≤ r) (hH : H ≤ a.heap.size) : Below H w b :=
  ⟨t.os.trans h.os, t.tape.trans h.tape, t.output.trans h.output, Nat.le_trans h.size t.size, fun k hk => (t.block k (by omega) (by omega) (fun e => by have := hr k e.symm; omega)).trans (h.block k hk)⟩

set_option maxHeartbeats 16000000 in
theorem treeFree_any (l : List Tr.Nd) (hf : Fits l) (v : Value) (w : World) (hl : IsNodes w v l) (hT : Tb.Tab w) :
    Calls Tryz.prog 3 #[v] w fun e w' => e = .returned (.bool true) ∧ Below w.heap.size w w' := by
  obtain ⟨a, c, rfl⟩ := hl.form
  go_enter Tryz.func3, Tryz.ntmps3
  go_upto_region 2 with (go_at_call 4; refine (works_any _).mono ?_; rintro e w1 ⟨rfl, hB1⟩)
  by_cases h1 : 1000 < l.length
  · have h1' : (1000 : Int) < (l.length : Int) := by omega
    go_wp2_with fail
    go_ret
    exact ⟨rfl, hB1⟩
  have h1' : decide ((1000 : Int) < (l.length : Int)) = false := by simp; omega
  have hl3 : l.length ≤ 1000 := by omega
  have hl1 := hl.below hB1
  clear h1
  go_upto_region 4 with fail
  go_upto_region 5 with (go_at_call 5; refine (wideNodes_any l (by omega) _ w1 hl1).mono ?_; rintro e w3 ⟨rfl, hW3, hB3⟩)
  have hl3' := hl1.below hB3
  have hA3 := bt hB1 hB3
  have hg0 := hW3.lt
  generalize w1.heap.size = g0 at hW3 hg0 ⊢
  clear hl1 hB1 hB3 h1'
  have hlow3 : Low (.slice (some ⟨g0, 0, none⟩) l.length (l.length + 64)) w3.heap.size := fun b o n c h => by cases h; exact hg0
  have hfe3 := free_any l hf _ w3 hW3.nodes hlow3
  go_upto_region 6 with (go_at_call 6; refine hfe3.mono ?_; rintro e w4 ⟨ra, na, rfl, hna, hra, hB4⟩; obtain ⟨aa, ac, hraf⟩ := own_len hra; subst hraf)
  have hW4 := hW3.below hB4
  have hfe4 := free_any l hf _ w4 hW4.nodes (fun b o n c h => by cases h; exact hW4.lt)
  have hz4 := hB4.size
  clear hfe3 hlow3
  go_upto_region 7 with (go_at_call 6; refine hfe4.mono ?_; rintro e w5 ⟨rb, nb, rfl, hnb, hrb, hB5⟩; obtain ⟨ba, bc, hrbf⟩ := own_len hrb; subst hrbf)
  obtain rfl := freeN_one hna hnb
  have hz5 := hB5.size
  have hA5 := bt hB4 hB5
  have hoa := own_below hra hB5
  have hob := own_mono hrb hz4
  have hnl := freeN_len hna
  have hab : ∀ x, (Value.slice aa na.length ac).ownBlock = some x → (Value.slice ba na.length bc).ownBlock ≠ some x := fun x hx hy => by
    have h1 := (hra.lt x hx).2
    have h2 := (hrb.lt x hy).1
    omega
  clear hfe4 hW4 hra hrb hnb hB4 hB5
  have had := addFirst w5 aa na.length ac
  have hBa : ∀ o : Obj, Below w3.heap.size w3 (w5.alloc o) := fun o => hA5.alloc hA5.size o
  go_upto_region 9 with (go_at_call 7; refine had.mono ?_; rintro e w9 ⟨rfl, g1, c1, hb9, ho9, hg9, t9⟩)
  have hB9 : Below w3.heap.size w3 w9 := below_two (hBa _) t9 hA5.size (fun r e => by cases e) (hBa _).size
  have had2 := addNext w5.heap.size w9 g1 c1 _ ba na.length bc hb9 ho9
  clear had
  go_upto_region 10 with (go_at_call 7; refine had2.mono ?_; rintro e w10 ⟨rfl, g2, c2, hb10, ho10, t10⟩)
  have hB10 : Below w3.heap.size w3 w10 := below_two hB9 t10 hA5.size (fun r e => by cases e; simp at hg9; omega) hB9.size
  obtain ⟨hLn, hBr, hc2⟩ := Tb.ready (H := w3.heap.size) hoa hob (by omega) (by omega) hab ⟨aa, ac, rfl⟩ ⟨ba, bc, rfl⟩ hg9 t9 hb10 ho10 t10
  have hkeep : ∀ (v : Value) (xs : List Value) (n : Nat), w5.ownsRow w3.heap.size 9 1 v n xs → w10.ownsRow w3.heap.size 9 1 v n xs := fun v xs n h => by
    have hlt : ∀ x, v.ownBlock = some x → x < w5.heap.size := fun x hx => (Tb.own_lt h hx).2
    have hs9 := t9.size
    simp at hs9 hg9
    refine Tb.own_two (Tb.own_two (h.alloc (.cells Tb.bag0 47)) t9 ?_) t10 ?_
    · intro x hx; have := hlt x hx; exact ⟨by omega, by simp⟩
    · intro x hx; have := hlt x hx; exact ⟨by omega, by simp; omega⟩
  have hoa10 := hkeep _ _ _ hoa
  have hob10 := hkeep _ _ _ hob
  have hfr := refFree_any l hf _ w10 (hl3'.below hB10)
  clear had2 hBa hkeep hoa hob t9 t10 hb9 ho9 hb10 ho10 hB9 hg9 hab
  go_upto_region 11 with (go_at_call 8; refine hfr.mono ?_; rintro e w11 ⟨rw2, nw, rfl, hnw, hrw, hB11⟩; obtain ⟨wa, wc2, hrwf⟩ := own_len hrw; subst hrwf)
  obtain rfl := freeN_one hna hnw
  have hA11 := bt hB10 hB11
  have hLn11 := Tb.lain_below hLn hB11
  have hBr11 : Tb.Bare w11 w5.heap.size := fun k hk h4 => (hB11.cell (p := ⟨w5.heap.size, k, none⟩) hLn.lB).trans (hBr k hk h4)
  have hoa11 := own_below hoa10 hB11
  have hob11 := own_below hob10 hB11
  have hE1 := eqTexts_same na (by omega) _ _ w11 (IsTexts.own hoa11) (IsTexts.own hrw)
  clear hfr hoa10 hob10 hB10 hLn hBr
  go_wp2_with fail
  refine hE1.mono ?_
  rintro e w12 ⟨rfl, m1, rfl⟩
  have hE2 := eqTexts_same na (by omega) (.slice ba na.length bc) (.slice wa na.length wc2) (w11.drewN m1) (IsTexts.own (show (w11.drewN m1).ownsRow _ _ _ _ _ _ from hob11)) (IsTexts.own (show (w11.drewN m1).ownsRow _ _ _ _ _ _ from hrw))
  clear hE1
  go_wp2_with fail
  refine hE2.mono ?_
  rintro e w13 ⟨rfl, m2, rfl⟩
  clear hE2
  have hB13 : Below w11.heap.size w11 ((w11.drewN m1).drewN m2) := below_drewN (below_drewN (Below.refl _ _) m1) m2
  have hBr13 : Tb.Bare ((w11.drewN m1).drewN m2) w5.heap.size := hBr11
  generalize (w11.drewN m1).drewN m2 = w13 at *
  have hA13 := bt hA11 hB13
  have hLn13 := Tb.lain_below hLn11 hB13
  have hAp := Tb.apart_of w5.heap.size (fun w' => Below w3.heap.size w13 w') _ hBr13 ((Tb.apartTexts_any _ w3.heap.size w5.heap.size g2 2 c2 _ hLn13 hc2 hA13.size (fun w' h => hT.on (hA3.trans ((hA13.trans h).mono hA3.size)))).mono (fun e w' h => ⟨h.1, fun k hk h4 => (World.cell?_of_block h.2.bag).trans (hBr13 k hk h4), h.2.below⟩))
  clear hLn13 hBr13 hLn11 hBr11 hB13
  go_wp2_with fail
  refine hAp.mono ?_
  rintro e w20 ⟨rfl, hB20⟩
  clear hAp
  have hA20 := hA13.trans hB20
  have hW20 := hW3.below hA20
  have hl20 := hl3'.below hA20
  have hq := eqNodes_same l hf.len _ _ w20 hW20.nodes hl20
  go_wp2_with fail
  refine hq.mono ?_
  rintro e w21 ⟨rfl, m, rfl⟩
  clear hq
  have hA21 : Below w3.heap.size w3 (w20.drewN m) := below_drewN hA20 m
  have hW21 := hW3.below hA21
  have hsn := spareNodes_any l (by omega) g0 _ hW21
  go_wp2_with fail
  refine hsn.mono ?_
  rintro e w22 ⟨rfl, hB22⟩
  go_wp2_with fail
  go_ret
  exact ⟨rfl, bt hA3 (bt hA21 hB22)⟩
end Go.Proofs.YtkcehgpcimlamaaGreatDoor
namespace Go.Proofs.YtkcehgpcimlamaaGreatDoor
open Go.ChangeShapes Go.WideShapes Go.ChangeAt Go.RowKit

theorem laidOutAll : laidOutB Tryz.prog = true := by kernel_rfl
theorem ownKnobs : ownKnob Tryz.prog.godebug = none := by kernel_rfl
/-- The five variables that TreeFree lists. -/
abbrev laidFive : List (String × DataW Unit) := [("math/bits.deBruijn32tab", Rows.laid_math_bits_deBruijn32tab), ("math/bits.deBruijn64tab", Rows.laid_math_bits_deBruijn64tab), ("internal/strconv.uint64pow10", Rows.laid_internal_strconv_uint64pow10), ("unicode/utf8.acceptRanges", Rows.laid_unicode_utf8_acceptRanges), ("unicode/utf8.first", Rows.laid_unicode_utf8_first)]
theorem laid_met5 (os : Os) (args : Array Value) : laidMetH Tryz.prog laidFive ((World.laidAll Tryz.prog os laidFive).forCall (fun _ _ => 0) ⟨#[], args, []⟩).memory := by
  rw [MakeChecks.laidMetH_plain _ _ _ (by kernel_rfl)]
  exact laidMet_laidAll _ (by kernel_rfl) (by kernel_rfl)
theorem gPow : ∃ g, Tryz.prog.globalNamed "internal/strconv.uint64pow10" = some g ∧ (Tryz.prog.globals[g]?).map (·.type) = some 153 := ⟨1, by kernel_rfl, by kernel_rfl⟩
theorem tab_of_laid {W : World} (h : laidMetH Tryz.prog laidFive W) : Tb.Tab W := by
  rw [MakeChecks.laidMetH_plain _ _ _ (by kernel_rfl)] at h
  obtain ⟨g, h1, h2⟩ := gPow
  exact Lib.tabIs_of_head (t := 153) (e := 144) (n := 20) h1 h2 (by kernel_rfl) (by kernel_rfl) (by kernel_rfl) (by kernel_rfl) h.tail.tail

set_option maxRecDepth 100000 in
theorem treeFree_lifted (os : Os) (started : os.Started) (H : Type) (enc : TypeId × Value → H) :
    ReturnsInHanded {} Tryz.checked os 3 .any (fun w args => (Rows.treeFreeSpec.pre enc Tryz.prog Tryz.f3 [] false w args ∧ laidMetH Tryz.prog laidFive w) ∧ sizedMet enc Tryz.prog Tryz.f3 (OpenSpec.ofChange Rows.treeFreeSpec) false w args)
      (Rows.treeFreeSpec.post enc Tryz.prog Tryz.f3 false true false false) := by
  refine returnsInHanded_of_change_and (C := Tryz.checked) (X := fun w _ => laidMetH Tryz.prog laidFive w) (fun _ _ _ hh h => h.of_heap hh) ownKnobs started (by kernel_rfl) Tryz.func3
    (ChangeSpec.witness_shaped (enc := enc) (C := Tryz.checked) (os := os) (X := fun w _ => laidMetH Tryz.prog laidFive w) false (World.laidAll Tryz.prog os laidFive) #[.slice none 0 0] 8 (World.laidAll_os _ _ _) (World.shaped_of_ZipB (by kernel_rfl) (by kernel_rfl)) (by kernel_rfl) (by kernel_rfl) (by kernel_rfl) (laid_met5 os _)) ?_
  intro W base args ds gs before hval0 hW _ hsz0 hL _
  have hsz : (DataW.weightsEach Tryz.prog (Tryz.f3.params.toList ++ Rows.treeFreeSpec.plain.varTypes Tryz.prog) (ds ++ gs)).all (· ≤ reachBytes) = true := hsz0
  clear hsz0
  have hval : ∀ (j : Nat) t v, Tryz.f3.params[j]? = some t → args[j]? = some v → Value.okWide Tryz.prog W .any base t v := hval0
  have hW' := hW
  obtain ⟨p, q, hA0, hV, rfl, hfz, hnd⟩ := hW
  have hA : DataW.TrodAll enc Tryz.prog W 0 (fun _ => true) true Tryz.f3.params.toList args.toList ds p := hA0
  rw [Tryz.params3] at hA hval hsz
  obtain ⟨v0, vs0, d0, ds0, p0, q0, hargs, rfl, rfl, h0, r0⟩ := trodAll_cons hA
  obtain ⟨rfl, rfl, rfl⟩ := trodAll_nil r0
  obtain rfl : args = #[v0] := by cases args; simp_all
  obtain ⟨rfl, rfl⟩ := trodVars_none hV
  obtain ⟨a0, len0, cap0, rfl⟩ := okWide_slice tyNodes (hval 0 22 v0 rfl rfl)
  have k0 := h0
  have lt0 : ∀ x ∈ p0, x.block < W.heap.size := by obtain ⟨m, hm⟩ := k0; exact DataW.trod_lt m _ _ _ hm
  obtain ⟨l, hl, hF⟩ : ∃ l : List Tr.Nd, IsNodes W (.slice a0 len0 cap0) l ∧ Fits l := by
    obtain ⟨fuel, hf⟩ := h0
    have hm : ∀ n ∈ d0.weights Tryz.prog 22, n ≤ 140737488351232 := fun n hn => by
      have := List.all_eq_true.1 hsz n (DataW.weights_mem_each (j := 0) (t := 22) (d := d0) rfl rfl n hn)
      exact of_decide_eq_true this
    obtain ⟨l, hl, hx, hN⟩ := nodes_open (v := .slice a0 len0 cap0) (p := p0) hf
    refine ⟨l, hl, ⟨?_, fun x h => (hx x h).1, fun x h => (hx x h).2.1⟩⟩
    · rcases hN with rfl | ⟨N, h1, h2⟩
      · simp
      · have := hm _ h2; omega
  clear hA0 hval0
  refine (treeFree_any l hF _ W hl (tab_of_laid hL)).mono fun e W' ⟨he, bel⟩ => ?_
  subst he
  exact ⟨_, rfl, _, _, _, [], _, [], hW', trodAll_mk1 (shut_bool Tryz.underlying4 _), (trodAll_cons_mk (Below.trod laidOutAll (by kernel_rfl) (of_decide_eq_true (by kernel_rfl)) k0 bel lt0) trodAll_mk0), rfl, bel.frame _, fun h => by cases h⟩

theorem treeFree_row : Rows.TreeFreeSaid :=
  OpenClaim.holds_of_wide 3 Tryz.f3 rfl rfl rfl rfl rfl rfl rfl ⟨rfl, rfl, rfl, rfl, rfl⟩ rfl rfl rfl rfl rfl (by kernel_rfl) Tryz.func3 (by kernel_rfl)
    (of_decide_eq_true (by kernel_rfl)) (by unfold Func.isWrapper; first | (rw [if_pos (by decide +kernel)]; kernel_rfl) | (rw [if_neg (by decide +kernel)]; exact ⟨rfl, rfl⟩))
    (fun os started H enc _ => treeFree_lifted os started H enc)

theorem treeFree_card : Rows.TreeFreeCardSaid :=
  Claim7.holds_tied_plain_at .later [] [.data, .data, .data, .data, .pinned] true (true, "fd53b6f4f61df85976dc7c53049dd6365c64a960c5d82361dd2b4a34a9b9ea31") true
    treeFree_row (fun _ h => by cases h) (by kernel_rfl) (fun _ h => by cases h) treeFree_row_tie rfl ⟨rfl, rfl⟩ (by kernel_rfl) rfl
    (fun f fn hf hfn => by
      obtain rfl : f = 3 := Option.some.inj ((show Tryz.prog.funcNamed "culprit/culpritlaw05.TreeFree" = some 3 by kernel_rfl).symm.trans hf) |>.symm
      obtain rfl : fn = Tryz.f3 := (Option.some.inj (Tryz.func3.symm.trans hfn)).symm
      exact ⟨by kernel_rfl, fun j t ht => by
        rw [Tryz.params3] at ht
        have hm : t ∈ [22] := by simpa using Array.mem_of_getElem? ht
        have hall : ([22].all fun u => !Tryz.prog.wantsStandIn u) = true := by kernel_rfl
        exact (show Tryz.prog.wantsStandIn t = false by simpa using List.all_eq_true.1 hall t hm)⟩)
    (by kernel_rfl)
#print axioms treeFree_card
end Go.Proofs.YtkcehgpcimlamaaGreatDoor
