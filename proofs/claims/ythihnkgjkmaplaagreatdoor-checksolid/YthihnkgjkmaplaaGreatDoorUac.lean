/- What the program's Static and Make answer. Plain functions on types: what layer 3 of the document says of two types, and of a step looser. Nothing of the program is named here. What the program's check of texts, and its settling closures, answer. -/
import Derived.Test.YthihnkgjkmaplaaGreatDoorUab
import Derived.Test.YthihnkgjkmaplaaGreatDoorUaa
import Derived.Deep.CutRange
import Derived.Deep.DeepCutAuto
namespace Go.Proofs.YthihnkgjkmaplaaGreatDoor.T3
set_option maxRecDepth 100000
open Go.RowKit

/-- A list of texts, wherever it lies. -/
def IsTexts (w : World) (v : Value) (ps : List (List UInt8)) : Prop :=
  (ps = [] ∧ ∃ a c, v = .slice a 0 c) ∨ ∃ b o c, v = .slice (some ⟨b, o, none⟩) ps.length c ∧ ps.length ≤ c ∧ b < w.heap.size ∧ ∀ j p, ps[j]? = some p → w.cell? ⟨b, o + j, none⟩ = some (.string (S p))
theorem IsTexts.own {w : World} {base : Nat} {v : Value} {ps : List (List UInt8)} (h : w.ownsRow base 9 1 v ps.length (tcells ps)) : IsTexts w v ps := by
  by_cases h0 : ps = []
  · subst h0
    obtain ⟨a, c, rfl⟩ := own_len h
    exact .inl ⟨rfl, a, c, rfl⟩
  · obtain ⟨g, cap, rfl, hc, hg, hcell⟩ := own_cells h (List.length_pos_iff.2 h0)
    have key : ∀ j p, ps[j]? = some p → w.cell? ⟨g, 0 + j, none⟩ = some (.string (S p)) := by
      intro j p hp
      have hj : j < ps.length := (List.getElem?_eq_some_iff.1 hp).1
      rw [Nat.zero_add, hcell j (by omega)]
      unfold tcells
      rw [List.getElem?_map, hp]
      rfl
    refine .inr ⟨g, 0, cap, rfl, hc, ?_, key⟩
    obtain ⟨p, r, rfl⟩ := List.exists_cons_of_ne_nil h0
    exact World.block_lt_of_cell? w _ (key 0 p rfl)
theorem IsTexts.next {w w' : World} {v : Value} {ps : List (List UInt8)} {rb : Nat} (h : IsTexts w v ps) (hg : w.grownBy w' (some rb)) (hne : ∀ b o n c, v = .slice (some ⟨b, o, none⟩) n c → b ≠ rb) : IsTexts w' v ps := by
  rcases h with h | ⟨b, o, c, rfl, h1, h2, h3⟩
  · exact .inl h
  · exact .inr ⟨b, o, c, rfl, h1, Nat.lt_of_lt_of_le h2 hg.size, fun j p hp => hg.cell (h3 j p hp) (by simpa using hne b o _ _ rfl)⟩

/-- No letter of it is ?. -/
def statB (l : List UInt8) : Bool := (Tp.chk l).1 == 0 && decide (Lib.indexByte l 63 < 0)

set_option maxHeartbeats 400000 in
theorem static_any (s : ByteArray) (w : World) :
    Calls Tryz.prog 20 #[.string s] w fun e w' => e = .returned (.bool (statB s.data.toList)) ∧ w' = w := by
  go_enter Tryz.func20, Tryz.ntmps20
  go_wp2_with (first | (go_at_call 45; refine (isType_any _ _).mono ?_; rintro e w' ⟨rfl, rfl⟩) | (go_at_call 46; refine (Tryz.strings_IndexByte _ _ _).mono ?_; rintro e w' ⟨rfl, rfl⟩))
  all_goals
    go_ret
    refine ⟨ret_bool ?_, rfl⟩
    unfold statB
    simp_all

theorem conv_head (h : UInt8) (h128 : h.toNat < 128) (w : World) : (convert 21 9 (.int .i32 (h.toNat : Int))).run Tryz.prog w = .ok (.string (S [h])) w := by
  rw [run_convert_int_string w 21 9 .i32 _ (by kernel_rfl) (by kernel_rfl)]
  have e : Utf8.encode (h.toNat : Int) = S [h] := by
    have hv : Utf8.valid (h.toNat : Int) = true := by unfold Utf8.valid; simp; omega
    have h2 : ((h.toNat : Int)).toNat < 128 := by omega
    unfold Utf8.encode
    simp only [hv, if_true]
    rw [if_pos h2]
    simp [S]
  rw [e]

/-- How long texts are together. -/
def flen (ps : List (List UInt8)) : Nat := ps.flatten.length
theorem flen_take {ps : List (List UInt8)} {k : Nat} {q : List UInt8} (h : ps.take (k + 1) = ps.take k ++ [q]) : flen (ps.take (k + 1)) = flen (ps.take k) + q.length := by
  unfold flen; rw [h]; simp
theorem join_flat : ∀ ps : List (List UInt8), Lib.join ps [] = ps.flatten := by
  intro ps
  unfold Lib.join
  rw [List.intercalate]
  induction ps with
  | nil => rfl
  | cons a r ih =>
    cases r with
    | nil => simp
    | cons b r => rw [List.intersperse_cons_cons, List.flatten_cons, List.flatten_cons, ih]; simp
set_option maxHeartbeats 400000 in
theorem join_any (v : Value) (ps : List (List UInt8)) (w : World) (hv : IsTexts w v ps) (hp : ps.length ≤ 2) (hf : flen ps ≤ 140737488355328) :
    Calls Tryz.prog 101 #[v, .string ⟨#[]⟩] w fun e w' => e = .returned (.string (S ps.flatten)) ∧ Below w.heap.size w w' := by
  rcases hv with ⟨rfl, a, c, rfl⟩ | ⟨b, o, c, rfl, h1, h2, h3⟩
  · refine (Tryz.strings_Join_none a c _ w).mono ?_
    rintro e w' ⟨rfl, rfl⟩
    exact ⟨rfl, Below.refl _ _⟩
  · have hm : (ps.map S).map (·.data.toList) = ps := by rw [List.map_map]; exact List.map_id' _
    have hl : (ps.map S).length = ps.length := List.length_map ..
    have := Tryz.strings_Join b o c (ps.map S) ⟨#[]⟩ w (fun j x hx => by
      rw [List.getElem?_map] at hx
      obtain ⟨p, hp, rfl⟩ := Option.map_eq_some_iff.1 hx
      exact h3 j p hp) h2 (by rw [hl]; omega) (by rw [hl]; exact h1) (by rw [hm, show (⟨#[]⟩ : ByteArray).data.toList = [] from rfl, join_flat]; exact hf)
    rw [hl, hm, show (⟨#[]⟩ : ByteArray).data.toList = [] from rfl, join_flat] at this
    exact this

set_option maxHeartbeats 1000000 in
theorem make_any (h : UInt8) (v : Value) (ps : List (List UInt8)) (w : World) (hv : IsTexts w v ps) (hp : ps.length < 1152921504606846976) :
    Calls Tryz.prog 72 #[.int .u8 (h.toNat : Int), v] w fun e w' => e = .returned (.tuple #[.string (S (Tp.mkF h ps).2), .int .i64 (Tp.mkF h ps).1]) ∧ Below w.heap.size w w' := by
  obtain ⟨a, c, rfl⟩ : ∃ a c, v = .slice a ps.length c := by
    rcases hv with ⟨rfl, a, c, rfl⟩ | ⟨b, o, c, rfl, _⟩
    · exact ⟨a, c, rfl⟩
    · exact ⟨_, c, rfl⟩
  by_cases ha : Tp.ar h.toNat = ps.length
  · have hn2 : ps.length ≤ 2 := by have := (Tp.ar_bd (h.toNat : Int)).2; omega
    go_enter Tryz.func72, Tryz.ntmps72
    go_wp2_with (go_at_call 63; refine (partsOf_any _ _).mono ?_; rintro e w' ⟨rfl, hw'⟩; replace hw' := hw'.symm; subst hw')
    go_loopg [6, 18] ps.length (fun g lv t wr => wr = w ∧ ∃ k : Nat, k + g = ps.length ∧ t = .int .i64 k ∧ lv = .int .i64 ((1 + flen (ps.take k) : Nat) : Int) ∧ flen (ps.take k) ≤ 64 * k ∧ Aside (Tp.firstBad (ps.take k) = 0))
    case atStart => exact ⟨rfl, 0, by omega, rfl, rfl, by simp [flen], rfl⟩
    case round =>
      obtain ⟨rfl, k, hkg, rfl, rfl, hfl, HF⟩ := hrel
      by_cases hk : k < ps.length
      · have hk' : (k : Int) < (ps.length : Int) := by omega
        obtain ⟨b, o, c, hsl, hcap, hbl, hcell⟩ : ∃ b o c', Value.slice a ps.length c = .slice (some ⟨b, o, none⟩) ps.length c' ∧ ps.length ≤ c' ∧ b < wr.heap.size ∧ ∀ j p, ps[j]? = some p → wr.cell? ⟨b, o + j, none⟩ = some (.string (S p)) := by
          rcases hv with ⟨rfl, _⟩ | h
          · simp at hk
          · exact h
        obtain ⟨rfl, rfl⟩ : a = some ⟨b, o, none⟩ ∧ _ := by simpa using hsl
        have hck := hcell k _ (List.getElem?_eq_getElem hk)
        have HT : Aside (ps.take (k + 1) = ps.take k ++ [ps[k]]) := List.take_succ_eq_append_getElem hk
        generalize hpk : ps[k] = q at *
        clear hcell
        by_cases hq : (Tp.chk q).1 = 0
        · have hq' : (((Tp.chk (S q).data.toList).1 : Int) != 0) = false := by rw [S_list]; simpa using hq
          have HF2 : Aside (Tp.firstBad (ps.take (k + 1)) = 0) := by
            show _ = _
            rw [HT.out, Tp.firstBad_app _ _ HF.out, Tp.firstBad, if_pos hq]; rfl
          have hql : q.length ≤ 64 := by obtain ⟨t, rfl, hl⟩ := Tp.chk_dec hq; exact hl
          have hz := S_size q
          go_wp2_with (go_at_call 48; refine (check_any _ _).mono ?_; rintro e w' ⟨rfl, hw'⟩; replace hw' := hw'.symm; subst hw')
          go_roundg (gk - 1)
          case measure => omega
          case rel =>
            refine ⟨rfl, k + 1, by omega, by go_num, ?_, ?_, HF2⟩
            · rw [flen_take HT.out]
              go_num
            · rw [flen_take HT.out]
              omega
        · have hq' : (((Tp.chk (S q).data.toList).1 : Int) != 0) = true := by rw [S_list]; simpa using hq
          have HN : Aside (Tp.mkF h ps = ((Tp.chk q).1, [])) := by
            have hfb : Tp.firstBad ps = (Tp.chk q).1 := by
              have h1 : ps = ps.take k ++ (q :: ps.drop (k + 1)) := by
                rw [← hpk, ← List.drop_eq_getElem_cons hk, List.take_append_drop]
              rw [h1, Tp.firstBad_app _ _ HF.out, Tp.firstBad, if_neg hq]
            show _ = _
            rw [Tp.mk_bad ha (by rw [hfb]; exact hq), hfb]
          go_wp2_with (go_at_call 48; refine (check_any _ _).mono ?_; rintro e w' ⟨rfl, rfl⟩)
          go_ret2
          rw [HN.out]
          exact ⟨rfl, Below.refl _ _⟩
      · have hk' : decide ((k : Int) < (ps.length : Int)) = false := by simp; omega
        obtain rfl : k = ps.length := by omega
        rw [List.take_length] at hfl HF
        rw [List.take_length]
        have hv' := hv
        obtain ⟨n, hn⟩ : ∃ n, n = flen ps := ⟨_, rfl⟩
        rw [← hn] at hfl ⊢
        have HX : Aside (n = ps.flatten.length) := hn
        clear hn
        by_cases h64 : 64 < 1 + n
        · have h64' : (64 : Int) < 1 + (n : Int) := by omega
          have HN : Aside (Tp.mkF h ps = (21, [])) := Tp.mk_large ha HF.out (by rw [← HX.out]; exact h64)
          go_wp2_with fail
          go_ret2
          rw [HN.out]
          exact ⟨rfl, Below.refl _ _⟩
        · have h64' : decide ((64 : Int) < 1 + (n : Int)) = false := by simp; omega
          have HN : Aside (Tp.mkF h ps = (0, h :: ps.flatten)) := Tp.mk_ok ha HF.out (by rw [← HX.out]; exact h64)
          have h128 : h.toNat < 128 := by
            rcases Tp.ar_cases h with ⟨_, rfl | rfl | rfl | rfl⟩ | ⟨_, rfl | rfl⟩ | ⟨_, rfl | rfl⟩ | h1 <;> first | decide | omega
          have hcv := conv_head h h128
          have hw32 : wrap32 (h.toNat : Int) = h.toNat := by unfold wrap32; omega
          have hcc : S [h] ++ S ps.flatten = S (h :: ps.flatten) := by apply ByteArray.ext; simp [S]
          have hsz1 : (S [h]).size = 1 := rfl
          have hsz2 : (S ps.flatten).size = n := by rw [S_size, HX.out]
          have hj := join_any (Value.slice a ps.length c) ps wr hv' (by omega) (by unfold flen; rw [← HX.out]; omega)
          clear h64
          generalize S ps.flatten = fs at *
          go_wp2_with (go_at_call 101; refine hj.mono ?_; rintro e w' ⟨rfl, hB⟩)
          go_ret2
          rw [HN.out]
          exact ⟨rfl, hB⟩
  · have HN : Aside (Tp.mkF h ps = (1, [])) := Tp.mk_arg ha
    have ha' : (Tp.ar (h.toNat : Int) != (ps.length : Int)) = true := by simpa using ha
    go_enter Tryz.func72, Tryz.ntmps72
    go_wp2_with (go_at_call 63; refine (partsOf_any _ _).mono ?_; rintro e w' ⟨rfl, rfl⟩)
    go_ret2
    rw [HN.out]
    exact ⟨rfl, Below.refl _ _⟩
end Go.Proofs.YthihnkgjkmaplaaGreatDoor.T3
namespace Go.Proofs.YthihnkgjkmaplaaGreatDoor.T3
namespace Tp


/-- Consistent: agree wherever both are known. -/
def cns : Ty → Ty → Bool
  | .tq, _ => true
  | _, .tq => true
  | .ti, .ti => true | .tb, .tb => true | .tt, .tt => true
  | .tl a, .tl c => cns a c
  | .tx a, .tx c => cns a c
  | .tf a b, .tf c d => cns a c && cns b d
  | .tp a b, .tp c d => cns a c && cns b d
  | _, _ => false
/-- The first is at least as precise as the second. -/
def prc : Ty → Ty → Bool
  | _, .tq => true
  | .ti, .ti => true | .tb, .tb => true | .tt, .tt => true
  | .tl a, .tl c => prc a c
  | .tx a, .tx c => prc a c
  | .tf a b, .tf c d => prc a c && prc b d
  | .tp a b, .tp c d => prc a c && prc b d
  | _, _ => false
/-- The meet of consistent types. -/
def met : Ty → Ty → Ty
  | .tq, t => t
  | s, .tq => s
  | .tl a, .tl c => .tl (met a c)
  | .tx a, .tx c => .tx (met a c)
  | .tf a b, .tf c d => .tf (met a c) (met b d)
  | .tp a b, .tp c d => .tp (met a c) (met b d)
  | s, _ => s
def joi : Ty → Ty → Ty
  | .ti, .ti => .ti | .tb, .tb => .tb | .tt, .tt => .tt
  | .tl a, .tl c => .tl (joi a c)
  | .tx a, .tx c => .tx (joi a c)
  | .tf a b, .tf c d => .tf (joi a c) (joi b d)
  | .tp a b, .tp c d => .tp (joi a c) (joi b d)
  | _, _ => .tq

theorem cns_qr (s : Ty) : cns s .tq = true := by cases s <;> rfl
theorem cns_ql (s : Ty) : cns .tq s = true := by cases s <;> rfl
theorem prc_q (s : Ty) : prc s .tq = true := by cases s <;> rfl
theorem q_prc {s : Ty} (h : prc .tq s = true) : s = .tq := by cases s <;> simp [prc] at h ⊢
theorem prc_refl : ∀ s : Ty, prc s s = true
  | .ti | .tb | .tt | .tq => rfl
  | .tl a | .tx a => by simpa [prc] using prc_refl a
  | .tf a b | .tp a b => by simp [prc, prc_refl a, prc_refl b]
theorem prc_anti : ∀ {s t : Ty}, prc s t = true → prc t s = true → s = t := by
  intro s
  induction s with
  | ti | tb | tt | tq => intro t h k; cases t <;> simp [prc] at h k ⊢
  | tl a ih | tx a ih => intro t h k; cases t <;> simp [prc] at h k ⊢; exact ih h k
  | tf a b iha ihb | tp a b iha ihb => intro t h k; cases t <;> simp [prc] at h k ⊢; exact ⟨iha h.1 k.1, ihb h.2 k.2⟩
theorem prc_trans : ∀ {s t u : Ty}, prc s t = true → prc t u = true → prc s u = true := by
  intro s
  induction s with
  | ti | tb | tt | tq => intro t u h k; cases t <;> cases u <;> simp [prc] at h k ⊢
  | tl a ih | tx a ih => intro t u h k; cases t <;> cases u <;> simp [prc] at h k ⊢; exact ih h k
  | tf a b iha ihb | tp a b iha ihb => intro t u h k; cases t <;> cases u <;> simp [prc] at h k ⊢; exact ⟨iha h.1 k.1, ihb h.2 k.2⟩
theorem cns_symm : ∀ (s t : Ty), cns s t = cns t s := by
  intro s
  induction s with
  | ti | tb | tt | tq => intro t; cases t <;> rfl
  | tl a ih | tx a ih => intro t; cases t <;> simp [cns]; exact ih _
  | tf a b iha ihb | tp a b iha ihb => intro t; cases t <;> simp [cns]; rw [iha, ihb]
theorem prc_cns : ∀ {s t : Ty}, prc s t = true → cns s t = true := by
  intro s
  induction s with
  | ti | tb | tt | tq => intro t h; cases t <;> simp [prc, cns] at h ⊢
  | tl a ih | tx a ih => intro t h; cases t <;> simp [prc, cns] at h ⊢; exact ih h
  | tf a b iha ihb | tp a b iha ihb => intro t h; cases t <;> simp [prc, cns] at h ⊢; exact ⟨iha h.1, ihb h.2⟩
def sta : Ty → Bool
  | .ti | .tb | .tt => true
  | .tq => false
  | .tl a | .tx a => sta a
  | .tf a b | .tp a b => sta a && sta b
theorem cns_sta : ∀ {s t : Ty}, sta s = true → sta t = true → cns s t = decide (s = t) := by
  intro s
  induction s with
  | ti | tb | tt | tq => intro t h k; cases t <;> simp [sta, cns] at h k ⊢
  | tl a ih | tx a ih => intro t h k; cases t <;> simp [sta, cns] at h k ⊢; exact ih h k
  | tf a b iha ihb | tp a b iha ihb =>
    intro t h k
    cases t <;> simp [sta, cns] at h k ⊢
    rw [iha h.1 k.1, ihb h.2 k.2]
theorem met_symm : ∀ {s t : Ty}, cns s t = true → met s t = met t s := by
  intro s
  induction s with
  | ti | tb | tt | tq => intro t h; cases t <;> simp [cns, met] at h ⊢
  | tl a ih | tx a ih => intro t h; cases t <;> simp [cns, met] at h ⊢; exact ih h
  | tf a b iha ihb | tp a b iha ihb => intro t h; cases t <;> simp [cns, met] at h ⊢; exact ⟨iha h.1, ihb h.2⟩
theorem met_l : ∀ {s t : Ty}, cns s t = true → prc (met s t) s = true := by
  intro s
  induction s with
  | ti | tb | tt | tq => intro t h; cases t <;> simp [cns, met, prc, prc_refl] at h ⊢
  | tl a ih | tx a ih => intro t h; cases t <;> simp [cns, met, prc, prc_refl] at h ⊢; exact ih h
  | tf a b iha ihb | tp a b iha ihb => intro t h; cases t <;> simp [cns, met, prc, prc_refl] at h ⊢; exact ⟨iha h.1, ihb h.2⟩
theorem met_r {s t : Ty} (h : cns s t = true) : prc (met s t) t = true := by
  rw [met_symm h]; exact met_l (by rw [cns_symm]; exact h)
theorem met_best : ∀ {u s t : Ty}, prc u s = true → prc u t = true → cns s t = true ∧ prc u (met s t) = true := by
  intro u
  induction u with
  | ti | tb | tt | tq => intro s t h k; cases s <;> cases t <;> simp [cns, met, prc] at h k ⊢
  | tl a ih | tx a ih => intro s t h k; cases s <;> cases t <;> simp [cns, met, prc] at h k ⊢ <;> first | exact h | exact k | exact ih h k
  | tf a b iha ihb | tp a b iha ihb =>
    intro s t h k
    cases s <;> cases t <;> simp [cns, met, prc] at h k ⊢ <;> first | exact h | exact k | exact ⟨⟨(iha h.1 k.1).1, (ihb h.2 k.2).1⟩, (iha h.1 k.1).2, (ihb h.2 k.2).2⟩
theorem joi_symm : ∀ (s t : Ty), joi s t = joi t s := by
  intro s
  induction s with
  | ti | tb | tt | tq => intro t; cases t <;> rfl
  | tl a ih | tx a ih => intro t; cases t <;> simp [joi]; exact ih _
  | tf a b iha ihb | tp a b iha ihb => intro t; cases t <;> simp [joi]; exact ⟨iha _, ihb _⟩
theorem joi_l : ∀ (s t : Ty), prc s (joi s t) = true := by
  intro s
  induction s with
  | ti | tb | tt | tq => intro t; cases t <;> rfl
  | tl a ih | tx a ih => intro t; cases t <;> simp [joi, prc]; exact ih _
  | tf a b iha ihb | tp a b iha ihb => intro t; cases t <;> simp [joi, prc]; exact ⟨iha _, ihb _⟩
theorem joi_r (s t : Ty) : prc t (joi s t) = true := by rw [joi_symm]; exact joi_l t s
theorem joi_best : ∀ {s t u : Ty}, prc s u = true → prc t u = true → prc (joi s t) u = true := by
  intro s
  induction s with
  | ti | tb | tt | tq => intro t u h k; cases t <;> cases u <;> simp [joi, prc] at h k ⊢
  | tl a ih | tx a ih => intro t u h k; cases t <;> cases u <;> simp [joi, prc] at h k ⊢; exact ih h k
  | tf a b iha ihb | tp a b iha ihb => intro t u h k; cases t <;> cases u <;> simp [joi, prc] at h k ⊢; exact ⟨iha h.1 k.1, ihb h.2 k.2⟩
theorem prc_len : ∀ {s t : Ty}, prc s t = true → (enc t).length ≤ (enc s).length := by
  intro s
  induction s with
  | ti | tb | tt | tq => intro t h; cases t <;> simp [prc, enc] at h ⊢
  | tl a ih | tx a ih => intro t h; cases t <;> simp [prc, enc] at h ⊢; exact ih h
  | tf a b iha ihb | tp a b iha ihb =>
    intro t h; cases t <;> simp [prc, enc] at h ⊢
    have := iha h.1; have := ihb h.2; omega
theorem joi_len (s t : Ty) : (enc (joi s t)).length ≤ (enc s).length := prc_len (joi_l s t)

/-- All steps looser, by their place, from the left. -/
def loo : Ty → List Ty
  | .ti | .tb | .tt => [.tq]
  | .tq => []
  | .tl a => if a = .tq then [.tq] else (loo a).map .tl
  | .tx a => if a = .tq then [.tq] else (loo a).map .tx
  | .tf a b => if a = .tq ∧ b = .tq then [.tq] else (loo a).map (.tf · b) ++ (loo b).map (.tf a ·)
  | .tp a b => if a = .tq ∧ b = .tq then [.tq] else (loo a).map (.tp · b) ++ (loo b).map (.tp a ·)
/-- How much is known. -/
def kno : Ty → Nat
  | .ti | .tb | .tt => 1
  | .tq => 0
  | .tl a | .tx a => kno a + 1
  | .tf a b | .tp a b => kno a + kno b + 1
theorem kno_q {t : Ty} (h : kno t = 0) : t = .tq := by cases t <;> simp [kno] at h ⊢
theorem kno_len : ∀ t : Ty, kno t ≤ (enc t).length
  | .ti | .tb | .tt | .tq => by decide
  | .tl a | .tx a => by have := kno_len a; simp [kno, enc]; omega
  | .tf a b | .tp a b => by have := kno_len a; have := kno_len b; simp [kno, enc]; omega
theorem loo_kno : ∀ {t u : Ty}, u ∈ loo t → kno u + 1 = kno t := by
  intro t
  induction t with
  | ti | tb | tt | tq => intro u h; simp [loo] at h <;> subst h <;> rfl
  | tl a ih | tx a ih =>
    intro u h
    unfold loo at h
    split at h
    · rename_i e; subst e; simp at h; subst h; rfl
    · obtain ⟨x, hx, rfl⟩ := List.mem_map.1 h
      have := ih hx; simp [kno]; omega
  | tf a b iha ihb | tp a b iha ihb =>
    intro u h
    unfold loo at h
    split at h
    · rename_i e; obtain ⟨rfl, rfl⟩ := e; simp at h; subst h; rfl
    · rcases List.mem_append.1 h with h | h
      · obtain ⟨x, hx, rfl⟩ := List.mem_map.1 h
        have := iha hx; simp [kno]; omega
      · obtain ⟨x, hx, rfl⟩ := List.mem_map.1 h
        have := ihb hx; simp [kno]; omega
theorem loo_prc : ∀ {t u : Ty}, u ∈ loo t → prc t u = true := by
  intro t
  induction t with
  | ti | tb | tt | tq => intro u h; simp [loo] at h <;> subst h <;> rfl
  | tl a ih | tx a ih =>
    intro u h
    unfold loo at h
    split at h
    · rename_i e; subst e; simp at h; subst h; rfl
    · obtain ⟨x, hx, rfl⟩ := List.mem_map.1 h
      simpa [prc] using ih hx
  | tf a b iha ihb | tp a b iha ihb =>
    intro u h
    unfold loo at h
    split at h
    · rename_i e; obtain ⟨rfl, rfl⟩ := e; simp at h; subst h; rfl
    · rcases List.mem_append.1 h with h | h
      · obtain ⟨x, hx, rfl⟩ := List.mem_map.1 h
        simp [prc, iha hx, prc_refl]
      · obtain ⟨x, hx, rfl⟩ := List.mem_map.1 h
        simp [prc, ihb hx, prc_refl]
theorem prc_kno : ∀ {s t : Ty}, prc s t = true → kno t ≤ kno s := by
  intro s
  induction s with
  | ti | tb | tt | tq => intro t h; cases t <;> simp [prc, kno] at h ⊢
  | tl a ih | tx a ih => intro t h; cases t <;> simp [prc, kno] at h ⊢; exact ih h
  | tf a b iha ihb | tp a b iha ihb =>
    intro t h; cases t <;> simp [prc, kno] at h ⊢
    have := iha h.1; have := ihb h.2; omega
theorem loo_strict {t u : Ty} (h : u ∈ loo t) : prc u t = false := by
  cases e : prc u t with
  | false => rfl
  | true => have := prc_kno e; have := loo_kno h; omega
theorem prc_high : ∀ {s t : Ty}, prc s t = true → high t ≤ high s := by
  intro s
  induction s with
  | ti | tb | tt | tq => intro t h; cases t <;> simp [prc, high] at h ⊢
  | tl a ih | tx a ih => intro t h; cases t <;> simp [prc, high] at h ⊢; exact ih h
  | tf a b iha ihb | tp a b iha ihb =>
    intro t h; cases t <;> simp [prc, high] at h ⊢
    have := iha h.1; have := ihb h.2; omega
/-- What is not ? has a step looser. -/
theorem loo_some : ∀ {t : Ty}, t ≠ .tq → ∃ u, u ∈ loo t := by
  intro t
  induction t with
  | ti | tb | tt => intro _; exact ⟨.tq, by simp [loo]⟩
  | tq => intro h; exact absurd rfl h
  | tl a ih =>
    intro _
    by_cases e : a = .tq
    · exact ⟨.tq, by simp [loo, e]⟩
    · obtain ⟨u, hu⟩ := ih e
      exact ⟨.tl u, by simp [loo, e]; exact hu⟩
  | tx a ih =>
    intro _
    by_cases e : a = .tq
    · exact ⟨.tq, by simp [loo, e]⟩
    · obtain ⟨u, hu⟩ := ih e
      exact ⟨.tx u, by simp [loo, e]; exact hu⟩
  | tf a b iha ihb =>
    intro _
    by_cases e : a = .tq ∧ b = .tq
    · exact ⟨.tq, by simp [loo, e]⟩
    · by_cases ea : a = .tq
      · obtain ⟨u, hu⟩ := ihb (fun eb => e ⟨ea, eb⟩)
        exact ⟨.tf a u, by unfold loo; rw [if_neg e]; exact List.mem_append_right _ (List.mem_map.2 ⟨u, hu, rfl⟩)⟩
      · obtain ⟨u, hu⟩ := iha ea
        exact ⟨.tf u b, by unfold loo; rw [if_neg e]; exact List.mem_append_left _ (List.mem_map.2 ⟨u, hu, rfl⟩)⟩
  | tp a b iha ihb =>
    intro _
    by_cases e : a = .tq ∧ b = .tq
    · exact ⟨.tq, by simp [loo, e]⟩
    · by_cases ea : a = .tq
      · obtain ⟨u, hu⟩ := ihb (fun eb => e ⟨ea, eb⟩)
        exact ⟨.tp a u, by unfold loo; rw [if_neg e]; exact List.mem_append_right _ (List.mem_map.2 ⟨u, hu, rfl⟩)⟩
      · obtain ⟨u, hu⟩ := iha ea
        exact ⟨.tp u b, by unfold loo; rw [if_neg e]; exact List.mem_append_left _ (List.mem_map.2 ⟨u, hu, rfl⟩)⟩
/-- From a type a step looser leads towards each less precise one. -/
theorem loo_near : ∀ {s t : Ty}, prc s t = true → s ≠ t → ∃ u, u ∈ loo s ∧ prc u t = true := by
  intro s
  induction s with
  | ti | tb | tt | tq => intro t h hne; cases t <;> simp [prc, loo] at h hne ⊢
  | tl a ih =>
    intro t h hne
    cases t with
    | tq => obtain ⟨u, hu⟩ := loo_some (t := .tl a) (by simp); exact ⟨u, hu, prc_q u⟩
    | tl c =>
      simp [prc] at h hne
      obtain ⟨u, hu, hp⟩ := ih h hne
      have e : a ≠ .tq := by rintro rfl; simp [loo] at hu
      exact ⟨.tl u, by simp [loo, e]; exact hu, by simpa [prc] using hp⟩
    | _ => simp [prc] at h
  | tx a ih =>
    intro t h hne
    cases t with
    | tq => obtain ⟨u, hu⟩ := loo_some (t := .tx a) (by simp); exact ⟨u, hu, prc_q u⟩
    | tx c =>
      simp [prc] at h hne
      obtain ⟨u, hu, hp⟩ := ih h hne
      have e : a ≠ .tq := by rintro rfl; simp [loo] at hu
      exact ⟨.tx u, by simp [loo, e]; exact hu, by simpa [prc] using hp⟩
    | _ => simp [prc] at h
  | tf a b iha ihb =>
    intro t h hne
    cases t with
    | tq => obtain ⟨u, hu⟩ := loo_some (t := .tf a b) (by simp); exact ⟨u, hu, prc_q u⟩
    | tf c d =>
      simp [prc] at h hne
      by_cases ea : a = c
      · obtain ⟨u, hu, hp⟩ := ihb h.2 (hne ea)
        have e : ¬ (a = .tq ∧ b = .tq) := by rintro ⟨_, rfl⟩; simp [loo] at hu
        exact ⟨.tf a u, by unfold loo; rw [if_neg e]; exact List.mem_append_right _ (List.mem_map.2 ⟨u, hu, rfl⟩), by simp [prc, h.1, hp]⟩
      · obtain ⟨u, hu, hp⟩ := iha h.1 ea
        have e : ¬ (a = .tq ∧ b = .tq) := by rintro ⟨rfl, _⟩; simp [loo] at hu
        exact ⟨.tf u b, by unfold loo; rw [if_neg e]; exact List.mem_append_left _ (List.mem_map.2 ⟨u, hu, rfl⟩), by simp [prc, h.2, hp]⟩
    | _ => simp [prc] at h
  | tp a b iha ihb =>
    intro t h hne
    cases t with
    | tq => obtain ⟨u, hu⟩ := loo_some (t := .tp a b) (by simp); exact ⟨u, hu, prc_q u⟩
    | tp c d =>
      simp [prc] at h hne
      by_cases ea : a = c
      · obtain ⟨u, hu, hp⟩ := ihb h.2 (hne ea)
        have e : ¬ (a = .tq ∧ b = .tq) := by rintro ⟨_, rfl⟩; simp [loo] at hu
        exact ⟨.tp a u, by unfold loo; rw [if_neg e]; exact List.mem_append_right _ (List.mem_map.2 ⟨u, hu, rfl⟩), by simp [prc, h.1, hp]⟩
      · obtain ⟨u, hu, hp⟩ := iha h.1 ea
        have e : ¬ (a = .tq ∧ b = .tq) := by rintro ⟨rfl, _⟩; simp [loo] at hu
        exact ⟨.tp u b, by unfold loo; rw [if_neg e]; exact List.mem_append_left _ (List.mem_map.2 ⟨u, hu, rfl⟩), by simp [prc, h.2, hp]⟩
    | _ => simp [prc] at h
end Tp
end Go.Proofs.YthihnkgjkmaplaaGreatDoor.T3
namespace Go.Proofs.YthihnkgjkmaplaaGreatDoor.T3
set_option maxRecDepth 100000
open Go.RowKit

theorem toList_S (l : List UInt8) : (S l).toList = l := by rw [ByteArray.toList_eq]; rfl
namespace Tp
def isq (t : Ty) : Bool := decide (t = .tq)
theorem isq_S (t : Ty) : ((S (enc t)).toList == [63]) = isq t := by
  rw [toList_S]
  cases t <;> simp [enc, isq]
end Tp

set_option maxHeartbeats 1000000 in
theorem rcheck_any (v : Value) (ps : List (List UInt8)) (w : World) (hv : IsTexts w v ps) (hp : ps.length ≤ 2) :
    Calls Tryz.prog 130 #[v] w fun e w' => e = .returned (.int .i64 (Tp.firstBad ps)) ∧ w' = w := by
  obtain ⟨a, c, rfl⟩ : ∃ a c, v = .slice a ps.length c := by
    rcases hv with ⟨rfl, a, c, rfl⟩ | ⟨b, o, c, rfl, _⟩
    · exact ⟨a, c, rfl⟩
    · exact ⟨_, c, rfl⟩
  go_enter Tryz.func130, Tryz.ntmps130
  go_wp2_with fail
  go_loopg [9] ps.length (fun g t wr => w = wr ∧ ∃ k : Nat, k + g = ps.length ∧ t = .int .i64 k ∧ Aside (Tp.firstBad (ps.take k) = 0))
  case atStart => exact ⟨rfl, 0, by omega, rfl, rfl⟩
  case round =>
    obtain ⟨rfl, k, hkg, rfl, HF⟩ := hrel
    by_cases hk : k < ps.length
    · have hk' : (k : Int) < (ps.length : Int) := by omega
      obtain ⟨b, o, c, hsl, hcap, hbl, hcell⟩ : ∃ b o c', Value.slice a ps.length c = .slice (some ⟨b, o, none⟩) ps.length c' ∧ ps.length ≤ c' ∧ b < w.heap.size ∧ ∀ j p, ps[j]? = some p → w.cell? ⟨b, o + j, none⟩ = some (.string (S p)) := by
        rcases hv with ⟨rfl, _⟩ | h
        · simp at hk
        · exact h
      obtain ⟨rfl, rfl⟩ : a = some ⟨b, o, none⟩ ∧ _ := by simpa using hsl
      have hck := hcell k _ (List.getElem?_eq_getElem hk)
      have HT : Aside (ps.take (k + 1) = ps.take k ++ [ps[k]]) := List.take_succ_eq_append_getElem hk
      generalize hpk : ps[k] = q at *
      clear hcell
      by_cases hq : (Tp.chk q).1 = 0
      · have hq' : (((Tp.chk (S q).data.toList).1 : Int) != 0) = false := by rw [S_list]; simpa using hq
        have HF2 : Aside (Tp.firstBad (ps.take (k + 1)) = 0) := by
          show _ = _
          rw [HT.out, Tp.firstBad_app _ _ HF.out, Tp.firstBad, if_pos hq]; rfl
        go_wp2_with (go_at_call 48; refine (check_any _ _).mono ?_; rintro e w' ⟨rfl, hw'⟩; replace hw' := hw'.symm; subst hw')
        go_roundg (gk - 1)
        case measure => omega
        case rel => exact ⟨rfl, k + 1, by omega, by go_num, HF2⟩
      · have hq' : (((Tp.chk (S q).data.toList).1 : Int) != 0) = true := by rw [S_list]; simpa using hq
        have HN : Aside (Tp.firstBad ps = (Tp.chk q).1) := by
          show _ = _
          have h1 : ps = ps.take k ++ (q :: ps.drop (k + 1)) := by
            rw [← hpk, ← List.drop_eq_getElem_cons hk, List.take_append_drop]
          rw [h1, Tp.firstBad_app _ _ HF.out, Tp.firstBad, if_neg hq]
        go_wp2_with (go_at_call 48; refine (check_any _ _).mono ?_; rintro e w' ⟨rfl, rfl⟩)
        go_ret
        rw [HN.out]
        exact ⟨rfl, rfl⟩
    · have hk' : decide ((k : Int) < (ps.length : Int)) = false := by simp; omega
      obtain rfl : k = ps.length := by omega
      rw [List.take_length] at HF
      go_wp2_with fail
      go_ret
      rw [HF.out]
      exact ⟨rfl, rfl⟩

set_option maxHeartbeats 400000 in
theorem cons1_any (a b : Tp.Ty) (w : World) :
    Calls Tryz.prog 128 #[.string (S (Tp.enc a)), .string (S (Tp.enc b))] w fun e w' => e = .returned (.bool (Tp.isq a || Tp.isq b)) ∧ w' = w := by
  rw [← Tp.isq_S a, ← Tp.isq_S b]
  generalize S (Tp.enc a) = s at *
  generalize S (Tp.enc b) = t at *
  go_enter Tryz.func128, Tryz.ntmps128
  go_wp2
  all_goals
    go_ret
    refine ⟨ret_bool ?_, rfl⟩
    simp_all
set_option maxHeartbeats 400000 in
theorem meet1_any (a b : Tp.Ty) (w : World) :
    Calls Tryz.prog 149 #[.string (S (Tp.enc a)), .string (S (Tp.enc b))] w fun e w' => e = .returned (.tuple #[.string (if Tp.isq a then S (Tp.enc b) else S (Tp.enc a)), .bool (Tp.isq a || Tp.isq b)]) ∧ w' = w := by
  have ha := Tp.isq_S a
  have hb := Tp.isq_S b
  generalize S (Tp.enc a) = s at *
  generalize S (Tp.enc b) = t at *
  by_cases h : s.toList = [63]
  · have e : Tp.isq a = true := by rw [← ha]; simpa using h
    rw [e]
    clear ha
    go_enter Tryz.func149, Tryz.ntmps149
    go_wp2
    go_ret2
    exact ⟨rfl, rfl⟩
  · have e : Tp.isq a = false := by rw [← ha]; simpa using h
    have h' : (s.toList == [63]) = false := by simpa using h
    rw [e, ← hb]
    clear ha hb h
    go_enter Tryz.func149, Tryz.ntmps149
    go_wp2
    go_ret2
    exact ⟨rfl, rfl⟩
end Go.Proofs.YthihnkgjkmaplaaGreatDoor.T3
