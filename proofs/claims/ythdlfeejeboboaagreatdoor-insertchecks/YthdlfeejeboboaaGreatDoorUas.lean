/- Package check: kidOf of a Fn. Package check: kidOf of a Fn and a Rec. -/
import Derived.Test.YthdlfeejeboboaaGreatDoorUar
namespace Go.Proofs.YthdlfeejeboboaaGreatDoor
open Go.RowKit Ck
open T3.Tp (Ty enc cns met)
set_option maxRecDepth 100000
set_option linter.unusedSimpArgs false

def wrS (s : ByteArray) : ByteArray := if s.size = 0 then ⟨#[63]⟩ else s
theorem writ_any (s : ByteArray) (w : World) : Calls Tryz.prog 140 #[.string s] w fun e w' => e = .returned (.string (wrS s)) ∧ w' = w := written_any s w
theorem Kb.tb {w w1 : World} {cb tb : Nat} {sv iv : Value} {x : Tr.Nd} (h : Kb w w1 cb sv iv x) (ht : tb < w.heap.size) (i : Nat) (u : Value) : Kb w (w1.setCell ⟨tb, i, none⟩ u) cb sv iv x := by
  have hne : ∀ k, k ≠ tb → (w1.setCell ⟨tb, i, none⟩ u).heap[k]? = w1.heap[k]? := fun k hk => Below.heap_setCell _ _ _ _ hk
  exact ⟨by simpa [World.setCell] using h.size, (hne _ (by omega)).trans h.c, (hne _ (by omega)).trans h.a, (hne _ (by omega)).trans h.n, (hne _ (by omega)).trans h.i⟩
structure Kf (w w' : World) (cb tb i : Nat) (t : Ty) : Prop where
  two : Two cb tb w w'
  cb : w'.heap[cb]? = w.heap[cb]?
  ty : w'.cell? ⟨tb, i, none⟩ = some (.string (S (enc t)))
  else' : ∀ k, k ≠ i → w'.cell? ⟨tb, k, none⟩ = w.cell? ⟨tb, k, none⟩
  tz : ∀ q, w'.frozen? ⟨tb, q, none⟩ = w.frozen? ⟨tb, q, none⟩
  rwo : ∀ n, Rw w tb n → Rw w' tb n
theorem Kf.later {w w1 w2 : World} {cb tb i : Nat} {t : Ty} (h : Kf w w1 cb tb i t) (hc : cb < w.heap.size) (ht : tb < w.heap.size) (hB : Below w.heap.size w1 w2) : Kf w w2 cb tb i t := by
  have hb : ∀ k, k < w.heap.size → w2.heap[k]? = w1.heap[k]? := hB.block
  refine ⟨⟨hB.os.trans h.two.os, hB.tape.trans h.two.tape, hB.output.trans h.two.output, Nat.le_trans h.two.size hB.size, fun k hk a b => (hb k hk).trans (h.two.block k hk a b)⟩, (hb _ hc).trans h.cb, (World.cell?_of_block (hb tb ht)).trans h.ty, fun k hk => (World.cell?_of_block (hb tb ht)).trans (h.else' k hk), fun q => ?_, fun n hn => (h.rwo n hn).same (hb _ ht)⟩
  rw [← h.tz q]; unfold World.frozen?; rw [hb _ ht]
theorem Kf.made {w w1 : World} {cb tb i : Nat} {t : Ty} (hB : Below w.heap.size w w1) (hc : cb < w.heap.size) (ht : tb < w.heap.size) (hne : cb ≠ tb) (hs : ∃ s, w.cell? ⟨tb, i, none⟩ = some (.string s)) : Kf w (w1.setCell ⟨tb, i, none⟩ (.string (S (enc t)))) cb tb i t := by
  obtain ⟨s, hs⟩ := hs
  have h1 : w1.cell? ⟨tb, i, none⟩ = some (.string s) := (hB.cell (p := ⟨tb, i, none⟩) ht).trans hs
  refine ⟨⟨hB.os, hB.tape, hB.output, by simpa [World.setCell] using hB.size, fun k hk _ b => (Below.heap_setCell _ _ _ _ b).trans (hB.block k hk)⟩, (Below.heap_setCell _ _ _ _ hne).trans (hB.block _ hc), ?_, fun k hk => ?_, fun q => ?_, fun n hn => (hn.same (hB.block _ ht)).set _ _⟩
  · simp [go_sem, h1]
  · have := World.cell?_setCell_other (w := w1) (a := ⟨tb, i, none⟩) (b := ⟨tb, k, none⟩) (v := .string (S (enc t))) (fun h => hk (by cases h; rfl))
    exact this.trans (hB.cell (p := ⟨tb, k, none⟩) ht)
  · have e : w1.frozen? ⟨tb, q, none⟩ = w.frozen? ⟨tb, q, none⟩ := by unfold World.frozen?; rw [hB.block _ ht]
    rw [← e]; simp [go_sem]

set_option maxHeartbeats 8000000 in
theorem kidOf_fn (B : Nat) (w : World) (cb tb i i' : Nat) (nv sv : Value) (l : List Tr.Nd) (x : Tr.Nd) (hx : l[i]? = some x) (hSt : St B w cb tb nv l i') (env : Env) (hS : Scope cb tb w sv env) (hk : x.kind = 5) (hT : wrS x.t = S (enc (wr x.t))) (hU : wrS x.u = S (enc (wr x.u))) (hT64 : (enc (wr x.t)).length ≤ 64) (hU64 : (enc (wr x.u)).length ≤ 64) :
    Calls Tryz.prog 81 #[.pointer (some ⟨cb, 0, none⟩), .int .i64 (i : Int), sv] w fun e w' => (64 < (enc (.tf (wr x.t) (wr x.u))).length ∧ e = .returned (.tuple #[.nilFunc, .int .i64 21]) ∧ Below w.heap.size w w') ∨ ((enc (.tf (wr x.t) (wr x.u))).length ≤ 64 ∧ ∃ iv, e = .returned (.tuple #[.func (.func 142) #[] #[.pointer (some ⟨w.heap.size + 2, 0, none⟩), .pointer (some ⟨w.heap.size, 0, none⟩), .pointer (some ⟨w.heap.size + 1, 0, none⟩), .pointer (some ⟨w.heap.size + 3, 0, none⟩)], .int .i64 0]) ∧ Kb w w' cb sv iv x ∧ Scope cb tb w' iv ((Tr.nm x, wr x.t) :: env) ∧ Kf w w' cb tb i (.tf (wr x.t) (wr x.u))) := by
  obtain ⟨nb, no, nc, rfl, hnb, hnd⟩ := hSt.nod.at hx
  have hil : i < l.length := (List.getElem?_eq_some_iff.1 hx).1
  have hil' : (i : Int) < (l.length : Int) := by omega
  have n0 : w.cell? ⟨cb, 0, none⟩ = some (.slice (some ⟨nb, no, none⟩) l.length nc) := hSt.nod.1
  have hcb : cb < w.heap.size := World.block_lt_of_cell? _ _ n0
  have htb : tb < w.heap.size := by have := hSt.lt; omega
  obtain ⟨F, caps, hsvv⟩ : ∃ F caps, sv = .func (.func F) #[] caps := by obtain ⟨F, caps, h, _⟩ := hS; exact ⟨F, caps, h⟩
  subst hsvv
  have hA : ∀ o1 o2, Below w.heap.size w ((w.alloc o1).alloc o2) := fun o1 o2 => ((Below.refl _ _).alloc (Nat.le_refl _) o1).alloc (by simp) o2
  have e0 : ∀ o1 o2, ((w.alloc o1).alloc o2).cell? ⟨cb, 0, none⟩ = some (.slice (some ⟨nb, no, none⟩) l.length nc) := fun o1 o2 => ((hA o1 o2).cell hcb).trans n0
  have q0 : ∀ o1 o2, ((w.alloc o1).alloc o2).cell? ⟨nb, no + i * 8, none⟩ = some (.int .i8 x.kind) := fun o1 o2 => ((hA o1 o2).cell hnb).trans (hnd 0 _ rfl)
  have q1 : ∀ o1 o2, ((w.alloc o1).alloc o2).cell? ⟨nb, no + i * 8 + 1, none⟩ = some (.int .i64 x.kids) := fun o1 o2 => ((hA o1 o2).cell hnb).trans (hnd 1 _ rfl)
  have q2 : ∀ o1 o2, ((w.alloc o1).alloc o2).cell? ⟨nb, no + i * 8 + 2, none⟩ = some (.int .i64 x.n) := fun o1 o2 => ((hA o1 o2).cell hnb).trans (hnd 2 _ rfl)
  have q3 : ∀ o1 o2, ((w.alloc o1).alloc o2).cell? ⟨nb, no + i * 8 + 3, none⟩ = some (.string x.s) := fun o1 o2 => ((hA o1 o2).cell hnb).trans (hnd 3 _ rfl)
  have q4 : ∀ o1 o2, ((w.alloc o1).alloc o2).cell? ⟨nb, no + i * 8 + 4, none⟩ = some (.string x.t) := fun o1 o2 => ((hA o1 o2).cell hnb).trans (hnd 4 _ rfl)
  have q5 : ∀ o1 o2, ((w.alloc o1).alloc o2).cell? ⟨nb, no + i * 8 + 5, none⟩ = some (.string x.u) := fun o1 o2 => ((hA o1 o2).cell hnb).trans (hnd 5 _ rfl)
  have q6 : ∀ o1 o2, ((w.alloc o1).alloc o2).cell? ⟨nb, no + i * 8 + 6, none⟩ = some (.int .i64 x.ln) := fun o1 o2 => ((hA o1 o2).cell hnb).trans (hnd 6 _ rfl)
  have q7 : ∀ o1 o2, ((w.alloc o1).alloc o2).cell? ⟨nb, no + i * 8 + 7, none⟩ = some (.int .i64 x.co) := fun o1 o2 => ((hA o1 o2).cell hnb).trans (hnd 7 _ rfl)
  have hty : w.cell? ⟨cb, 1, none⟩ = some (.slice (some ⟨tb, 0, none⟩) l.length l.length) := hSt.typ
  have hstr := hSt.str i hil
  have htz := hSt.tz
  have hne := hSt.ne
  have hsf := fun a (w : World) => T3.store_func a (.func F) #[] caps w
  have hK0 := Kb.made w cb (.func (.func F) #[] caps) x
  have hB4 : Below w.heap.size w ((((w.alloc (.cells #[.pointer (some ⟨cb, 0, none⟩)] 165)).alloc (.cells #[.func (.func F) #[] caps] 90)).alloc (.cells (ndc x) 72)).alloc (.cells #[.func (.func F) #[] caps] 90)) := (((((Below.refl _ _).alloc (Nat.le_refl _) _).alloc (by simp) _).alloc (by simp; omega) _).alloc (by simp; omega) _)
  have HK0 : Aside _ := hK0
  have HB4 : Aside _ := hB4
  clear hSt hnd n0 hA hK0 hB4
  go_enter Tryz.func81, Tryz.ntmps81
  go_upto_region 2 with fail
  go_cut [9, 10] (fun s9 s10 wc => s9 = .pointer (some ⟨w.heap.size + 3, 0, none⟩) ∧ s10 = .string x.s ∧ Kb w wc cb (.func (.func F) #[] caps) (.func (.func F) #[] caps) x ∧ Below w.heap.size w wc)
  case first =>
    go_region
    all_goals
      go_wp2_with fail
      go_meet
      case rel =>
        have hh := HK0.out
        have hb := HB4.out
        unfold ndc at hh hb
        rw [hk] at hh hb
        exact ⟨rfl, rfl, hh.same rfl, ⟨hb.os, hb.tape, hb.output, hb.size, hb.block⟩⟩
  case rest =>
    obtain ⟨rfl, rfl, hKb, hBc⟩ := hcut
    obtain ⟨c0, c1, c2, c3, c4, c5, c6, cz⟩ := hKb.cells
    clear e0 q0 q1 q2 q3 q4 q5 q6 q7 HK0 HB4
    have hz := hKb.size
    have HM : Calls Tryz.prog 139 #[.int .u8 62, .slice (some ⟨wc.heap.size, 0, none⟩) 2 2] (wc.alloc (.cells #[.string (wrS x.t), .string (wrS x.u)] 9)).drew fun e w' => e = .returned (.tuple #[.string (S (if (enc (.tf (wr x.t) (wr x.u))).length ≤ 64 then ((0 : Nat), enc (.tf (wr x.t) (wr x.u))) else (21, [])).2), .int .i64 ((if (enc (.tf (wr x.t) (wr x.u))).length ≤ 64 then ((0 : Nat), enc (.tf (wr x.t) (wr x.u))) else (21, [])).1 : Nat)]) ∧ Below (wc.alloc (.cells #[.string (wrS x.t), .string (wrS x.u)] 9)).drew.heap.size (wc.alloc (.cells #[.string (wrS x.t), .string (wrS x.u)] 9)).drew w' := by
      rw [← mkF_of (.tf (wr x.t) (wr x.u)) (by intro u hu; simp [T3.Tp.kids] at hu; rcases hu with rfl | rfl <;> assumption), hT, hU]
      exact T3.make_any 62 _ [enc (wr x.t), enc (wr x.u)] _ (T3.texts2 wc (enc (wr x.t)) (enc (wr x.u))) (by simp)
    obtain ⟨ec, ey, hxy⟩ : ∃ (ec : Nat) (ey : List UInt8), (ec, ey) = (if (enc (.tf (wr x.t) (wr x.u))).length ≤ 64 then ((0 : Nat), enc (.tf (wr x.t) (wr x.u))) else (21, [])) := ⟨_, _, rfl⟩
    rw [← hxy] at HM
    simp only at HM
    have HXY : Aside _ := hxy
    have HZ : Aside (∀ w1, Below (wc.alloc (.cells #[.string (wrS x.t), .string (wrS x.u)] 9)).drew.heap.size (wc.alloc (.cells #[.string (wrS x.t), .string (wrS x.u)] 9)).drew w1 → Kb w w1 cb (.func (.func F) #[] caps) (.func (.func F) #[] caps) x ∧ Below w.heap.size w w1 ∧ (w1.cell? ⟨w.heap.size + 2, 4, none⟩ = some (.string x.t) ∧ w1.cell? ⟨w.heap.size + 2, 5, none⟩ = some (.string x.u))) := fun w1 h => by
      have h' : Below wc.heap.size wc w1 := below_unalloc (o := .cells #[.string (wrS x.t), .string (wrS x.u)] 9) ⟨h.os, h.tape, h.output, h.size, h.block⟩
      have hk1 := hKb.later h'
      exact ⟨hk1, hBc.trans (h'.mono hBc.size), hk1.cells.2.2.2.2.1, hk1.cells.2.2.2.2.2.1⟩
    have hA9 : (wc.alloc (.cells #[.string (wrS x.t), .string (wrS x.u)] 9)).cell? ⟨w.heap.size + 2, 4, none⟩ = some (.string x.t) ∧ (wc.alloc (.cells #[.string (wrS x.t), .string (wrS x.u)] 9)).cell? ⟨w.heap.size + 2, 5, none⟩ = some (.string x.u) := by
      have hk1 := (hKb.later ((Below.refl _ _).alloc (Nat.le_refl _) (.cells #[.string (wrS x.t), .string (wrS x.u)] 9))).cells
      exact ⟨hk1.2.2.2.2.1, hk1.2.2.2.2.2.1⟩
    have HTT : Aside _ := hT
    clear hxy hT hU
    generalize hsy : S ey = sy at *
    go_upto_region 6 with fail
    go_cut [11, 12] (fun s11 s12 w2 => s11 = .string sy ∧ s12 = .int .i64 (ec : Int) ∧ Kb w w2 cb (.func (.func F) #[] caps) (.func (.func F) #[] caps) x ∧ Below w.heap.size w w2)
    case first =>
      go_region_held (fun W => W.cell? ⟨w.heap.size + 2, 4, none⟩ = some (.string x.t) ∧ W.cell? ⟨w.heap.size + 2, 5, none⟩ = some (.string x.u)) (first | exact d45 | exact ⟨c4, c5⟩ | exact hA9 | go_keep) (first | (go_at_call 140; refine (writ_any _ _).mono ?_; rintro e w9 ⟨rfl, hw9⟩; replace hw9 := hw9.symm; subst hw9) | (go_at_call 139; refine HM.mono ?_; rintro e w1 ⟨rfl, hB1⟩; obtain ⟨hKe, hBe, d45⟩ := HZ.out w1 hB1))
      all_goals
        go_wp2_with fail
        go_meet
        case rel => exact ⟨rfl, rfl, hKe, hBe⟩
    case rest =>
      obtain ⟨rfl, rfl, hK2, hB2⟩ := hcut
      obtain ⟨c0, c1, c2, c3, c4, c5, c6, cz⟩ := hK2.cells
      by_cases hbig : 64 < (enc (.tf (wr x.t) (wr x.u))).length
      · obtain rfl : ec = 21 := by have h := HXY.out; rw [if_neg (by omega)] at h; exact congrArg Prod.fst h
        clear hS HTT HXY HZ HM hstr htz
        go_wp2_with fail
        go_ret2
        exact .inl ⟨hbig, rfl, hB2⟩
      have hle : (enc (.tf (wr x.t) (wr x.u))).length ≤ 64 := by omega
      obtain ⟨rfl, rfl⟩ : ec = 0 ∧ sy = S (enc (.tf (wr x.t) (wr x.u))) := by
        have h := HXY.out; rw [if_pos hle] at h
        exact ⟨congrArg Prod.fst h, by rw [← hsy]; exact congrArg (fun p => S p.2) h⟩
      clear HXY HZ HM
      have hKf := Kf.made (t := (.tf (wr x.t) (wr x.u))) hB2 hcb htb hne hstr
      obtain ⟨s0, hs0⟩ := hstr
      have t0 := (hB2.cell (p := ⟨tb, i, none⟩) htb).trans hs0
      have tz : ∀ q, wc.frozen? ⟨tb, q, none⟩ = false := fun q => by rw [← htz q]; unfold World.frozen?; rw [hB2.block _ htb]
      have ty := (hB2.cell (p := ⟨cb, 1, none⟩) hcb).trans hty
      obtain ⟨w3, hw3⟩ : ∃ w3, w3 = wc.setCell ⟨tb, i, none⟩ (.string (S (enc (.tf (wr x.t) (wr x.u))))) := ⟨_, rfl⟩
      have hK3 : Kb w w3 cb (.func (.func F) #[] caps) (.func (.func F) #[] caps) x := by rw [hw3]; exact hK2.tb htb i _
      rw [← hw3] at hKf
      have hz3 := hK3.size
      obtain ⟨a0, a1, a2, a3, a4, a5, a6, az⟩ := hK3.cells
      have HE : Aside (∀ w1 v env', Below w3.drew.heap.size w3.drew w1 → Far cb tb w w3.drew w1 v env' → (w1.cell? ⟨w.heap.size + 2, 4, none⟩ = some (.string x.t) ∧ w1.cell? ⟨w.heap.size + 3, 0, none⟩ = some (.func (.func F) #[] caps) ∧ (∀ q, w1.frozen? ⟨w.heap.size + 3, q, none⟩ = false)) ∧ Kb w (w1.setCell ⟨w.heap.size + 3, 0, none⟩ v) cb (.func (.func F) #[] caps) v x ∧ Scope cb tb (w1.setCell ⟨w.heap.size + 3, 0, none⟩ v) v env' ∧ Kf w (w1.setCell ⟨w.heap.size + 3, 0, none⟩ v) cb tb i (.tf (wr x.t) (wr x.u))) := fun w1 v env' h hsc => by
        have h' : Below w3.heap.size w3 w1 := ⟨h.os, h.tape, h.output, h.size, h.block⟩
        have hk1 := hK3.later h'
        obtain ⟨-, -, -, -, a4, -, a6, az⟩ := hk1.cells
        have hB3 : Below w.heap.size w3 (w1.setCell ⟨w.heap.size + 3, 0, none⟩ v) := (h'.mono (by omega)).setCell (by show w.heap.size ≤ w.heap.size + 3; omega) v
        have hKe := hKf.later hcb htb hB3
        refine ⟨⟨a4, a6, az⟩, hk1.set v, ?_, hKe⟩
        exact hsc.2 _ hKe.two (fun k h1 _ => Below.heap_setCell _ _ _ _ (by have e : w3.drew.heap.size = w3.heap.size := rfl; show k ≠ w.heap.size + 3; omega)) (by simpa [World.setCell] using hsc.1.1)
      have HWI := with_far cb tb w w3.drew (.func (.func F) #[] caps) env x.s (wr x.t) hS (by show cb < w3.heap.size; omega) (by show tb < w3.heap.size; omega)
      rw [← HTT.out] at HWI
      clear HTT hS hKf
      have HWT := writ_any x.t
      generalize wrS x.t = sT at *
      go_upto_region 13 with fail
      rw [← hw3]
      clear hw3 t0 tz ty hs0
      go_region_with (first | (go_at_call 140; refine (HWT _).mono ?_; rintro e w9 ⟨rfl, hw9⟩; replace hw9 := hw9.symm; subst hw9) | (go_at_call 141; refine HWI.mono ?_; rintro e w1 ⟨v, rfl, hSc, hB1⟩; obtain ⟨⟨d4, d6, dz⟩, hKe, hSe, hFe⟩ := HE.out w1 v _ hB1 hSc; obtain ⟨F2, caps2, rfl⟩ := hSc.1.2; have hsf2 := fun a (w : World) => T3.store_func a (.func F2) #[] caps2 w))
      all_goals
        go_wp2_with fail
        go_ret2
        exact .inr ⟨hle, _, rfl, hKe, hSe, hFe⟩
end Go.Proofs.YthdlfeejeboboaaGreatDoor
namespace Go.Proofs.YthdlfeejeboboaaGreatDoor
open Go.RowKit Ck
open T3.Tp (Ty enc cns met)
set_option maxRecDepth 100000
set_option linter.unusedSimpArgs false

set_option maxHeartbeats 1000000 in
theorem with_of (a b : Nat) (w : World) (P : World → Prop) (v : Value) (env : Env) (n : ByteArray) (t : Ty) (hv : ∃ F caps, v = .func (.func F) #[] caps ∧ ∀ args w, (callFunc F args).run Tryz.prog w = .ok (.enter F args) w) (hP : ∀ w2, P w2 → Scope a b w2 v env) (ha : a < w.heap.size) (hb : b < w.heap.size) :
    Calls Tryz.prog 141 #[v, .string n, .string (S (enc t))] w fun e w' => ∃ v', e = .returned v' ∧ ((w.heap.size + 3 ≤ w'.heap.size ∧ ∃ F caps, v' = .func (.func F) #[] caps ∧ ∀ args w, (callFunc F args).run Tryz.prog w = .ok (.enter F args) w) ∧ ∀ w2, P w2 → (∀ k, w.heap.size ≤ k → k < w.heap.size + 3 → w2.heap[k]? = w'.heap[k]?) → w.heap.size + 3 ≤ w2.heap.size → Scope a b w2 v' ((n.data.toList, t) :: env)) ∧ Below w.heap.size w w' := by
  obtain ⟨F, caps, rfl, hE⟩ := hv
  have hB : Below w.heap.size w (((w.alloc (.cells #[.func (.func F) #[] caps] 90)).alloc (.cells #[.string n] 9)).alloc (.cells #[.string (S (enc t))] 9)) := (((Below.refl _ _).alloc (Nat.le_refl _) _).alloc (by simp) _).alloc (by simp; omega) _
  have k0 : (((w.alloc (.cells #[.func (.func F) #[] caps] 90)).alloc (.cells #[.string n] 9)).alloc (.cells #[.string (S (enc t))] 9)).cell? ⟨w.heap.size, 0, none⟩ = some (.func (.func F) #[] caps) := T3.cell_old rfl (by simp; omega) (T3.cell_old rfl (by simp) (T3.cell_new rfl rfl))
  have k1 : (((w.alloc (.cells #[.func (.func F) #[] caps] 90)).alloc (.cells #[.string n] 9)).alloc (.cells #[.string (S (enc t))] 9)).cell? ⟨w.heap.size + 1, 0, none⟩ = some (.string n) := T3.cell_old rfl (by simp) (T3.cell_new rfl (by simp))
  have k2 : (((w.alloc (.cells #[.func (.func F) #[] caps] 90)).alloc (.cells #[.string n] 9)).alloc (.cells #[.string (S (enc t))] 9)).cell? ⟨w.heap.size + 2, 0, none⟩ = some (.string (S (enc t))) := T3.cell_new rfl (by simp)
  have hz : (((w.alloc (.cells #[.func (.func F) #[] caps] 90)).alloc (.cells #[.string n] 9)).alloc (.cells #[.string (S (enc t))] 9)).heap.size = w.heap.size + 3 := by simp
  have HS : Aside (∀ W, W = (((w.alloc (.cells #[.func (.func F) #[] caps] 90)).alloc (.cells #[.string n] 9)).alloc (.cells #[.string (S (enc t))] 9)) → Below w.heap.size w W ∧ ((w.heap.size + 3 ≤ W.heap.size ∧ ∃ F' caps', (.func (.func 172) #[] #[.pointer (some ⟨w.heap.size + 1, 0, none⟩), .pointer (some ⟨w.heap.size + 2, 0, none⟩), .pointer (some ⟨w.heap.size, 0, none⟩)] : Value) = .func (.func F') #[] caps' ∧ ∀ args w, (callFunc F' args).run Tryz.prog w = .ok (.enter F' args) w) ∧ ∀ w2, P w2 → (∀ k, w.heap.size ≤ k → k < w.heap.size + 3 → w2.heap[k]? = W.heap[k]?) → w.heap.size + 3 ≤ w2.heap.size → Scope a b w2 (.func (.func 172) #[] #[.pointer (some ⟨w.heap.size + 1, 0, none⟩), .pointer (some ⟨w.heap.size + 2, 0, none⟩), .pointer (some ⟨w.heap.size, 0, none⟩)]) ((n.data.toList, t) :: env))) := by
    intro W hW
    rw [← hW] at hB k0 k1 k2 hz
    refine ⟨hB, ⟨by omega, _, _, rfl, enters_with1⟩, fun w2 h2 hk hz2 => ⟨_, _, rfl, enters_with1, fun w' hw m hm => ?_⟩⟩
    have hc : ∀ k, w.heap.size ≤ k → k < w.heap.size + 3 → w'.cell? ⟨k, 0, none⟩ = W.cell? ⟨k, 0, none⟩ := fun k hk1 hk2 =>
      (hw.cell (p := ⟨k, 0, none⟩) (by show k < _; omega) (by show k ≠ a; omega) (by show k ≠ b; omega)).trans (World.cell?_of_block (hk k hk1 hk2))
    obtain ⟨F', caps', hv', _, hC⟩ := hP w2 h2
    obtain ⟨rfl, rfl⟩ : F = F' ∧ caps = caps' := by simpa using hv'
    exact with1_any w' _ _ _ F caps n m t env hE ((hc _ (by omega) (by omega)).trans k1) ((hc _ (by omega) (by omega)).trans k2) ((hc _ (by omega) (by omega)).trans k0) (hC w' hw m hm)
  clear hB k0 k1 k2 hz hE hP
  generalize S (enc t) = st at *
  go_enter Tryz.func141, Tryz.ntmps141
  go_wp2_with fail
  go_ret
  have := HS.out _ rfl
  exact ⟨_, rfl, this.2, this.1⟩

set_option maxHeartbeats 8000000 in
theorem kidOf_rec (B : Nat) (w : World) (cb tb i i' : Nat) (nv sv : Value) (l : List Tr.Nd) (x : Tr.Nd) (hx : l[i]? = some x) (hSt : St B w cb tb nv l i') (env : Env) (hS : Scope cb tb w sv env) (hk : x.kind = 6) (hT : wrS x.t = S (enc (wr x.t))) (hU : wrS x.u = S (enc (wr x.u))) (hT64 : (enc (wr x.t)).length ≤ 64) (hU64 : (enc (wr x.u)).length ≤ 64) (hs : x.s.size ≤ maxLen) :
    Calls Tryz.prog 81 #[.pointer (some ⟨cb, 0, none⟩), .int .i64 (i : Int), sv] w fun e w' => (64 < (enc (.tf (wr x.t) (wr x.u))).length ∧ e = .returned (.tuple #[.nilFunc, .int .i64 21]) ∧ Below w.heap.size w w') ∨ ((enc (.tf (wr x.t) (wr x.u))).length ≤ 64 ∧ ∃ iv, e = .returned (.tuple #[.func (.func 142) #[] #[.pointer (some ⟨w.heap.size + 2, 0, none⟩), .pointer (some ⟨w.heap.size, 0, none⟩), .pointer (some ⟨w.heap.size + 1, 0, none⟩), .pointer (some ⟨w.heap.size + 3, 0, none⟩)], .int .i64 0]) ∧ Kb w w' cb sv iv x ∧ Scope cb tb w' iv (((Tr.cut32 (Tr.nm x)).2.1, wr x.t) :: ((Tr.cut32 (Tr.nm x)).1, .tf (wr x.t) (wr x.u)) :: env) ∧ Kf w w' cb tb i (.tf (wr x.t) (wr x.u))) := by
  obtain ⟨nb, no, nc, rfl, hnb, hnd⟩ := hSt.nod.at hx
  have hil : i < l.length := (List.getElem?_eq_some_iff.1 hx).1
  have hil' : (i : Int) < (l.length : Int) := by omega
  have n0 : w.cell? ⟨cb, 0, none⟩ = some (.slice (some ⟨nb, no, none⟩) l.length nc) := hSt.nod.1
  have hcb : cb < w.heap.size := World.block_lt_of_cell? _ _ n0
  have htb : tb < w.heap.size := by have := hSt.lt; omega
  obtain ⟨F, caps, hsvv⟩ : ∃ F caps, sv = .func (.func F) #[] caps := by obtain ⟨F, caps, h, _⟩ := hS; exact ⟨F, caps, h⟩
  subst hsvv
  have hA : ∀ o1 o2, Below w.heap.size w ((w.alloc o1).alloc o2) := fun o1 o2 => ((Below.refl _ _).alloc (Nat.le_refl _) o1).alloc (by simp) o2
  have e0 : ∀ o1 o2, ((w.alloc o1).alloc o2).cell? ⟨cb, 0, none⟩ = some (.slice (some ⟨nb, no, none⟩) l.length nc) := fun o1 o2 => ((hA o1 o2).cell hcb).trans n0
  have q0 : ∀ o1 o2, ((w.alloc o1).alloc o2).cell? ⟨nb, no + i * 8, none⟩ = some (.int .i8 x.kind) := fun o1 o2 => ((hA o1 o2).cell hnb).trans (hnd 0 _ rfl)
  have q1 : ∀ o1 o2, ((w.alloc o1).alloc o2).cell? ⟨nb, no + i * 8 + 1, none⟩ = some (.int .i64 x.kids) := fun o1 o2 => ((hA o1 o2).cell hnb).trans (hnd 1 _ rfl)
  have q2 : ∀ o1 o2, ((w.alloc o1).alloc o2).cell? ⟨nb, no + i * 8 + 2, none⟩ = some (.int .i64 x.n) := fun o1 o2 => ((hA o1 o2).cell hnb).trans (hnd 2 _ rfl)
  have q3 : ∀ o1 o2, ((w.alloc o1).alloc o2).cell? ⟨nb, no + i * 8 + 3, none⟩ = some (.string x.s) := fun o1 o2 => ((hA o1 o2).cell hnb).trans (hnd 3 _ rfl)
  have q4 : ∀ o1 o2, ((w.alloc o1).alloc o2).cell? ⟨nb, no + i * 8 + 4, none⟩ = some (.string x.t) := fun o1 o2 => ((hA o1 o2).cell hnb).trans (hnd 4 _ rfl)
  have q5 : ∀ o1 o2, ((w.alloc o1).alloc o2).cell? ⟨nb, no + i * 8 + 5, none⟩ = some (.string x.u) := fun o1 o2 => ((hA o1 o2).cell hnb).trans (hnd 5 _ rfl)
  have q6 : ∀ o1 o2, ((w.alloc o1).alloc o2).cell? ⟨nb, no + i * 8 + 6, none⟩ = some (.int .i64 x.ln) := fun o1 o2 => ((hA o1 o2).cell hnb).trans (hnd 6 _ rfl)
  have q7 : ∀ o1 o2, ((w.alloc o1).alloc o2).cell? ⟨nb, no + i * 8 + 7, none⟩ = some (.int .i64 x.co) := fun o1 o2 => ((hA o1 o2).cell hnb).trans (hnd 7 _ rfl)
  have hty : w.cell? ⟨cb, 1, none⟩ = some (.slice (some ⟨tb, 0, none⟩) l.length l.length) := hSt.typ
  have hstr := hSt.str i hil
  have htz := hSt.tz
  have hne := hSt.ne
  have hsf := fun a (w : World) => T3.store_func a (.func F) #[] caps w
  have hK0 := Kb.made w cb (.func (.func F) #[] caps) x
  have hB4 : Below w.heap.size w ((((w.alloc (.cells #[.pointer (some ⟨cb, 0, none⟩)] 165)).alloc (.cells #[.func (.func F) #[] caps] 90)).alloc (.cells (ndc x) 72)).alloc (.cells #[.func (.func F) #[] caps] 90)) := (((((Below.refl _ _).alloc (Nat.le_refl _) _).alloc (by simp) _).alloc (by simp; omega) _).alloc (by simp; omega) _)
  have HK0 : Aside _ := hK0
  have HB4 : Aside _ := hB4
  clear hSt hnd n0 hA hK0 hB4
  go_enter Tryz.func81, Tryz.ntmps81
  go_upto_region 2 with fail
  go_cut [9, 10] (fun s9 s10 wc => s9 = .pointer (some ⟨w.heap.size + 3, 0, none⟩) ∧ s10 = .string x.s ∧ Kb w wc cb (.func (.func F) #[] caps) (.func (.func F) #[] caps) x ∧ Below w.heap.size w wc)
  case first =>
    go_region
    all_goals
      go_wp2_with fail
      go_meet
      case rel =>
        have hh := HK0.out
        have hb := HB4.out
        unfold ndc at hh hb
        rw [hk] at hh hb
        exact ⟨rfl, rfl, hh.same rfl, ⟨hb.os, hb.tape, hb.output, hb.size, hb.block⟩⟩
  case rest =>
    obtain ⟨rfl, rfl, hKb, hBc⟩ := hcut
    obtain ⟨c0, c1, c2, c3, c4, c5, c6, cz⟩ := hKb.cells
    clear e0 q0 q1 q2 q3 q4 q5 q6 q7 HK0 HB4
    have hz := hKb.size
    have HM : Calls Tryz.prog 139 #[.int .u8 62, .slice (some ⟨wc.heap.size, 0, none⟩) 2 2] (wc.alloc (.cells #[.string (wrS x.t), .string (wrS x.u)] 9)).drew fun e w' => e = .returned (.tuple #[.string (S (if (enc (.tf (wr x.t) (wr x.u))).length ≤ 64 then ((0 : Nat), enc (.tf (wr x.t) (wr x.u))) else (21, [])).2), .int .i64 ((if (enc (.tf (wr x.t) (wr x.u))).length ≤ 64 then ((0 : Nat), enc (.tf (wr x.t) (wr x.u))) else (21, [])).1 : Nat)]) ∧ Below (wc.alloc (.cells #[.string (wrS x.t), .string (wrS x.u)] 9)).drew.heap.size (wc.alloc (.cells #[.string (wrS x.t), .string (wrS x.u)] 9)).drew w' := by
      rw [← mkF_of (.tf (wr x.t) (wr x.u)) (by intro u hu; simp [T3.Tp.kids] at hu; rcases hu with rfl | rfl <;> assumption), hT, hU]
      exact T3.make_any 62 _ [enc (wr x.t), enc (wr x.u)] _ (T3.texts2 wc (enc (wr x.t)) (enc (wr x.u))) (by simp)
    obtain ⟨ec, ey, hxy⟩ : ∃ (ec : Nat) (ey : List UInt8), (ec, ey) = (if (enc (.tf (wr x.t) (wr x.u))).length ≤ 64 then ((0 : Nat), enc (.tf (wr x.t) (wr x.u))) else (21, [])) := ⟨_, _, rfl⟩
    rw [← hxy] at HM
    simp only at HM
    have HXY : Aside _ := hxy
    have HZ : Aside (∀ w1, Below (wc.alloc (.cells #[.string (wrS x.t), .string (wrS x.u)] 9)).drew.heap.size (wc.alloc (.cells #[.string (wrS x.t), .string (wrS x.u)] 9)).drew w1 → Kb w w1 cb (.func (.func F) #[] caps) (.func (.func F) #[] caps) x ∧ Below w.heap.size w w1 ∧ (w1.cell? ⟨w.heap.size + 2, 4, none⟩ = some (.string x.t) ∧ w1.cell? ⟨w.heap.size + 2, 5, none⟩ = some (.string x.u))) := fun w1 h => by
      have h' : Below wc.heap.size wc w1 := below_unalloc (o := .cells #[.string (wrS x.t), .string (wrS x.u)] 9) ⟨h.os, h.tape, h.output, h.size, h.block⟩
      have hk1 := hKb.later h'
      exact ⟨hk1, hBc.trans (h'.mono hBc.size), hk1.cells.2.2.2.2.1, hk1.cells.2.2.2.2.2.1⟩
    have hA9 : (wc.alloc (.cells #[.string (wrS x.t), .string (wrS x.u)] 9)).cell? ⟨w.heap.size + 2, 4, none⟩ = some (.string x.t) ∧ (wc.alloc (.cells #[.string (wrS x.t), .string (wrS x.u)] 9)).cell? ⟨w.heap.size + 2, 5, none⟩ = some (.string x.u) := by
      have hk1 := (hKb.later ((Below.refl _ _).alloc (Nat.le_refl _) (.cells #[.string (wrS x.t), .string (wrS x.u)] 9))).cells
      exact ⟨hk1.2.2.2.2.1, hk1.2.2.2.2.2.1⟩
    have HTT : Aside _ := hT
    clear hxy hT hU
    generalize hsy : S ey = sy at *
    go_upto_region 6 with fail
    go_cut [11, 12] (fun s11 s12 w2 => s11 = .string sy ∧ s12 = .int .i64 (ec : Int) ∧ Kb w w2 cb (.func (.func F) #[] caps) (.func (.func F) #[] caps) x ∧ Below w.heap.size w w2)
    case first =>
      go_region_held (fun W => W.cell? ⟨w.heap.size + 2, 4, none⟩ = some (.string x.t) ∧ W.cell? ⟨w.heap.size + 2, 5, none⟩ = some (.string x.u)) (first | exact d45 | exact ⟨c4, c5⟩ | exact hA9 | go_keep) (first | (go_at_call 140; refine (writ_any _ _).mono ?_; rintro e w9 ⟨rfl, hw9⟩; replace hw9 := hw9.symm; subst hw9) | (go_at_call 139; refine HM.mono ?_; rintro e w1 ⟨rfl, hB1⟩; obtain ⟨hKe, hBe, d45⟩ := HZ.out w1 hB1))
      all_goals
        go_wp2_with fail
        go_meet
        case rel => exact ⟨rfl, rfl, hKe, hBe⟩
    case rest =>
      obtain ⟨rfl, rfl, hK2, hB2⟩ := hcut
      obtain ⟨c0, c1, c2, c3, c4, c5, c6, cz⟩ := hK2.cells
      by_cases hbig : 64 < (enc (.tf (wr x.t) (wr x.u))).length
      · obtain rfl : ec = 21 := by have h := HXY.out; rw [if_neg (by omega)] at h; exact congrArg Prod.fst h
        clear hS HTT HXY HZ HM hstr htz
        go_wp2_with fail
        go_ret2
        exact .inl ⟨hbig, rfl, hB2⟩
      have hle : (enc (.tf (wr x.t) (wr x.u))).length ≤ 64 := by omega
      obtain ⟨rfl, rfl⟩ : ec = 0 ∧ sy = S (enc (.tf (wr x.t) (wr x.u))) := by
        have h := HXY.out; rw [if_pos hle] at h
        exact ⟨congrArg Prod.fst h, by rw [← hsy]; exact congrArg (fun p => S p.2) h⟩
      clear HXY HZ HM
      have hKf := Kf.made (t := (.tf (wr x.t) (wr x.u))) hB2 hcb htb hne hstr
      obtain ⟨s0, hs0⟩ := hstr
      have t0 := (hB2.cell (p := ⟨tb, i, none⟩) htb).trans hs0
      have tz : ∀ q, wc.frozen? ⟨tb, q, none⟩ = false := fun q => by rw [← htz q]; unfold World.frozen?; rw [hB2.block _ htb]
      have ty := (hB2.cell (p := ⟨cb, 1, none⟩) hcb).trans hty
      obtain ⟨w3, hw3⟩ : ∃ w3, w3 = wc.setCell ⟨tb, i, none⟩ (.string (S (enc (.tf (wr x.t) (wr x.u))))) := ⟨_, rfl⟩
      have hK3 : Kb w w3 cb (.func (.func F) #[] caps) (.func (.func F) #[] caps) x := by rw [hw3]; exact hK2.tb htb i _
      rw [← hw3] at hKf
      have hz3 := hK3.size
      have HCUT := fun W => cut_any x.s hs W
      obtain ⟨cf, hcf⟩ : ∃ cf, cf = (Tr.cut32 x.s.data.toList).1 := ⟨_, rfl⟩
      obtain ⟨cp, hcp⟩ : ∃ cp, cp = (Tr.cut32 x.s.data.toList).2.1 := ⟨_, rfl⟩
      rw [← hcf, ← hcp] at HCUT
      have HCFP : Aside (cf = (Tr.cut32 (Tr.nm x)).1 ∧ cp = (Tr.cut32 (Tr.nm x)).2.1) := ⟨hcf, hcp⟩
      generalize (Tr.cut32 x.s.data.toList).2.2 = cb3 at *
      clear hcf hcp
      go_upto_region 11 with fail
      rw [← hw3]
      clear hw3 t0 tz ty hs0
      obtain ⟨a0, a1, a2, a3, a4, a5, a6, az⟩ := hK3.cells
      have hv0 : ∃ F0 caps0, (.func (.func F) #[] caps : Value) = .func (.func F0) #[] caps0 ∧ ∀ args w, (callFunc F0 args).run Tryz.prog w = .ok (.enter F0 args) w := by obtain ⟨F', caps', h, hE, _⟩ := hS; exact ⟨F', caps', h, hE⟩
      go_wp2_with fail
      refine (HCUT _).mono ?_
      rintro e w4 ⟨rfl, hB4⟩
      have hK4 := hK3.later hB4
      have hF4 := hKf.later hcb htb (hB4.mono (by omega))
      have hz4 := hK4.size
      obtain ⟨b0, b1, b2, b3, b4, b5, b6, bz⟩ := hK4.cells
      have HW1 := with_of cb tb w4 (fun w2 => Two cb tb w w2) (.func (.func F) #[] caps) env (S cf) (.tf (wr x.t) (wr x.u)) hv0 (fun w2 h => hS.next h) (by omega) (by omega)
      clear HCUT hB4 hK3 hKf a0 a1 a2 a3 a4 a5 a6 az hK2 hB2 c0 c1 c2 c3 c4 c5 c6 cz
      generalize hsT_ : S (enc (.tf (wr x.t) (wr x.u))) = sT_ at *
      go_wp2_with fail
      refine HW1.mono ?_
      rintro e w5 ⟨v1, rfl, ⟨⟨hsz1, hfn1⟩, hsc1⟩, hB5⟩
      have hK5 := hK4.later hB5
      have hF5 := hF4.later hcb htb (hB5.mono (by omega))
      have hz5 := hK5.size
      have hfn1' := hfn1
      obtain ⟨F1, caps1, rfl, -⟩ := hfn1'
      have hsf1 := fun a (w : World) => T3.store_func a (.func F1) #[] caps1 w
      obtain ⟨d0, d1, d2, d3, d4, d5, d6, dz⟩ := hK5.cells
      obtain ⟨w6, hw6⟩ : ∃ w6, w6 = w5.setCell ⟨w.heap.size + 3, 0, none⟩ (.func (.func F1) #[] caps1) := ⟨_, rfl⟩
      have hK6 : Kb w w6 cb (.func (.func F) #[] caps) (.func (.func F1) #[] caps1) x := by rw [hw6]; exact hK5.set _
      have hF6 : Kf w w6 cb tb i (.tf (wr x.t) (wr x.u)) := hF5.later hcb htb (by rw [hw6]; exact (Below.refl _ _).setCell (by show w.heap.size ≤ w.heap.size + 3; omega) _)
      have hz6 : w6.heap.size = w5.heap.size := by rw [hw6]; simp [World.setCell]
      have h65 : ∀ k, k ≠ w.heap.size + 3 → w6.heap[k]? = w5.heap[k]? := fun k hk => by rw [hw6]; exact Below.heap_setCell _ _ _ _ hk
      have HW2 := with_of cb tb w6.drew (fun w2 => Two cb tb w w2 ∧ (∀ k, w4.heap.size ≤ k → k < w4.heap.size + 3 → w2.heap[k]? = w5.heap[k]?) ∧ w4.heap.size + 3 ≤ w2.heap.size) (.func (.func F1) #[] caps1) _ (S cp) (wr x.t) hfn1 (fun w2 h => hsc1 w2 h.1 h.2.1 h.2.2) (by show cb < w6.heap.size; omega) (by show tb < w6.heap.size; omega)
      rw [← HTT.out] at HW2
      have HWT := writ_any x.t
      have HE : Aside (∀ w1 v, Below w6.drew.heap.size w6.drew w1 → (∀ w2, (Two cb tb w w2 ∧ (∀ k, w4.heap.size ≤ k → k < w4.heap.size + 3 → w2.heap[k]? = w5.heap[k]?) ∧ w4.heap.size + 3 ≤ w2.heap.size) → (∀ k, w6.drew.heap.size ≤ k → k < w6.drew.heap.size + 3 → w2.heap[k]? = w1.heap[k]?) → w6.drew.heap.size + 3 ≤ w2.heap.size → Scope cb tb w2 v (((S cp).data.toList, wr x.t) :: ((S cf).data.toList, (.tf (wr x.t) (wr x.u))) :: env)) → w6.drew.heap.size + 3 ≤ w1.heap.size → (w1.cell? ⟨w.heap.size + 2, 4, none⟩ = some (.string x.t) ∧ w1.cell? ⟨w.heap.size + 3, 0, none⟩ = some (.func (.func F1) #[] caps1) ∧ (∀ q, w1.frozen? ⟨w.heap.size + 3, q, none⟩ = false)) ∧ Kb w (w1.setCell ⟨w.heap.size + 3, 0, none⟩ v) cb (.func (.func F) #[] caps) v x ∧ Scope cb tb (w1.setCell ⟨w.heap.size + 3, 0, none⟩ v) v (((Tr.cut32 (Tr.nm x)).2.1, wr x.t) :: ((Tr.cut32 (Tr.nm x)).1, (.tf (wr x.t) (wr x.u))) :: env) ∧ Kf w (w1.setCell ⟨w.heap.size + 3, 0, none⟩ v) cb tb i (.tf (wr x.t) (wr x.u))) := fun w1 v h hsc hsz => by
        have e6 : w6.drew.heap.size = w6.heap.size := rfl
        have h' : Below w6.heap.size w6 w1 := ⟨h.os, h.tape, h.output, h.size, h.block⟩
        have hk1 := hK6.later h'
        obtain ⟨-, -, -, -, a4, -, a6, az⟩ := hk1.cells
        have hB3 : Below w.heap.size w6 (w1.setCell ⟨w.heap.size + 3, 0, none⟩ v) := (h'.mono (by omega)).setCell (by show w.heap.size ≤ w.heap.size + 3; omega) v
        have hKe := hF6.later hcb htb hB3
        refine ⟨⟨a4, a6, az⟩, hk1.set v, ?_, hKe⟩
        rw [← HCFP.out.1, ← HCFP.out.2]
        refine hsc _ ⟨hKe.two, fun k h1 h2 => ?_, by simp [World.setCell]; omega⟩ (fun k h1 _ => Below.heap_setCell _ _ _ _ (by show k ≠ w.heap.size + 3; omega)) (by simpa [World.setCell] using hsz)
        rw [Below.heap_setCell _ _ _ _ (by show k ≠ w.heap.size + 3; omega), h'.block k (by omega), h65 k (by omega)]
      obtain ⟨g0, g1, g2, g3, g4, g5, g6, gz⟩ := hK6.cells
      clear HW1 hB5 hK4 hF4 b0 b1 b2 b3 b4 b5 b6 bz hK5 hF5 hF6 hK6 hsc1 hS HTT hv0 hfn1 h65
      generalize wrS x.t = sT at *
      go_upto_region 13 with fail
      rw [← hw6]
      clear hw6 d0 d1 d2 d3 d4 d5 d6 dz
      go_region_with (first | (go_at_call 140; refine (HWT _).mono ?_; rintro e w9 ⟨rfl, hw9⟩; replace hw9 := hw9.symm; subst hw9) | (go_at_call 141; refine HW2.mono ?_; rintro e w1 ⟨v, rfl, ⟨⟨hsz2, hfn2⟩, hsc2⟩, hB7⟩; obtain ⟨⟨m4, m6, mz⟩, hKe, hSe, hFe⟩ := HE.out w1 v hB7 hsc2 hsz2; obtain ⟨F2, caps2, rfl, -⟩ := hfn2; have hsf2 := fun a (w : World) => T3.store_func a (.func F2) #[] caps2 w))
      all_goals
        go_wp2_with fail
        go_ret2
        exact .inr ⟨hle, _, rfl, hKe, hSe, hFe⟩
end Go.Proofs.YthdlfeejeboboaaGreatDoor
