/- For every source, ParseTypes returns true: of a type that is read its source in brackets is read as the same type, behind a colon too, and it may be. Conditions: the listed variables of the library start as the program's text lays them. -/
import Derived.Test.YtohjfikjbeafiaaGreatDoorGaz
import Derived.Test.YtohjfikjbeafiaaGreatDoorGaw
import Derived.KernelRfl
import Derived.Test.YtohjfikjbeafiaaGreatDoorGay
import Derived.ArgAppend
import Derived.Lib.AppendStr
import Derived.Test.YtohjfikjbeafiaaGreatDoorGad
import Derived.Test.YtohjfikjbeafiaaGreatDoorTie
import Derived.Test.YtohjfikjbeafiaaGreatDoorCards
import Derived.SevenTiedAt
namespace Go.Proofs.YtohjfikjbeafiaaGreatDoor
open Ps
namespace Ps
open T1.Tx
/-- No limit is passed where none is told. -/
def nz (lm : Lim) : Prop := lm.p0 ≠ (0, 0) ∨ lm.p1 ≠ (0, 0) ∨ lm.p2 ≠ (0, 0) ∨ lm.p3 ≠ (0, 0) ∨ lm.p4 ≠ (0, 0)
theorem note_nz {p q : Int × Int} (h : p ≠ (0, 0)) : note p q ≠ (0, 0) := by unfold note; rw [if_neg h]; exact h
theorem note_new {p q : Int × Int} (h : q ≠ (0, 0)) : note p q ≠ (0, 0) := by
  unfold note; split
  · exact h
  · assumption
theorem psE_nz {lm : Lim} (v : Ev) (h : nz lm) : nz (psE lm v) := by
  obtain ⟨n, q⟩ := v
  unfold nz at *
  unfold psE
  rcases h with h | h | h | h | h
  all_goals split
  all_goals first
    | exact .inl (by first | exact h | exact note_nz h)
    | exact .inr (.inl (by first | exact h | exact note_nz h))
    | exact .inr (.inr (.inl (by first | exact h | exact note_nz h)))
    | exact .inr (.inr (.inr (.inl (by first | exact h | exact note_nz h))))
    | exact .inr (.inr (.inr (.inr (by first | exact h | exact note_nz h))))
theorem psE_new {lm : Lim} : ∀ (v : Ev), v.2 ≠ (0, 0) → nz (psE lm v)
  | (0, _), h => .inl (note_new h)
  | (1, _), h => .inr (.inl (note_new h))
  | (2, _), h => .inr (.inr (.inl (note_new h)))
  | (3, _), h => .inr (.inr (.inr (.inl (note_new h))))
  | (_ + 4, _), h => .inr (.inr (.inr (.inr (note_new h))))
theorem effE_nz : ∀ (l : List Ev) (lm : Lim), nz lm → nz (effE lm l)
  | [], _, h => h
  | v :: r, lm, h => effE_nz r (psE lm v) (psE_nz v h)
theorem first_nz {lm : Lim} (h : nz lm) : firstL lm ≠ none := by
  unfold nz at h
  unfold firstL
  intro e
  split at e
  · cases e
  · split at e
    · cases e
    · split at e
      · cases e
      · split at e
        · cases e
        · split at e
          · cases e
          · simp_all
theorem first_nil {l : List Ev} (hp : ∀ v ∈ l, v.2 ≠ (0, 0)) (h : firstL (effE lm0 l) = none) : l = [] := by
  cases l with
  | nil => rfl
  | cons v r => exact absurd h (first_nz (effE_nz r _ (psE_new v (hp v (by simp)))))
theorem lgE_pl {bs : List UInt8} {l : List (Tk × Nat)} {g : List Nat} : ∀ v ∈ lgE (ptsOf bs l) (ptEnd bs) g, v.2 ≠ (0, 0) := by
  intro v hv
  unfold lgE at hv
  obtain ⟨i, _, rfl⟩ := List.mem_map.1 hv
  have := tok_ln (bs := bs) (l := l) i
  intro e
  have : (tok (ptsOf bs l) (ptEnd bs) i).ln = 0 := congrArg Prod.fst e
  omega
theorem lgE_nil {L : List PT} {e : PT} {g : List Nat} (h : lgE L e g = []) : g = [] := by
  unfold lgE at h; exact List.map_eq_nil_iff.1 h
/-- The tokens of a source put among others. -/
theorem all_put {A bs post : List UInt8} {l lp pt : List (Tk × Nat)} (hb : T1.Tx.all bs = .ok l) (hp : tk post 0 = .ok lp) (ha : tk (put A bs post) 0 = T1.Tx.ahead pt (tk (put A bs post) A.length)) :
    T1.Tx.all (put A bs post) = .ok (pt ++ (l.map (fun x => (x.1, A.length + x.2)) ++ lp.map fun x => (x.1, (A ++ (bs ++ [10])).length + x.2))) := by
  rw [tk_all] at hb ⊢
  have h1 := put_tk A bs post bs.length 0 (by omega) (by omega) hb
  have hlen := put_len A bs post
  have h2 : tk (put A bs post) (A.length + bs.length) = .ok (lp.map fun x => (x.1, (A ++ (bs ++ [10])).length + x.2)) := by
    rw [tk_blank (by omega) (by rw [put_nl]; decide)]
    have h3 := suf_tk (A ++ (bs ++ [10])) post post.length 0 (by omega) (by omega) hp
    have e1 : (A ++ (bs ++ [10])) ++ post = put A bs post := by simp [put]
    rw [e1] at h3
    rw [← h3]
    congr 1
    simp; omega
  rw [ha]
  rw [Nat.add_zero] at h1
  rw [h1, h2]
  rfl
theorem emb_put {A bs post : List UInt8} {l lp pt : List (Tk × Nat)} {t : Tk} {q : Nat} {r : List (Tk × Nat)} (hr : lp = (t, q) :: r) (ht : t.kind = 5) (hs : t.s = [41] ∨ t.s = [59]) :
    Emb (ptsOf bs l) (ptsOf (put A bs post) (pt ++ (l.map (fun x => (x.1, A.length + x.2)) ++ lp.map fun x => (x.1, (A ++ (bs ++ [10])).length + x.2)))) pt.length := by
  subst hr
  constructor
  · intro i x hx
    unfold ptsOf at hx ⊢
    rw [List.getElem?_map] at hx
    cases hl : l[i]? with
    | none => rw [hl] at hx; cases hx
    | some y =>
      rw [hl] at hx
      simp at hx
      subst hx
      have hi := (List.getElem?_eq_some_iff.1 hl).1
      refine ⟨ptOf (put A bs post) (y.1, A.length + y.2), ?_, rfl, rfl, rfl⟩
      rw [List.getElem?_map, List.getElem?_append_right (by omega), Nat.add_sub_cancel_left, List.getElem?_append_left (by simpa using hi), List.getElem?_map, hl]
      rfl
  · refine ⟨ptOf (put A bs post) (t, (A ++ (bs ++ [10])).length + q), ?_, ht, hs⟩
    unfold ptsOf
    rw [List.getElem?_map, List.getElem?_append_right (by simp), List.getElem?_append_right (by simp)]
    simp
/-- What stood ahead. -/
theorem pre_get {cs : List UInt8} {pt m : List (Tk × Nat)} {i : Nat} {x : Tk × Nat} (h : pt[i]? = some x) : (ptsOf cs (pt ++ m))[i]? = some (ptOf cs x) := by
  unfold ptsOf
  rw [List.getElem?_map, List.getElem?_append_left (List.getElem?_eq_some_iff.1 h).1, h]
  rfl
theorem suf_get {cs : List UInt8} {pt m lp : List (Tk × Nat)} {i : Nat} {x : Tk × Nat} (h : lp[i]? = some x) : (ptsOf cs (pt ++ (m ++ lp)))[pt.length + m.length + i]? = some (ptOf cs x) := by
  unfold ptsOf
  rw [List.getElem?_map, List.getElem?_append_right (by omega), List.getElem?_append_right (by omega), show pt.length + m.length + i - pt.length - m.length = i by omega, h]
  rfl
theorem sg_of_get {L : List PT} {k : Nat} {t : PT} (h : L[k]? = some t) (hk : t.kind = 1 ∨ t.kind = 5) : sg L k = t.s := by unfold sg; rw [h]; simp [hk]
theorem sg_of_name {L : List PT} {k : Nat} {t : PT} (h : L[k]? = some t) (hk : t.kind = 2) : sg L k = [] := by unfold sg; rw [h]; simp [hk]
theorem kd_of_get {L : List PT} {k : Nat} {t : PT} (h : L[k]? = some t) : kd L k = t.kind := by unfold kd; rw [h]
/-- What is told of a type that is read. -/
theorem type_out {bs : List UInt8} {a : List UInt8} (h : typeF bs = .ok a) : ∃ l t, T1.Tx.all bs = .ok l ∧ wh (ptsOf bs l) 0 = .ok (t, (ptsOf bs l).length, []) ∧ (T2.Tp.enc t).length ≤ 64 ∧ a = T2.Tp.val t := by
  unfold typeF srcW at h
  cases hb : T1.Tx.all bs with
  | error q => obtain ⟨er, k⟩ := q; rw [hb] at h; cases h
  | ok l =>
    rw [hb] at h
    simp only [typeV] at h
    cases hw : wh (ptsOf bs l) 0 with
    | error j => rw [hw] at h; cases h
    | ok q =>
      obtain ⟨t, j, g⟩ := q
      rw [hw] at h
      simp only [finW] at h
      have hin : j ≤ (ptsOf bs l).length := by
        unfold wh at hw
        cases hn : tyW' (ptsOf bs l) 0 with
        | error i => rw [hn] at hw; cases hw
        | ok q =>
          obtain ⟨u, i⟩ := q
          rw [hn] at hw
          have := ty_within (ptsOf bs l) (2 * ((ptsOf bs l).length - 0) + 2) true 0 (Nat.zero_le _)
          rw [show ty (ptsOf bs l) (2 * ((ptsOf bs l).length - 0) + 2) true 0 = .ok (u, i) from hn] at this
          cases hw
          exact this.2
      split at h
      · cases h
      · rename_i hj
        obtain rfl : j = (ptsOf bs l).length := by omega
        cases hf : firstL (effE lm0 (lgE (ptsOf bs l) (ptEnd bs) g)) with
        | some c => obtain ⟨c, q⟩ := c; rw [hf] at h; cases h
        | none =>
          rw [hf] at h
          cases h
          have hg := lgE_nil (first_nil lgE_pl hf)
          subst hg
          exact ⟨l, t, rfl, hw, wh_at hw rfl, rfl⟩
end Ps
end Go.Proofs.YtohjfikjbeafiaaGreatDoor
namespace Go.Proofs.YtohjfikjbeafiaaGreatDoor
open Ps
set_option maxRecDepth 100000
namespace Ps
open T1.Tx
theorem ty_br {L : List PT} {d k j : Nat} {t : T2.Tp.Ty} (h0 : sg L k = [40]) (h1 : ty L d true (k + 1) = .ok (t, j)) (h2 : sg L j = [41]) (h3 : sg L (j + 1) ≠ [45, 62]) : ty L (d + 2) true k = .ok (t, j + 1) := by
  have h4 : ty L (d + 1) false k = .ok (t, j + 1) := by
    rw [ty, if_neg (by rw [h0]; decide), if_neg (by rw [h0]; decide), if_neg (by rw [h0]; decide), if_neg (by rw [h0]; decide), if_pos h0, h1]
    simp only
    rw [if_neg (by rw [h2]; decide), if_pos h2]
  rw [ty, h4]
  simp only
  rw [if_neg h3]
def mk (c : UInt8) (k : Nat) : Tk × Nat := (⟨5, 0, [c]⟩, k)
theorem long40 (l : List UInt8) : longB (40 :: l) = false := by simp [longB, longs]
theorem long58 {l : List UInt8} (h : l ≠ [61]) : longB (58 :: l) = false := by simp [longB, longs, h]
theorem ahead_two (a b : Tk × Nat) (r : Except (Int × Nat) (List (Tk × Nat))) : T1.Tx.ahead [a] (T1.Tx.ahead [b] r) = T1.Tx.ahead [a, b] r := by cases r <;> rfl
theorem ahead_cons (a : Tk × Nat) (l : List (Tk × Nat)) (r : Except (Int × Nat) (List (Tk × Nat))) : T1.Tx.ahead [a] (T1.Tx.ahead l r) = T1.Tx.ahead (a :: l) r := by cases r <;> rfl
theorem ahead_app (l m : List (Tk × Nat)) (r : Except (Int × Nat) (List (Tk × Nat))) : T1.Tx.ahead l (T1.Tx.ahead m r) = T1.Tx.ahead (l ++ m) r := by cases r <;> simp [T1.Tx.ahead]
/-- '((' ahead. -/
theorem pre_two (X : List UInt8) : tk ([40, 40] ++ X) 0 = T1.Tx.ahead [mk 40 0, mk 40 1] (tk ([40, 40] ++ X) 2) := by
  have o0 : T1.Tx.one ([40, 40] ++ X) 0 = .ok (⟨5, 0, [40]⟩, 1) := pre_one [40, 40] X (k := 0) (j := 1) (by decide) (by decide) (by decide) (by kernel_rfl) (by decide)
  have o1 : T1.Tx.one ([40, 40] ++ X) 1 = .ok (⟨5, 0, [40]⟩, 2) := last_mark [40, 40] X (k := 1) rfl (by decide) (by decide) (by decide) (by decide) (by rw [last_sub [40, 40] X (k := 1) rfl rfl]; exact long40 _)
  rw [step_tok (by simp) (by rw [pre_at _ _ (by decide)]; decide) (by rw [pre_at _ _ (by decide)]; decide) o0 rfl, step_tok (by simp) (by rw [pre_at _ _ (by decide)]; decide) (by rw [pre_at _ _ (by decide)]; decide) o1 rfl]
  exact ahead_two _ _ _
/-- '(x:' ahead. -/
theorem pre_as {X : List UInt8} (hX : X.take 1 ≠ [61]) : tk ([40, 120, 58] ++ X) 0 = T1.Tx.ahead [mk 40 0, (⟨2, 0, [120]⟩, 1), mk 58 2] (tk ([40, 120, 58] ++ X) 3) := by
  have o0 : T1.Tx.one ([40, 120, 58] ++ X) 0 = .ok (⟨5, 0, [40]⟩, 1) := pre_one [40, 120, 58] X (k := 0) (j := 1) (by decide) (by decide) (by decide) (by kernel_rfl) (by decide)
  have o1 : T1.Tx.one ([40, 120, 58] ++ X) 1 = .ok (⟨2, 0, [120]⟩, 2) := pre_one [40, 120, 58] X (k := 1) (j := 2) (by decide) (by decide) (by decide) (by kernel_rfl) (by decide)
  have o2 : T1.Tx.one ([40, 120, 58] ++ X) 2 = .ok (⟨5, 0, [58]⟩, 3) := last_mark [40, 120, 58] X (k := 2) rfl (by decide) (by decide) (by decide) (by decide) (by rw [last_sub [40, 120, 58] X (k := 2) rfl rfl]; exact long58 hX)
  rw [step_tok (by simp) (by rw [pre_at _ _ (by decide)]; decide) (by rw [pre_at _ _ (by decide)]; decide) o0 rfl, step_tok (by simp) (by rw [pre_at _ _ (by decide)]; decide) (by rw [pre_at _ _ (by decide)]; decide) o1 rfl, step_tok (by simp) (by rw [pre_at _ _ (by decide)]; decide) (by rw [pre_at _ _ (by decide)]; decide) o2 rfl]
  rw [ahead_app, ahead_app]; rfl
theorem post_two : tk [41, 32, 41] 0 = .ok [mk 41 0, mk 41 2] := by kernel_rfl
theorem post_one : tk [41] 0 = .ok [mk 41 0] := by kernel_rfl
theorem sg_beyond {L : List PT} {k : Nat} (h : L.length ≤ k) : sg L k = [] := by unfold sg; rw [List.getElem?_eq_none h]
theorem pts_len3 (cs : List UInt8) (a b c : List (Tk × Nat)) : (ptsOf cs (a ++ (b ++ c))).length = a.length + b.length + c.length := by unfold ptsOf; simp; omega

theorem type_around {bs : List UInt8} {a : List UInt8} (h : typeF bs = .ok a) : typeF (put [40, 40] bs [41, 32, 41]) = .ok a := by
  obtain ⟨l, t, hb, hw, hle, rfl⟩ := type_out h
  have hall := all_put hb post_two (pre_two _)
  unfold typeF srcW
  rw [hall]
  simp only
  have hE := emb_put (A := [40, 40]) (bs := bs) (post := [41, 32, 41]) (l := l) (pt := [mk 40 0, mk 40 1]) (q := 0) (t := ⟨5, 0, [41]⟩) (r := [mk 41 2]) (lp := [mk 41 0, mk 41 2]) rfl rfl (.inl rfl)
  generalize hcs : put [40, 40] bs [41, 32, 41] = cs at *
  have hlen := pts_len3 cs [mk 40 0, mk 40 1] (l.map fun x => (x.1, [40, 40].length + x.2)) ([mk 41 0, mk 41 2].map fun x => (x.1, ([40, 40] ++ (bs ++ [10])).length + x.2))
  have g0 := pre_get (cs := cs) (pt := [mk 40 0, mk 40 1]) (m := l.map (fun x => (x.1, [40, 40].length + x.2)) ++ [mk 41 0, mk 41 2].map fun x => (x.1, ([40, 40] ++ (bs ++ [10])).length + x.2)) (i := 0) rfl
  have g1 := pre_get (cs := cs) (pt := [mk 40 0, mk 40 1]) (m := l.map (fun x => (x.1, [40, 40].length + x.2)) ++ [mk 41 0, mk 41 2].map fun x => (x.1, ([40, 40] ++ (bs ++ [10])).length + x.2)) (i := 1) rfl
  have g2 := suf_get (cs := cs) (pt := [mk 40 0, mk 40 1]) (m := l.map (fun x => (x.1, [40, 40].length + x.2))) (lp := [mk 41 0, mk 41 2].map fun x => (x.1, ([40, 40] ++ (bs ++ [10])).length + x.2)) (i := 0) rfl
  have g3 := suf_get (cs := cs) (pt := [mk 40 0, mk 40 1]) (m := l.map (fun x => (x.1, [40, 40].length + x.2))) (lp := [mk 41 0, mk 41 2].map fun x => (x.1, ([40, 40] ++ (bs ++ [10])).length + x.2)) (i := 1) rfl
  generalize hL' : ptsOf cs ([mk 40 0, mk 40 1] ++ (l.map (fun x => (x.1, [40, 40].length + x.2)) ++ [mk 41 0, mk 41 2].map fun x => (x.1, ([40, 40] ++ (bs ++ [10])).length + x.2))) = L' at *
  have hn : (ptsOf bs l).length = l.length := by simp [ptsOf]
  generalize hL : ptsOf bs l = L at *
  simp only [List.length_cons, List.length_nil, List.length_map] at hlen g2 g3
  have s0 : sg L' 0 = [40] := sg_of_get g0 (.inr rfl)
  have s1 : sg L' 1 = [40] := sg_of_get g1 (.inr rfl)
  have s2 : sg L' (2 + L.length) = [41] := by rw [hn]; exact sg_of_get g2 (.inr rfl)
  have s3 : sg L' (2 + L.length + 1) = [41] := by rw [hn]; exact sg_of_get g3 (.inr rfl)
  have s4 : sg L' (2 + L.length + 1 + 1) = [] := sg_beyond (by omega)
  have hty : ∃ d, ty L d true 0 = .ok (t, L.length) ∧ d = 2 * L.length + 2 := by
    refine ⟨_, ?_, rfl⟩
    unfold wh at hw
    cases hx : tyW' L 0 with
    | error i => rw [hx] at hw; cases hw
    | ok q =>
      obtain ⟨u, i⟩ := q
      rw [hx] at hw
      simp only [Except.ok.injEq, Prod.mk.injEq] at hw
      obtain ⟨rfl, rfl, _⟩ := hw
      exact hx
  obtain ⟨d, hty, rfl⟩ := hty
  have h1 := (ty_ext hE _ (2 * L.length + 6) true 0 (by omega) (Nat.zero_le _) hty).1
  have h2 : ty L' (2 * L.length + 6) true (1 + 1) = .ok (t, 2 + L.length) := h1
  have h3 := ty_br s1 h2 s2 (by rw [s3]; decide)
  have h4 := ty_br (k := 0) s0 h3 s3 (by rw [s4]; decide)
  have hlen' : L'.length = L.length + 4 := by omega
  have hw' : wh L' 0 = .ok (t, 2 + L.length + 1 + 1, []) := by
    unfold wh
    rw [show tyW' L' 0 = .ok (t, 2 + L.length + 1 + 1) by unfold tyW'; rw [hlen', show 2 * (L.length + 4 - 0) + 2 = 2 * L.length + 6 + 2 + 2 by omega]; exact h4]
    simp only
    rw [if_pos hle]
  unfold typeV
  rw [hw']
  simp only [finW]
  rw [if_neg (by omega)]
  rfl
end Ps
end Go.Proofs.YtohjfikjbeafiaaGreatDoor
namespace Go.Proofs.YtohjfikjbeafiaaGreatDoor
open Ps
set_option maxRecDepth 100000
namespace Ps
open T1.Tx
open Tr (T Nd)
/-- The first byte of a type's source is no '='. -/
theorem type_first {bs post : List UInt8} {a : List UInt8} (h : typeF bs = .ok a) : (bs ++ 10 :: post).take 1 ≠ [61] := by
  obtain ⟨l, t, hb, hw, _, _⟩ := type_out h
  cases bs with
  | nil => simp
  | cons c r =>
    intro e
    have hc : c = 61 := by simpa using e
    subst hc
    exfalso
    rw [tk_all] at hb
    have h0 : (0 : Nat) < ((61 : UInt8) :: r).length := by simp
    cases h1 : T1.Tx.one (61 :: r) 0 with
    | error er =>
      have := tk_err h0 (by rfl) (by rfl) h1
      rw [this] at hb; cases hb
    | ok q =>
      obtain ⟨x, j⟩ := q
      have h9 := tk_ok [] h0 (by rfl) (by rfl) h1
      rw [ahead_nil, hb] at h9
      cases hr : tk (61 :: r) j with
      | error er => rw [hr] at h9; cases h9
      | ok l2 =>
        rw [hr] at h9
        obtain rfl : l = [(x, 0)] ++ l2 := Except.ok.inj h9
        have hx : x.kind = 5 ∧ (x.s = [61, 62] ∨ x.s = [61, 61] ∨ x.s = [61]) := by
          unfold T1.Tx.one at h1
          rw [if_neg (by simp [B, letterB]), if_neg (by simp [B, digitB]), if_neg (by simp [B])] at h1
          unfold oneMark at h1
          split at h1
          · rename_i hl
            cases h1
            refine ⟨rfl, ?_⟩
            have h2 := hl.2
            cases r with
            | nil => have := hl.1; simp at this
            | cons d r =>
              have e2 : sub (61 :: d :: r) 0 (0 + 2) = [61, d] := by simp [sub]
              show sub (61 :: d :: r) 0 (0 + 2) = [61, 62] ∨ _
              rw [e2]
              rw [e2] at h2
              simp [longB, longs] at h2
              rcases h2 with rfl | rfl <;> simp
          · split at h1
            · cases h1
              exact ⟨rfl, .inr (.inr (by show sub (61 :: r) 0 (0 + 1) = [61]; simp [sub]))⟩
            · cases h1
        have hs : sg (ptsOf (61 :: r) ([(x, 0)] ++ l2)) 0 = x.s := sg_of_get (t := ptOf (61 :: r) (x, 0)) rfl (.inr hx.1)
        have hlen : (ptsOf (61 :: r) ([(x, 0)] ++ l2)).length = l2.length + 1 := by simp [ptsOf]
        generalize ptsOf (61 :: r) ([(x, 0)] ++ l2) = L at *
        unfold wh tyW' at hw
        rw [show 2 * (L.length - 0) + 2 = (2 * (L.length - 0)) + 1 + 1 by omega, ty, ty] at hw
        rcases hx.2 with h3 | h3 | h3 <;> rw [h3] at hs <;> simp [hs] at hw
theorem leaf_ex {L : List PT} {e : PT} {d k : Nat} (hk : kd L k = 2) (hs : sg L k = []) (h1 : sg L (k + 1) = [58]) : pe L e (d + 7) .ex k = .ok (.nd { mkN 4 0 (tok L e k) with n := (tok L e k).n, s := bs (tok L e k).s } [], k + 1, []) := by
  have a1 : pe L e (d + 1) .at k = .ok (.nd { mkN 4 0 (tok L e k) with n := (tok L e k).n, s := bs (tok L e k).s } [], k + 1, []) := by
    rw [pe, if_neg (by rw [hk]; decide), if_neg (by rw [hk]; decide), if_pos hk]; rfl
  generalize T.nd { mkN 4 0 (tok L e k) with n := (tok L e k).n, s := bs (tok L e k).s } [] = v at *
  have a2 : pe L e (d + 2) .cl k = .ok (v, k + 1, []) := by
    rw [pe, bnd_ok _ a1, pe, if_neg (by rw [h1]; decide)]; rfl
  have a3 : pe L e (d + 3) .fc k = .ok (v, k + 1, []) := by
    rw [pe, if_neg (by rw [hs]; decide), if_neg (by rw [hs]; decide)]; exact a2
  have a4 : pe L e (d + 4) .tm k = .ok (v, k + 1, []) := by
    rw [pe, bnd_ok _ a3, pe, if_neg (by rw [h1]; decide)]; rfl
  have a5 : pe L e (d + 5) .sm k = .ok (v, k + 1, []) := by
    rw [pe, bnd_ok _ a4, pe, if_neg (by rw [h1]; decide)]; rfl
  have a6 : pe L e (d + 6) .rk k = .ok (v, k + 1, []) := by
    rw [pe, bnd_ok _ a5, if_neg (by rw [h1]; decide)]; rfl
  rw [pe, if_neg (by rw [hs]; decide), if_neg (by rw [hs]; decide), if_neg (by rw [hs]; decide), if_neg (by rw [hs]; decide), bnd_ok _ a6, if_neg (by rw [h1]; decide)]; rfl
/-- An atom in round brackets, alone. -/
theorem br_ex {L : List PT} {e : PT} {d k j : Nat} {v : T} (hs : sg L k = [40]) (hk : kd L k = 5) (hb : brR L e (pe L e d .ex) k = .ok (v, j, [])) (hj : sg L j = [] ∨ sg L j = [59]) : pe L e (d + 7) .ex k = .ok (v, j, []) := by
  have a1 : pe L e (d + 1) .at k = .ok (v, j, []) := by
    rw [pe, if_neg (by rw [hk]; decide), if_neg (by rw [hk]; decide), if_neg (by rw [hk]; decide), if_neg (by rw [hs]; decide), if_pos hs]; exact hb
  have n1 : sg L j ≠ [40] := by rcases hj with h | h <;> rw [h] <;> decide
  have n2 : sg L j ≠ [42] := by rcases hj with h | h <;> rw [h] <;> decide
  have n3 : ¬ sumK (sg L j) ≠ 0 := by rcases hj with h | h <;> rw [h] <;> decide
  have n4 : ¬ relK (sg L j) ≠ 0 := by rcases hj with h | h <;> rw [h] <;> decide
  have n5 : sg L j ≠ [58, 61] := by rcases hj with h | h <;> rw [h] <;> decide
  have a2 : pe L e (d + 2) .cl k = .ok (v, j, []) := by
    rw [pe, bnd_ok _ a1, pe, if_neg n1]; rfl
  have a3 : pe L e (d + 3) .fc k = .ok (v, j, []) := by
    rw [pe, if_neg (by rw [hs]; decide), if_neg (by rw [hs]; decide)]; exact a2
  have a4 : pe L e (d + 4) .tm k = .ok (v, j, []) := by
    rw [pe, bnd_ok _ a3, pe, if_neg n2]; rfl
  have a5 : pe L e (d + 5) .sm k = .ok (v, j, []) := by
    rw [pe, bnd_ok _ a4, pe, if_neg n3]; rfl
  have a6 : pe L e (d + 6) .rk k = .ok (v, j, []) := by
    rw [pe, bnd_ok _ a5, if_neg n4]; rfl
  rw [pe, if_neg (by rw [hs]; decide), if_neg (by rw [hs]; decide), if_neg (by rw [hs]; decide), if_neg (by rw [hs]; decide), bnd_ok _ a6, if_neg n5]; rfl

theorem type_in_expr {bs : List UInt8} {a : List UInt8} (h : typeF bs = .ok a) : ∃ x y, exprF (put [40, 120, 58] bs [41]) = .ok [x, y] ∧ x.t = Ps.bs a := by
  obtain ⟨l, t, hb, hw, hle, rfl⟩ := type_out h
  have hall := all_put hb post_one (pre_as (type_first h))
  unfold exprF srcW
  rw [hall]
  simp only
  have hE := emb_put (A := [40, 120, 58]) (bs := bs) (post := [41]) (l := l) (pt := [mk 40 0, (⟨2, 0, [120]⟩, 1), mk 58 2]) (q := 0) (t := ⟨5, 0, [41]⟩) (r := []) (lp := [mk 41 0]) rfl rfl (.inl rfl)
  generalize hcs : put [40, 120, 58] bs [41] = cs at *
  have hlen := pts_len3 cs [mk 40 0, (⟨2, 0, [120]⟩, 1), mk 58 2] (l.map fun x => (x.1, [40, 120, 58].length + x.2)) ([mk 41 0].map fun x => (x.1, ([40, 120, 58] ++ (bs ++ [10])).length + x.2))
  have g := fun i x h => pre_get (cs := cs) (pt := [mk 40 0, (⟨2, 0, [120]⟩, 1), mk 58 2]) (m := l.map (fun x => (x.1, [40, 120, 58].length + x.2)) ++ [mk 41 0].map fun x => (x.1, ([40, 120, 58] ++ (bs ++ [10])).length + x.2)) (i := i) (x := x) h
  have g0 := g 0 _ rfl
  have g1 := g 1 _ rfl
  have g2 := g 2 _ rfl
  clear g
  have g3 := suf_get (cs := cs) (pt := [mk 40 0, (⟨2, 0, [120]⟩, 1), mk 58 2]) (m := l.map (fun x => (x.1, [40, 120, 58].length + x.2))) (lp := [mk 41 0].map fun x => (x.1, ([40, 120, 58] ++ (bs ++ [10])).length + x.2)) (i := 0) rfl
  generalize hL' : ptsOf cs ([mk 40 0, (⟨2, 0, [120]⟩, 1), mk 58 2] ++ (l.map (fun x => (x.1, [40, 120, 58].length + x.2)) ++ [mk 41 0].map fun x => (x.1, ([40, 120, 58] ++ (bs ++ [10])).length + x.2))) = L' at *
  generalize ptEnd cs = e' at *
  have hn : (ptsOf bs l).length = l.length := by simp [ptsOf]
  generalize hL : ptsOf bs l = L at *
  simp only [List.length_cons, List.length_nil, List.length_map] at hlen g3
  have s0 : sg L' 0 = [40] := sg_of_get g0 (.inr rfl)
  have k0 : kd L' 0 = 5 := kd_of_get g0
  have s1 : sg L' 1 = [] := sg_of_name g1 rfl
  have k1 : kd L' 1 = 2 := kd_of_get g1
  have s2 : sg L' 2 = [58] := sg_of_get g2 (.inr rfl)
  have s3 : sg L' (3 + L.length) = [41] := by rw [hn]; exact sg_of_get g3 (.inr rfl)
  have hlen' : L'.length = L.length + 4 := by omega
  have s4 : sg L' (3 + L.length + 1) = [] := sg_beyond (by omega)
  obtain ⟨_, t', l', hw', ht', hl'⟩ := rl_wh hE (k := 0) (Nat.zero_le _) t L.length [] hw
  rw [hl' rfl, ht'] at hw'
  have hw2 : wh L' (2 + 1) = .ok (t, 3 + L.length, []) := hw'
  have hbr : brR L' e' (pe L' e' (10 * L.length + 40) .ex) 0 = .ok (.nd { mkN 29 1 (tok L' e' 2) with t := Ps.bs (T2.Tp.val t) } [.nd { mkN 4 0 (tok L' e' 1) with n := (tok L' e' 1).n, s := Ps.bs (tok L' e' 1).s } []], 3 + L.length + 1, []) := by
    have h1 : expc L' e' [40] 0 = .ok (tok L' e' 0, 1, []) := by unfold expc; rw [if_pos s0]
    have h2 : expc L' e' [41] (3 + L.length) = .ok (tok L' e' (3 + L.length), 3 + L.length + 1, []) := by unfold expc; rw [if_pos s3]
    have h3 := leaf_ex (e := e') (d := 10 * L.length + 33) k1 s1 s2
    unfold brR
    rw [bnd_ok _ h1]
    try simp only
    rw [bnd_ok _ h3]
    try simp only
    rw [if_neg (by rw [s2]; decide), if_pos s2, bnd_ok _ hw2]
    try simp only
    rw [bnd_ok _ h2]
    rfl
  have hex := br_ex s0 k0 hbr (.inl s4)
  have hexW : exW L' e' 0 = .ok (.nd { mkN 29 1 (tok L' e' 2) with t := Ps.bs (T2.Tp.val t) } [.nd { mkN 4 0 (tok L' e' 1) with n := (tok L' e' 1).n, s := Ps.bs (tok L' e' 1).s } []], 3 + L.length + 1, []) := by
    unfold exW
    rw [hlen', show 10 * (L.length + 4 - 0) + 7 = 10 * L.length + 40 + 7 by omega]
    exact hex
  unfold exprV
  rw [hexW]
  simp only [finW]
  rw [if_neg (by omega)]
  exact ⟨_, _, rfl, rfl⟩
end Ps
end Go.Proofs.YtohjfikjbeafiaaGreatDoor
namespace Go.Proofs.YtohjfikjbeafiaaGreatDoor
open Go.RowKit Ps
set_option maxRecDepth 100000
set_option linter.unusedSimpArgs false

/-- Bytes as cells. -/
def bc (l : List UInt8) : List Value := l.map fun c => .int .u8 (c.toNat : Int)
theorem bc_len (l : List UInt8) : (bc l).length = l.length := by simp [bc]
theorem bc_app (a b : List UInt8) : bc (a ++ b) = bc a ++ bc b := by simp [bc]
theorem bc_one (l : List UInt8) : ∀ u ∈ bc l, u.oneCell' = true := by
  intro u hu
  unfold bc at hu
  obtain ⟨c, _, rfl⟩ := List.mem_map.1 hu
  rfl
theorem bc_get {l : List UInt8} {j : Nat} {u : Value} (h : (bc l)[j]? = some u) : j < l.length ∧ u = .int .u8 (T1.Tx.B l j) := by
  unfold bc at h
  rw [List.getElem?_map] at h
  cases hl : l[j]? with
  | none => rw [hl] at h; cases h
  | some c =>
    rw [hl] at h
    simp at h
    refine ⟨(List.getElem?_eq_some_iff.1 hl).1, ?_⟩
    unfold T1.Tx.B
    rw [hl, ← h]
    rfl
/-- A row that the call owns, as a source. -/
theorem src_own {w : World} {base : Nat} {v : Value} {l : List UInt8} (h : w.ownsRow base 5 1 v l.length (bc l)) : T1.IsSrc w v l := by
  by_cases h0 : l = []
  · subst h0
    obtain ⟨a, c, rfl⟩ := own_len h
    exact .inl ⟨rfl, a, c, rfl⟩
  · have hp := List.length_pos_iff.2 h0
    obtain ⟨g, cap, rfl, hc, hg, hcell⟩ := own_cells h hp
    refine .inr ⟨g, 0, cap, rfl, hc, (h.lt g rfl).2, fun j hj => ?_⟩
    rw [Nat.zero_add, hcell j (by omega)]
    unfold bc T1.Tx.B
    rw [List.getElem?_map, List.getElem?_eq_getElem hj]
    rfl
/-- The cells of a source that isn't empty. -/
theorem src_cells {w : World} {v : Value} {l : List UInt8} (h : T1.IsSrc w v l) (h0 : 0 < l.length) : ∃ b off cap, v = .slice (some ⟨b, off, none⟩) l.length cap ∧ ∀ j u, (bc l)[j]? = some u → w.cell? ((⟨b, off, none⟩ : Addr).add j) = some u := by
  rcases h with ⟨rfl, _⟩ | ⟨b, off, cap, rfl, h1, h2, h3⟩
  · simp at h0
  · refine ⟨b, off, cap, rfl, fun j u hj => ?_⟩
    obtain ⟨hl, rfl⟩ := bc_get hj
    rw [Addr.add_lit]
    exact h3 j hl
theorem lit_cells (w : World) (l : List UInt8) (fr : Nat × Nat) : ∀ j u, (bc l)[j]? = some u → (w.alloc (.cells (bc l).toArray 5 fr)).cell? ((⟨w.heap.size, 0, none⟩ : Addr).add j) = some u := by
  intro j u hj
  rw [Addr.add_lit, Nat.zero_add, World.cell?_alloc_mark, List.getElem?_toArray]
  exact hj
theorem below_none {w w' : World} (h : w.grownBy w' none) : Below w.heap.size w w' := ⟨h.os, h.tape, h.output, h.size, fun k hk => h.block k hk (by simp)⟩
theorem below_row {w w' : World} {base : Nat} {v : Value} {n : Nat} {xs : List Value} (hb : base ≤ w.heap.size) (ho : w.ownsRow base 5 1 v n xs) (h : w.grownBy w' v.ownBlock) : Below base w w' := (Below.refl base w).grown h hb (fun k e => (ho.lt k e).1)
theorem und9 : Tryz.prog.underlying 9 = some .string := by kernel_rfl
/-- No error bears the number 0. -/
theorem fin_err {α : Type} {L : List PT} {e : PT} {r : Rv α} {c : Int} {q : Int × Int} (h : finW L e r = .error (c, q)) : c ≠ 0 := by
  cases r with
  | error j => simp [finW] at h; omega
  | ok x =>
    obtain ⟨a, j, l⟩ := x
    simp only [finW] at h
    split at h
    · simp at h; omega
    · cases hf : firstL (effE lm0 l) with
      | none => rw [hf] at h; cases h
      | some y =>
        obtain ⟨c', q'⟩ := y
        rw [hf] at h
        simp at h
        obtain ⟨rfl, _⟩ := h
        unfold firstL at hf
        split at hf
        · simp at hf; omega
        · split at hf
          · simp at hf; omega
          · split at hf
            · simp at hf; omega
            · split at hf
              · simp at hf; omega
              · split at hf
                · simp at hf; omega
                · cases hf
theorem src_err {α : Type} {V : List PT → PT → Rv α} {bs : List UInt8} {c : Int} {q : Int × Int} (h : srcW V bs = .error (c, q)) : c ≠ 0 := by
  unfold srcW at h
  cases hb : T1.Tx.all bs with
  | error x =>
    obtain ⟨er, k⟩ := x
    rw [hb] at h
    have := all_err _ _ hb
    simp at h
    omega
  | ok l => rw [hb] at h; exact fin_err h
end Go.Proofs.YtohjfikjbeafiaaGreatDoor
namespace Go.Proofs.YtohjfikjbeafiaaGreatDoor
open Go.RowKit Ps
set_option maxRecDepth 100000
set_option linter.unusedSimpArgs false

set_option maxHeartbeats 16000000 in
theorem parseTypes_any (W : World) (hv : T1.Vars W) (h2 : 6 ≤ W.heap.size) (a0 : Option Addr) (cap0 : Nat) (bs : List UInt8) (hsrc : T1.IsSrc W (.slice a0 bs.length cap0) bs) :
    Calls Tryz.prog 7 #[.slice a0 bs.length cap0] W fun e w' => e = .returned (.bool true) ∧ Below W.heap.size W w' := by
  have HV : Aside (∀ w, Below W.heap.size W w → T1.Vars w ∧ 6 ≤ w.heap.size) := fun w hB => ⟨hv.below hB, Nat.le_trans h2 hB.size⟩
  have HK : Aside (∀ (w : World) (C : Array Value) (n c : Nat), (convert 22 22 (.slice (some ⟨w.heap.size, 0, none⟩) n c)).run Tryz.prog (w.alloc (.cells C 5)) = .ok (.slice (some ⟨w.heap.size, 0, none⟩) n c) (w.alloc (.cells C 5 (C.size, C.size + 1)))) := fun w C n c => Lib.run_convert_bytes_const w 22 5 C n c tyBytes und5
  have hwk := works_any W hv h2
  obtain ⟨i0, hi, hz0, hz1, hz2⟩ := info_parts info5
  by_cases hbig : 4096 < bs.length
  · have hbig' : (4096 : Int) < (bs.length : Int) := by omega
    go_enter Tryz.func7, Tryz.ntmps7
    go_wp2_with fail
    refine hwk.mono ?_
    rintro e1 w1 ⟨rfl, hB1⟩
    clear hwk
    go_wp2_with fail
    go_ret
    exact ⟨rfl, hB1⟩
  have hbig' : ¬ (4096 : Int) < (bs.length : Int) := by omega
  have HFc : Aside (∀ w, Below W.heap.size W w → Calls Tryz.prog 20 #[.slice a0 bs.length cap0] w (WhEnd OwnT (.string ⟨#[]⟩) w (typeF bs))) := fun w hB => faceT_any w _ bs (hsrc.kept hB) (by omega) (HV.out w hB).1 (HV.out w hB).2
  rcases hr : typeF bs with ⟨c, pa, pc⟩ | a
  · rw [hr] at HFc
    have hc0 : c ≠ 0 := src_err hr
    have hc1 : (c == 0) = false := by simpa using hc0
    have hc2 : (c != 0) = true := by simpa using hc0
    clear hr
    go_enter Tryz.func7, Tryz.ntmps7
    go_wp2_with fail
    refine hwk.mono ?_
    rintro e1 w1 ⟨rfl, hB1⟩
    have hf := HFc.out w1 hB1
    clear hwk HFc
    go_wp2_with fail
    refine hf.mono ?_
    rintro e2 w2 ⟨hB2, rfl⟩
    have HB : Aside (∀ o, Below W.heap.size W (w2.alloc o)) := fun o => (hB1.trans (hB2.mono hB1.size)).alloc (hB1.trans (hB2.mono hB1.size)).size o
    clear hf hB2
    go_wp2_with fail
    go_ret
    exact ⟨rfl, HB.out _⟩
  rw [hr] at HFc
  have hr1 := type_around hr
  obtain ⟨x, y, hr2, hxt⟩ := type_in_expr hr
  have hck : T2.Tp.chk (S a).data.toList = (0, 0) := by
    obtain ⟨l, t, _, _, hle, rfl⟩ := type_out hr
    exact T2.Tp.chk_snd ((T2.Tp.chk_val t).2 hle)
  have hpos : 0 < bs.length := by
    by_cases h0 : bs = []
    · subst h0; exact absurd hr (by have e : typeF [] = .error (15, (1, 1)) := (by kernel_rfl); rw [e]; intro h; cases h)
    · exact List.length_pos_iff.2 h0
  have hchk := fun w => T2.check_any (S a) w
  rw [hck] at hchk
  obtain ⟨sb, soff, scap, hvv, hsc⟩ := src_cells hsrc hpos
  obtain ⟨rfl, rfl⟩ : a0 = some ⟨sb, soff, none⟩ ∧ cap0 = scap := by simpa using hvv
  have hsb : sb < W.heap.size := by
    rcases hsrc with ⟨h, _⟩ | ⟨b, o, c, h1, h2, h3, _⟩
    · rw [h] at hpos; simp at hpos
    · simp at h1; omega
  have HX : Aside (x.t = S a) := hxt
  clear hr hck hvv hsrc hxt hbig
  go_enter Tryz.func7, Tryz.ntmps7
  go_wp2_with fail
  refine hwk.mono ?_
  rintro e1 w1 ⟨rfl, hB1⟩
  have hf := HFc.out w1 hB1
  clear hwk HFc
  go_wp2_with fail
  refine hf.mono ?_
  rintro e2 w2 ⟨hB2, v2, rfl, rfl⟩
  have hB3 : Below W.heap.size W (w2.alloc (.cells #[.int .i64 0, .int .i64 0] 28)) := (hB1.trans (hB2.mono hB1.size)).alloc (hB1.trans (hB2.mono hB1.size)).size _
  clear hf hB2
  go_wp2_with fail
  refine (hchk _).mono ?_
  rintro e3 x3 ⟨rfl, rfl⟩
  generalize hw3 : w2.alloc (.cells #[.int .i64 0, .int .i64 0] 28) = w3 at *
  clear hchk hw3
  have kcA : (convert 22 22 (.slice (some ⟨w3.heap.size, 0, none⟩) 2 2)).run Tryz.prog (w3.alloc (.cells #[.int .u8 40, .int .u8 40] 5)) = .ok (.slice (some ⟨w3.heap.size, 0, none⟩) 2 2) (w3.alloc (.cells #[.int .u8 40, .int .u8 40] 5 (2, 3))) := HK.out w3 #[.int .u8 40, .int .u8 40] 2 2
  have hBmA : Below W.heap.size W (w3.alloc (.cells #[.int .u8 40, .int .u8 40] 5 (2, 3))) := hB3.alloc hB3.size _
  have hlA : ∀ j u, (bc [40, 40])[j]? = some u → (w3.alloc (.cells #[.int .u8 40, .int .u8 40] 5 (2, 3))).cell? ((⟨w3.heap.size, 0, none⟩ : Addr).add j) = some u := lit_cells w3 [40, 40] (2, 3)
  have hxA : ∀ j u, (bc bs)[j]? = some u → (w3.alloc (.cells #[.int .u8 40, .int .u8 40] 5 (2, 3))).cell? ((⟨sb, soff, none⟩ : Addr).add j) = some u := fun j u hj => by have h := hsc j u hj; rw [Addr.add_lit] at h ⊢; exact (hBmA.cell (p := ⟨sb, soff + j, none⟩) hsb).trans h
  have HZA : Aside ((w3.alloc (.cells #[.int .u8 40, .int .u8 40] 5 (2, 3))).heap.size = w3.heap.size + 1) := by show _ = _; simp
  go_upto_region 9 with (at_builtin; go_must (refine wpList_append_grows _ rfl _ _ 22 rfl 5 i0 _ 1 1 tyBytes hi hz0 hz1 hz2 rfl (by decide) (some ⟨w3.heap.size, 0, none⟩) 2 2 (bc [40, 40]) rfl (fun h => by cases h) rfl (fun b hb => by cases hb; exact hlA) ⟨sb, soff, none⟩ bs.length cap0 (bc bs) rfl (by rw [bc_len]; omega) hxA (bc_one bs) (by omega) (by unfold maxLen; omega) (by omega) ?_); intro vaA waA hoaA hgaA)
  have hbaA := below_none hgaA
  have hBaA : Below W.heap.size W waA := hBmA.trans (hbaA.mono hBmA.size)
  obtain ⟨aaA, acA, rfl⟩ := own_len hoaA
  have hszA : (w3.alloc (.cells #[.int .u8 40, .int .u8 40] 5 (2, 3))).heap.size ≤ waA.heap.size := hbaA.size
  clear kcA hlA hxA hgaA hbaA
  go_wp2_with (at_builtin; go_must (refine Lib.wpList_append_own_string _ rfl _ _ 22 9 rfl _ 5 i0 tyBytes und9 hi hz0 hz1 hz2 (.slice aaA (2 + bs.length) acA) _ _ rfl hoaA ⟨#[10, 41, 32, 41]⟩ rfl (by unfold maxLen; show 2 + bs.length + 4 ≤ _; omega) (by show 2 + bs.length + 4 ≤ _; omega) hszA ?_); intro vbA wbA hobA hgbA _)
  have hbbA := below_row hszA hoaA hgbA
  have hBbA : Below W.heap.size W wbA := hBaA.trans (hbbA.mono (Nat.le_trans hBmA.size (Nat.le_refl _)))
  have hrowA : wbA.ownsRow (w3.alloc (.cells #[.int .u8 40, .int .u8 40] 5 (2, 3))).heap.size 5 1 vbA (T1.Tx.put [40, 40] bs [41, 32, 41]).length (bc (T1.Tx.put [40, 40] bs [41, 32, 41])) := (by rw [show (T1.Tx.put [40, 40] bs [41, 32, 41]).length = 2 + bs.length + 4 by (rw [T1.Tx.put_len]; simp <;> omega), show bc (T1.Tx.put [40, 40] bs [41, 32, 41]) = bc [40, 40] ++ bc bs ++ Lib.strCells ⟨#[10, 41, 32, 41]⟩ by (unfold T1.Tx.put; rw [bc_app, bc_app, ← List.append_assoc]; rfl)]; exact hobA)
  have hsrA := src_own hrowA
  have hfA := faceT_any wbA _ _ hsrA (by rw [T1.Tx.put_len]; simp <;> omega) (HV.out _ hBbA).1 (HV.out _ hBbA).2
  rw [hr1] at hfA
  clear hobA hgbA hrowA hsrA hoaA
  refine hfA.mono ?_
  rintro e5 w5 ⟨hB5, v5, rfl, rfl⟩
  have hB6 : Below W.heap.size W (w5.alloc (.cells #[.int .i64 0, .int .i64 0] 28)) := (hBbA.trans (hB5.mono hBbA.size)).alloc (hBbA.trans (hB5.mono hBbA.size)).size _
  clear hfA hB5
  go_upto_region 11 with fail
  generalize hw6 : w5.alloc (.cells #[.int .i64 0, .int .i64 0] 28) = w6 at *
  clear hw6
  have kcB : (convert 22 22 (.slice (some ⟨w6.heap.size, 0, none⟩) 3 3)).run Tryz.prog (w6.alloc (.cells #[.int .u8 40, .int .u8 120, .int .u8 58] 5)) = .ok (.slice (some ⟨w6.heap.size, 0, none⟩) 3 3) (w6.alloc (.cells #[.int .u8 40, .int .u8 120, .int .u8 58] 5 (3, 4))) := HK.out w6 #[.int .u8 40, .int .u8 120, .int .u8 58] 3 3
  have hBmB : Below W.heap.size W (w6.alloc (.cells #[.int .u8 40, .int .u8 120, .int .u8 58] 5 (3, 4))) := hB6.alloc hB6.size _
  have hlB : ∀ j u, (bc [40, 120, 58])[j]? = some u → (w6.alloc (.cells #[.int .u8 40, .int .u8 120, .int .u8 58] 5 (3, 4))).cell? ((⟨w6.heap.size, 0, none⟩ : Addr).add j) = some u := lit_cells w6 [40, 120, 58] (3, 4)
  have hxB : ∀ j u, (bc bs)[j]? = some u → (w6.alloc (.cells #[.int .u8 40, .int .u8 120, .int .u8 58] 5 (3, 4))).cell? ((⟨sb, soff, none⟩ : Addr).add j) = some u := fun j u hj => by have h := hsc j u hj; rw [Addr.add_lit] at h ⊢; exact (hBmB.cell (p := ⟨sb, soff + j, none⟩) hsb).trans h
  have HZB : Aside ((w6.alloc (.cells #[.int .u8 40, .int .u8 120, .int .u8 58] 5 (3, 4))).heap.size = w6.heap.size + 1) := by show _ = _; simp
  go_upto_region 12 with (at_builtin; go_must (refine wpList_append_grows _ rfl _ _ 22 rfl 5 i0 _ 1 1 tyBytes hi hz0 hz1 hz2 rfl (by decide) (some ⟨w6.heap.size, 0, none⟩) 3 3 (bc [40, 120, 58]) rfl (fun h => by cases h) rfl (fun b hb => by cases hb; exact hlB) ⟨sb, soff, none⟩ bs.length cap0 (bc bs) rfl (by rw [bc_len]; omega) hxB (bc_one bs) (by omega) (by unfold maxLen; omega) (by omega) ?_); intro vaB waB hoaB hgaB)
  have hbaB := below_none hgaB
  have hBaB : Below W.heap.size W waB := hBmB.trans (hbaB.mono hBmB.size)
  obtain ⟨aaB, acB, rfl⟩ := own_len hoaB
  have hszB : (w6.alloc (.cells #[.int .u8 40, .int .u8 120, .int .u8 58] 5 (3, 4))).heap.size ≤ waB.heap.size := hbaB.size
  clear kcB hlB hxB hgaB hbaB
  go_wp2_with (at_builtin; go_must (refine Lib.wpList_append_own_string _ rfl _ _ 22 9 rfl _ 5 i0 tyBytes und9 hi hz0 hz1 hz2 (.slice aaB (3 + bs.length) acB) _ _ rfl hoaB ⟨#[10, 41]⟩ rfl (by unfold maxLen; show 3 + bs.length + 2 ≤ _; omega) (by show 3 + bs.length + 2 ≤ _; omega) hszB ?_); intro vbB wbB hobB hgbB _)
  have hbbB := below_row hszB hoaB hgbB
  have hBbB : Below W.heap.size W wbB := hBaB.trans (hbbB.mono (Nat.le_trans hBmB.size (Nat.le_refl _)))
  have hrowB : wbB.ownsRow (w6.alloc (.cells #[.int .u8 40, .int .u8 120, .int .u8 58] 5 (3, 4))).heap.size 5 1 vbB (T1.Tx.put [40, 120, 58] bs [41]).length (bc (T1.Tx.put [40, 120, 58] bs [41])) := (by rw [show (T1.Tx.put [40, 120, 58] bs [41]).length = 3 + bs.length + 2 by (rw [T1.Tx.put_len]; simp <;> omega), show bc (T1.Tx.put [40, 120, 58] bs [41]) = bc [40, 120, 58] ++ bc bs ++ Lib.strCells ⟨#[10, 41]⟩ by (unfold T1.Tx.put; rw [bc_app, bc_app, ← List.append_assoc]; rfl)]; exact hobB)
  have hsrB := src_own hrowB
  have hfB := faceN_any wbB _ _ hsrB (by rw [T1.Tx.put_len]; simp <;> omega) (HV.out _ hBbB).1 (HV.out _ hBbB).2
  rw [hr2] at hfB
  clear hobB hgbB hrowB hsrB hoaB
  refine hfB.mono ?_
  rintro e7 w7 ⟨hB7, v7, rfl, hO7⟩
  have hO8 : (w7.alloc (.cells #[.int .i64 0, .int .i64 0] 28)).ownsRow wbB.heap.size 80 8 v7 2 (nrow [x, y]) := own_below hO7 ((Below.refl _ _).alloc (Nat.le_refl _) _)
  have HBF : Aside (Below W.heap.size W (w7.alloc (.cells #[.int .i64 0, .int .i64 0] 28))) := (hBbB.trans (hB7.mono hBbB.size)).alloc (hBbB.trans (hB7.mono hBbB.size)).size _
  obtain ⟨g8, c8, rfl, hc8, _, hn8⟩ := own_cells hO8 (by decide)
  have t8 : (w7.alloc (.cells #[.int .i64 0, .int .i64 0] 28)).cell? ⟨g8, 4, none⟩ = some (.string (S a)) := (hn8 4 (by decide)).trans (by rw [← HX.out]; rfl)
  have hq : ((S a).toList == (S a).toList) = true := by simp
  clear hfB hB7 hO7 hO8 hn8
  go_wp2_with fail
  go_ret
  exact ⟨rfl, HBF.out⟩
end Go.Proofs.YtohjfikjbeafiaaGreatDoor
namespace Go.Proofs.YtohjfikjbeafiaaGreatDoor
open Go.ChangeShapes Go.WideShapes Go.ChangeAt Go.RowKit

set_option maxRecDepth 100000 in
theorem parseTypes_lifted (os : Os) (started : os.Started) (H : Type) (enc : TypeId × Value → H) :
    ReturnsInHanded {} Tryz.checked os 7 .any (fun w args => (Rows.parseTypesSpec.pre enc Tryz.prog Tryz.f7 [] false w args ∧ laidMetH Tryz.prog laidAll w) ∧ sizedMet enc Tryz.prog Tryz.f7 (OpenSpec.ofChange Rows.parseTypesSpec) false w args)
      (Rows.parseTypesSpec.post enc Tryz.prog Tryz.f7 false true false false) := by
  refine returnsInHanded_of_change_and (C := Tryz.checked) (X := fun w _ => laidMetH Tryz.prog laidAll w) (fun _ _ _ hh h => h.of_heap hh) ownKnobs started (by kernel_rfl) Tryz.func7
    (ChangeSpec.witness_shaped (enc := enc) (C := Tryz.checked) (os := os) (X := fun w _ => laidMetH Tryz.prog laidAll w) false (World.doorLaid Tryz.prog 400 os) #[.slice none 0 0] 8 rfl (World.shaped_of_RefB (by kernel_rfl) (by kernel_rfl)) (by kernel_rfl) (by kernel_rfl) (by kernel_rfl) (door_met os _)) ?_
  intro W base args ds gs before hval0 hW hgs _ hL _
  have hval : ∀ (j : Nat) t v, Tryz.f7.params[j]? = some t → args[j]? = some v → Value.okWide Tryz.prog W .any base t v := hval0
  have hW' := hW
  obtain ⟨p, q, hA0, hV, rfl, hfz, hnd⟩ := hW
  have hA : DataW.TrodAll enc Tryz.prog W 0 (fun _ => true) true Tryz.f7.params.toList args.toList ds p := hA0
  rw [Tryz.params7] at hA hval
  obtain ⟨v0, vs0, d0, ds0, p0, q0, hargs, rfl, rfl, h0, r0⟩ := trodAll_cons hA
  obtain ⟨rfl, rfl, rfl⟩ := trodAll_nil r0
  obtain rfl : args = #[v0] := by cases args; simp_all
  obtain ⟨rfl, rfl⟩ := trodVars_none hV
  obtain ⟨a0, len0, cap0, rfl⟩ := okWide_slice Tryz.underlying22 (hval 0 22 v0 rfl rfl)
  have k0 := h0
  have lt0 : ∀ x ∈ p0, x.block < W.heap.size := by obtain ⟨m, hm⟩ := k0; exact DataW.trod_lt m _ _ _ hm
  obtain ⟨bs, hbl, hsrc, hbc, hml⟩ : ∃ bs : List UInt8, bs.length = len0 ∧ T1.IsSrc W (.slice a0 bs.length cap0) bs ∧ bs.length ≤ cap0 ∧ bs.length ≤ maxLen := by
    obtain ⟨fuel, hf⟩ := h0
    rcases open_ints Tryz.underlying22 Tryz.underlying5 (by kernel_rfl) hf with ⟨hcs, _⟩ | ⟨x, l, c, zs, hcs, _, hl, hm, hz, _, hcell, hwz⟩
    · simp [Value.cells] at hcs
      obtain ⟨rfl, rfl, rfl⟩ := hcs
      exact ⟨[], rfl, Or.inl ⟨rfl, _, _, rfl⟩, by simp, by simp⟩
    · simp [Value.cells] at hcs
      obtain ⟨rfl, rfl, rfl⟩ := hcs
      obtain ⟨bs, e1, e2, e3⟩ := src_of_row hl (by simpa using hz) hcell hwz
      exact ⟨bs, e1, e2, e3, by omega⟩
  have hvs := vars_of_laid hL
  have h2 : 6 ≤ W.heap.size := size_of_laid hL
  clear hA0 hval0
  subst hbl
  refine (parseTypes_any W hvs h2 a0 cap0 bs hsrc).mono fun e W' ⟨he, bel⟩ => ?_
  subst he
  exact ⟨_, rfl, _, _, _, [], _, [], hW', trodAll_mk1 (shut_bool Tryz.underlying4 _), (trodAll_cons_mk (Below.trod laidOutAll (by kernel_rfl) (of_decide_eq_true (by kernel_rfl)) k0 bel lt0) trodAll_mk0), rfl, bel.frame _, fun h => by cases h⟩

theorem parseTypes_row : Rows.ParseTypesSaid :=
  OpenClaim.holds_of_wide 7 Tryz.f7 rfl rfl rfl rfl rfl rfl rfl ⟨rfl, rfl, rfl, rfl, rfl⟩ rfl rfl rfl rfl rfl (by kernel_rfl) Tryz.func7 (by kernel_rfl)
    (of_decide_eq_true (by kernel_rfl)) (by unfold Func.isWrapper; first | (rw [if_pos (by decide +kernel)]; kernel_rfl) | (rw [if_neg (by decide +kernel)]; exact ⟨rfl, rfl⟩))
    (fun os started H enc _ => parseTypes_lifted os started H enc)

theorem parseTypes_card : Rows.ParseTypesCardSaid :=
  Claim7.holds_tied_plain_at .later [] [.data, .data, .data, .sentinel, .sentinel] true (true, "74ae8284a65c62c3fdb6af67613f696d9ffd0a6b2f00fea9c0aa13435902ef90") true
    parseTypes_row (fun _ h => by cases h) (by kernel_rfl) (fun _ h => by cases h) parseTypes_row_tie rfl ⟨rfl, rfl⟩ (by kernel_rfl) rfl
    (fun f fn hf hfn => by
      obtain rfl : f = 7 := Option.some.inj ((show Tryz.prog.funcNamed "culprit/culpritlaw06.ParseTypes" = some 7 by kernel_rfl).symm.trans hf) |>.symm
      obtain rfl : fn = Tryz.f7 := (Option.some.inj (Tryz.func7.symm.trans hfn)).symm
      exact ⟨by kernel_rfl, fun j t ht => by
        rw [Tryz.params7] at ht
        have hm : t ∈ [22] := by simpa using Array.mem_of_getElem? ht
        have hall : ([22].all fun u => !Tryz.prog.wantsStandIn u) = true := by kernel_rfl
        exact (show Tryz.prog.wantsStandIn t = false by simpa using List.all_eq_true.1 hall t hm)⟩)
    (by kernel_rfl)
end Go.Proofs.YtohjfikjbeafiaaGreatDoor
