/- A source that is read, put among others: it is read again. A type's source in brackets, behind a colon: it is read as the same type. A type's source behind a colon; an expression's source in brackets, and in a module: read as the same. Sources that the statements write: something, a source, something more. An expression's source in brackets, and in a module: it is read as the same tree. An expression's source as a def of a module: it is read as the same tree. Plain facts about quoted texts: how a text is written as a token, and that it is read as just this text. -/
import Derived.Test.YtohjfikjbeafiaaGreatDoorGaz
import Derived.Test.YtohjfikjbeafiaaGreatDoorGaw
import Derived.KernelRfl
import Derived.Test.YtohjfikjbeafiaaGreatDoorGay
import Derived.ArgAppend
import Derived.Lib.AppendStr
import Derived.Test.YtohjfikjbeafiaaGreatDoorGac
namespace Go.Proofs.YtohjfikjbeafiaaGreatDoor
open Ps
namespace Ps
open T1.Tx
/-- No limit is passed where none is told. -/
def nz (lm : Lim) : Prop := lm.p0 ≠ (0, 0) ∨ lm.p1 ≠ (0, 0) ∨ lm.p2 ≠ (0, 0) ∨ lm.p3 ≠ (0, 0) ∨ lm.p4 ≠ (0, 0)
theorem note_nz {p q : Int × Int} (h : p ≠ (0, 0)) : note p q ≠ (0, 0) := by unfold note; rw [if_neg h]; exact h
theorem note_new {p q : Int × Int} (h : q ≠ (0, 0)) : note p q ≠ (0, 0) := by
  unfold note; split
  · exact h
  · assumption
theorem psE_nz {lm : Lim} (v : Ev) (h : nz lm) : nz (psE lm v) := by
  obtain ⟨n, q⟩ := v
  unfold nz at *
  unfold psE
  rcases h with h | h | h | h | h
  all_goals split
  all_goals first
    | exact .inl (by first | exact h | exact note_nz h)
    | exact .inr (.inl (by first | exact h | exact note_nz h))
    | exact .inr (.inr (.inl (by first | exact h | exact note_nz h)))
    | exact .inr (.inr (.inr (.inl (by first | exact h | exact note_nz h))))
    | exact .inr (.inr (.inr (.inr (by first | exact h | exact note_nz h))))
theorem psE_new {lm : Lim} : ∀ (v : Ev), v.2 ≠ (0, 0) → nz (psE lm v)
  | (0, _), h => .inl (note_new h)
  | (1, _), h => .inr (.inl (note_new h))
  | (2, _), h => .inr (.inr (.inl (note_new h)))
  | (3, _), h => .inr (.inr (.inr (.inl (note_new h))))
  | (_ + 4, _), h => .inr (.inr (.inr (.inr (note_new h))))
theorem effE_nz : ∀ (l : List Ev) (lm : Lim), nz lm → nz (effE lm l)
  | [], _, h => h
  | v :: r, lm, h => effE_nz r (psE lm v) (psE_nz v h)
theorem first_nz {lm : Lim} (h : nz lm) : firstL lm ≠ none := by
  unfold nz at h
  unfold firstL
  intro e
  split at e
  · cases e
  · split at e
    · cases e
    · split at e
      · cases e
      · split at e
        · cases e
        · split at e
          · cases e
          · simp_all
theorem first_nil {l : List Ev} (hp : ∀ v ∈ l, v.2 ≠ (0, 0)) (h : firstL (effE lm0 l) = none) : l = [] := by
  cases l with
  | nil => rfl
  | cons v r => exact absurd h (first_nz (effE_nz r _ (psE_new v (hp v (by simp)))))
theorem lgE_pl {bs : List UInt8} {l : List (Tk × Nat)} {g : List Nat} : ∀ v ∈ lgE (ptsOf bs l) (ptEnd bs) g, v.2 ≠ (0, 0) := by
  intro v hv
  unfold lgE at hv
  obtain ⟨i, _, rfl⟩ := List.mem_map.1 hv
  have := tok_ln (bs := bs) (l := l) i
  intro e
  have : (tok (ptsOf bs l) (ptEnd bs) i).ln = 0 := congrArg Prod.fst e
  omega
theorem lgE_nil {L : List PT} {e : PT} {g : List Nat} (h : lgE L e g = []) : g = [] := by
  unfold lgE at h; exact List.map_eq_nil_iff.1 h
/-- The tokens of a source put among others. -/
theorem all_put {A bs post : List UInt8} {l lp pt : List (Tk × Nat)} (hb : T1.Tx.all bs = .ok l) (hp : tk post 0 = .ok lp) (ha : tk (put A bs post) 0 = T1.Tx.ahead pt (tk (put A bs post) A.length)) :
    T1.Tx.all (put A bs post) = .ok (pt ++ (l.map (fun x => (x.1, A.length + x.2)) ++ lp.map fun x => (x.1, (A ++ (bs ++ [10])).length + x.2))) := by
  rw [tk_all] at hb ⊢
  have h1 := put_tk A bs post bs.length 0 (by omega) (by omega) hb
  have hlen := put_len A bs post
  have h2 : tk (put A bs post) (A.length + bs.length) = .ok (lp.map fun x => (x.1, (A ++ (bs ++ [10])).length + x.2)) := by
    rw [tk_blank (by omega) (by rw [put_nl]; decide)]
    have h3 := suf_tk (A ++ (bs ++ [10])) post post.length 0 (by omega) (by omega) hp
    have e1 : (A ++ (bs ++ [10])) ++ post = put A bs post := by simp [put]
    rw [e1] at h3
    rw [← h3]
    congr 1
    simp; omega
  rw [ha]
  rw [Nat.add_zero] at h1
  rw [h1, h2]
  rfl
theorem emb_put {A bs post : List UInt8} {l lp pt : List (Tk × Nat)} {t : Tk} {q : Nat} {r : List (Tk × Nat)} (hr : lp = (t, q) :: r) (ht : t.kind = 5) (hs : t.s = [41] ∨ t.s = [59]) :
    Emb (ptsOf bs l) (ptsOf (put A bs post) (pt ++ (l.map (fun x => (x.1, A.length + x.2)) ++ lp.map fun x => (x.1, (A ++ (bs ++ [10])).length + x.2)))) pt.length := by
  subst hr
  constructor
  · intro i x hx
    unfold ptsOf at hx ⊢
    rw [List.getElem?_map] at hx
    cases hl : l[i]? with
    | none => rw [hl] at hx; cases hx
    | some y =>
      rw [hl] at hx
      simp at hx
      subst hx
      have hi := (List.getElem?_eq_some_iff.1 hl).1
      refine ⟨ptOf (put A bs post) (y.1, A.length + y.2), ?_, rfl, rfl, rfl⟩
      rw [List.getElem?_map, List.getElem?_append_right (by omega), Nat.add_sub_cancel_left, List.getElem?_append_left (by simpa using hi), List.getElem?_map, hl]
      rfl
  · refine ⟨ptOf (put A bs post) (t, (A ++ (bs ++ [10])).length + q), ?_, ht, hs⟩
    unfold ptsOf
    rw [List.getElem?_map, List.getElem?_append_right (by simp), List.getElem?_append_right (by simp)]
    simp
/-- What stood ahead. -/
theorem pre_get {cs : List UInt8} {pt m : List (Tk × Nat)} {i : Nat} {x : Tk × Nat} (h : pt[i]? = some x) : (ptsOf cs (pt ++ m))[i]? = some (ptOf cs x) := by
  unfold ptsOf
  rw [List.getElem?_map, List.getElem?_append_left (List.getElem?_eq_some_iff.1 h).1, h]
  rfl
theorem suf_get {cs : List UInt8} {pt m lp : List (Tk × Nat)} {i : Nat} {x : Tk × Nat} (h : lp[i]? = some x) : (ptsOf cs (pt ++ (m ++ lp)))[pt.length + m.length + i]? = some (ptOf cs x) := by
  unfold ptsOf
  rw [List.getElem?_map, List.getElem?_append_right (by omega), List.getElem?_append_right (by omega), show pt.length + m.length + i - pt.length - m.length = i by omega, h]
  rfl
theorem sg_of_get {L : List PT} {k : Nat} {t : PT} (h : L[k]? = some t) (hk : t.kind = 1 ∨ t.kind = 5) : sg L k = t.s := by unfold sg; rw [h]; simp [hk]
theorem sg_of_name {L : List PT} {k : Nat} {t : PT} (h : L[k]? = some t) (hk : t.kind = 2) : sg L k = [] := by unfold sg; rw [h]; simp [hk]
theorem kd_of_get {L : List PT} {k : Nat} {t : PT} (h : L[k]? = some t) : kd L k = t.kind := by unfold kd; rw [h]
/-- What is told of a type that is read. -/
theorem type_out {bs : List UInt8} {a : List UInt8} (h : typeF bs = .ok a) : ∃ l t, T1.Tx.all bs = .ok l ∧ wh (ptsOf bs l) 0 = .ok (t, (ptsOf bs l).length, []) ∧ (T2.Tp.enc t).length ≤ 64 ∧ a = T2.Tp.val t := by
  unfold typeF srcW at h
  cases hb : T1.Tx.all bs with
  | error q => obtain ⟨er, k⟩ := q; rw [hb] at h; cases h
  | ok l =>
    rw [hb] at h
    simp only [typeV] at h
    cases hw : wh (ptsOf bs l) 0 with
    | error j => rw [hw] at h; cases h
    | ok q =>
      obtain ⟨t, j, g⟩ := q
      rw [hw] at h
      simp only [finW] at h
      have hin : j ≤ (ptsOf bs l).length := by
        unfold wh at hw
        cases hn : tyW' (ptsOf bs l) 0 with
        | error i => rw [hn] at hw; cases hw
        | ok q =>
          obtain ⟨u, i⟩ := q
          rw [hn] at hw
          have := ty_within (ptsOf bs l) (2 * ((ptsOf bs l).length - 0) + 2) true 0 (Nat.zero_le _)
          rw [show ty (ptsOf bs l) (2 * ((ptsOf bs l).length - 0) + 2) true 0 = .ok (u, i) from hn] at this
          cases hw
          exact this.2
      split at h
      · cases h
      · rename_i hj
        obtain rfl : j = (ptsOf bs l).length := by omega
        cases hf : firstL (effE lm0 (lgE (ptsOf bs l) (ptEnd bs) g)) with
        | some c => obtain ⟨c, q⟩ := c; rw [hf] at h; cases h
        | none =>
          rw [hf] at h
          cases h
          have hg := lgE_nil (first_nil lgE_pl hf)
          subst hg
          exact ⟨l, t, rfl, hw, wh_at hw rfl, rfl⟩
end Ps
end Go.Proofs.YtohjfikjbeafiaaGreatDoor
namespace Go.Proofs.YtohjfikjbeafiaaGreatDoor
open Ps
set_option maxRecDepth 100000
namespace Ps
open T1.Tx
theorem ty_br {L : List PT} {d k j : Nat} {t : T2.Tp.Ty} (h0 : sg L k = [40]) (h1 : ty L d true (k + 1) = .ok (t, j)) (h2 : sg L j = [41]) (h3 : sg L (j + 1) ≠ [45, 62]) : ty L (d + 2) true k = .ok (t, j + 1) := by
  have h4 : ty L (d + 1) false k = .ok (t, j + 1) := by
    rw [ty, if_neg (by rw [h0]; decide), if_neg (by rw [h0]; decide), if_neg (by rw [h0]; decide), if_neg (by rw [h0]; decide), if_pos h0, h1]
    simp only
    rw [if_neg (by rw [h2]; decide), if_pos h2]
  rw [ty, h4]
  simp only
  rw [if_neg h3]
def mk (c : UInt8) (k : Nat) : Tk × Nat := (⟨5, 0, [c]⟩, k)
theorem long40 (l : List UInt8) : longB (40 :: l) = false := by simp [longB, longs]
theorem long58 {l : List UInt8} (h : l ≠ [61]) : longB (58 :: l) = false := by simp [longB, longs, h]
theorem ahead_two (a b : Tk × Nat) (r : Except (Int × Nat) (List (Tk × Nat))) : T1.Tx.ahead [a] (T1.Tx.ahead [b] r) = T1.Tx.ahead [a, b] r := by cases r <;> rfl
theorem ahead_cons (a : Tk × Nat) (l : List (Tk × Nat)) (r : Except (Int × Nat) (List (Tk × Nat))) : T1.Tx.ahead [a] (T1.Tx.ahead l r) = T1.Tx.ahead (a :: l) r := by cases r <;> rfl
theorem ahead_app (l m : List (Tk × Nat)) (r : Except (Int × Nat) (List (Tk × Nat))) : T1.Tx.ahead l (T1.Tx.ahead m r) = T1.Tx.ahead (l ++ m) r := by cases r <;> simp [T1.Tx.ahead]
/-- '((' ahead. -/
theorem pre_two (X : List UInt8) : tk ([40, 40] ++ X) 0 = T1.Tx.ahead [mk 40 0, mk 40 1] (tk ([40, 40] ++ X) 2) := by
  have o0 : T1.Tx.one ([40, 40] ++ X) 0 = .ok (⟨5, 0, [40]⟩, 1) := pre_one [40, 40] X (k := 0) (j := 1) (by decide) (by decide) (by decide) (by kernel_rfl) (by decide)
  have o1 : T1.Tx.one ([40, 40] ++ X) 1 = .ok (⟨5, 0, [40]⟩, 2) := last_mark [40, 40] X (k := 1) rfl (by decide) (by decide) (by decide) (by decide) (by rw [last_sub [40, 40] X (k := 1) rfl rfl]; exact long40 _)
  rw [step_tok (by simp) (by rw [pre_at _ _ (by decide)]; decide) (by rw [pre_at _ _ (by decide)]; decide) o0 rfl, step_tok (by simp) (by rw [pre_at _ _ (by decide)]; decide) (by rw [pre_at _ _ (by decide)]; decide) o1 rfl]
  exact ahead_two _ _ _
/-- '(x:' ahead. -/
theorem pre_as {X : List UInt8} (hX : X.take 1 ≠ [61]) : tk ([40, 120, 58] ++ X) 0 = T1.Tx.ahead [mk 40 0, (⟨2, 0, [120]⟩, 1), mk 58 2] (tk ([40, 120, 58] ++ X) 3) := by
  have o0 : T1.Tx.one ([40, 120, 58] ++ X) 0 = .ok (⟨5, 0, [40]⟩, 1) := pre_one [40, 120, 58] X (k := 0) (j := 1) (by decide) (by decide) (by decide) (by kernel_rfl) (by decide)
  have o1 : T1.Tx.one ([40, 120, 58] ++ X) 1 = .ok (⟨2, 0, [120]⟩, 2) := pre_one [40, 120, 58] X (k := 1) (j := 2) (by decide) (by decide) (by decide) (by kernel_rfl) (by decide)
  have o2 : T1.Tx.one ([40, 120, 58] ++ X) 2 = .ok (⟨5, 0, [58]⟩, 3) := last_mark [40, 120, 58] X (k := 2) rfl (by decide) (by decide) (by decide) (by decide) (by rw [last_sub [40, 120, 58] X (k := 2) rfl rfl]; exact long58 hX)
  rw [step_tok (by simp) (by rw [pre_at _ _ (by decide)]; decide) (by rw [pre_at _ _ (by decide)]; decide) o0 rfl, step_tok (by simp) (by rw [pre_at _ _ (by decide)]; decide) (by rw [pre_at _ _ (by decide)]; decide) o1 rfl, step_tok (by simp) (by rw [pre_at _ _ (by decide)]; decide) (by rw [pre_at _ _ (by decide)]; decide) o2 rfl]
  rw [ahead_app, ahead_app]; rfl
theorem post_two : tk [41, 32, 41] 0 = .ok [mk 41 0, mk 41 2] := by kernel_rfl
theorem post_one : tk [41] 0 = .ok [mk 41 0] := by kernel_rfl
theorem sg_beyond {L : List PT} {k : Nat} (h : L.length ≤ k) : sg L k = [] := by unfold sg; rw [List.getElem?_eq_none h]
theorem pts_len3 (cs : List UInt8) (a b c : List (Tk × Nat)) : (ptsOf cs (a ++ (b ++ c))).length = a.length + b.length + c.length := by unfold ptsOf; simp; omega

theorem type_around {bs : List UInt8} {a : List UInt8} (h : typeF bs = .ok a) : typeF (put [40, 40] bs [41, 32, 41]) = .ok a := by
  obtain ⟨l, t, hb, hw, hle, rfl⟩ := type_out h
  have hall := all_put hb post_two (pre_two _)
  unfold typeF srcW
  rw [hall]
  simp only
  have hE := emb_put (A := [40, 40]) (bs := bs) (post := [41, 32, 41]) (l := l) (pt := [mk 40 0, mk 40 1]) (q := 0) (t := ⟨5, 0, [41]⟩) (r := [mk 41 2]) (lp := [mk 41 0, mk 41 2]) rfl rfl (.inl rfl)
  generalize hcs : put [40, 40] bs [41, 32, 41] = cs at *
  have hlen := pts_len3 cs [mk 40 0, mk 40 1] (l.map fun x => (x.1, [40, 40].length + x.2)) ([mk 41 0, mk 41 2].map fun x => (x.1, ([40, 40] ++ (bs ++ [10])).length + x.2))
  have g0 := pre_get (cs := cs) (pt := [mk 40 0, mk 40 1]) (m := l.map (fun x => (x.1, [40, 40].length + x.2)) ++ [mk 41 0, mk 41 2].map fun x => (x.1, ([40, 40] ++ (bs ++ [10])).length + x.2)) (i := 0) rfl
  have g1 := pre_get (cs := cs) (pt := [mk 40 0, mk 40 1]) (m := l.map (fun x => (x.1, [40, 40].length + x.2)) ++ [mk 41 0, mk 41 2].map fun x => (x.1, ([40, 40] ++ (bs ++ [10])).length + x.2)) (i := 1) rfl
  have g2 := suf_get (cs := cs) (pt := [mk 40 0, mk 40 1]) (m := l.map (fun x => (x.1, [40, 40].length + x.2))) (lp := [mk 41 0, mk 41 2].map fun x => (x.1, ([40, 40] ++ (bs ++ [10])).length + x.2)) (i := 0) rfl
  have g3 := suf_get (cs := cs) (pt := [mk 40 0, mk 40 1]) (m := l.map (fun x => (x.1, [40, 40].length + x.2))) (lp := [mk 41 0, mk 41 2].map fun x => (x.1, ([40, 40] ++ (bs ++ [10])).length + x.2)) (i := 1) rfl
  generalize hL' : ptsOf cs ([mk 40 0, mk 40 1] ++ (l.map (fun x => (x.1, [40, 40].length + x.2)) ++ [mk 41 0, mk 41 2].map fun x => (x.1, ([40, 40] ++ (bs ++ [10])).length + x.2))) = L' at *
  have hn : (ptsOf bs l).length = l.length := by simp [ptsOf]
  generalize hL : ptsOf bs l = L at *
  simp only [List.length_cons, List.length_nil, List.length_map] at hlen g2 g3
  have s0 : sg L' 0 = [40] := sg_of_get g0 (.inr rfl)
  have s1 : sg L' 1 = [40] := sg_of_get g1 (.inr rfl)
  have s2 : sg L' (2 + L.length) = [41] := by rw [hn]; exact sg_of_get g2 (.inr rfl)
  have s3 : sg L' (2 + L.length + 1) = [41] := by rw [hn]; exact sg_of_get g3 (.inr rfl)
  have s4 : sg L' (2 + L.length + 1 + 1) = [] := sg_beyond (by omega)
  have hty : ∃ d, ty L d true 0 = .ok (t, L.length) ∧ d = 2 * L.length + 2 := by
    refine ⟨_, ?_, rfl⟩
    unfold wh at hw
    cases hx : tyW' L 0 with
    | error i => rw [hx] at hw; cases hw
    | ok q =>
      obtain ⟨u, i⟩ := q
      rw [hx] at hw
      simp only [Except.ok.injEq, Prod.mk.injEq] at hw
      obtain ⟨rfl, rfl, _⟩ := hw
      exact hx
  obtain ⟨d, hty, rfl⟩ := hty
  have h1 := (ty_ext hE _ (2 * L.length + 6) true 0 (by omega) (Nat.zero_le _) hty).1
  have h2 : ty L' (2 * L.length + 6) true (1 + 1) = .ok (t, 2 + L.length) := h1
  have h3 := ty_br s1 h2 s2 (by rw [s3]; decide)
  have h4 := ty_br (k := 0) s0 h3 s3 (by rw [s4]; decide)
  have hlen' : L'.length = L.length + 4 := by omega
  have hw' : wh L' 0 = .ok (t, 2 + L.length + 1 + 1, []) := by
    unfold wh
    rw [show tyW' L' 0 = .ok (t, 2 + L.length + 1 + 1) by unfold tyW'; rw [hlen', show 2 * (L.length + 4 - 0) + 2 = 2 * L.length + 6 + 2 + 2 by omega]; exact h4]
    simp only
    rw [if_pos hle]
  unfold typeV
  rw [hw']
  simp only [finW]
  rw [if_neg (by omega)]
  rfl
end Ps
end Go.Proofs.YtohjfikjbeafiaaGreatDoor
namespace Go.Proofs.YtohjfikjbeafiaaGreatDoor
open Ps
set_option maxRecDepth 100000
namespace Ps
open T1.Tx
open Tr (T Nd)
/-- The first byte of a type's source is no '='. -/
theorem type_first {bs post : List UInt8} {a : List UInt8} (h : typeF bs = .ok a) : (bs ++ 10 :: post).take 1 ≠ [61] := by
  obtain ⟨l, t, hb, hw, _, _⟩ := type_out h
  cases bs with
  | nil => simp
  | cons c r =>
    intro e
    have hc : c = 61 := by simpa using e
    subst hc
    exfalso
    rw [tk_all] at hb
    have h0 : (0 : Nat) < ((61 : UInt8) :: r).length := by simp
    cases h1 : T1.Tx.one (61 :: r) 0 with
    | error er =>
      have := tk_err h0 (by rfl) (by rfl) h1
      rw [this] at hb; cases hb
    | ok q =>
      obtain ⟨x, j⟩ := q
      have h9 := tk_ok [] h0 (by rfl) (by rfl) h1
      rw [ahead_nil, hb] at h9
      cases hr : tk (61 :: r) j with
      | error er => rw [hr] at h9; cases h9
      | ok l2 =>
        rw [hr] at h9
        obtain rfl : l = [(x, 0)] ++ l2 := Except.ok.inj h9
        have hx : x.kind = 5 ∧ (x.s = [61, 62] ∨ x.s = [61, 61] ∨ x.s = [61]) := by
          unfold T1.Tx.one at h1
          rw [if_neg (by simp [B, letterB]), if_neg (by simp [B, digitB]), if_neg (by simp [B])] at h1
          unfold oneMark at h1
          split at h1
          · rename_i hl
            cases h1
            refine ⟨rfl, ?_⟩
            have h2 := hl.2
            cases r with
            | nil => have := hl.1; simp at this
            | cons d r =>
              have e2 : sub (61 :: d :: r) 0 (0 + 2) = [61, d] := by simp [sub]
              show sub (61 :: d :: r) 0 (0 + 2) = [61, 62] ∨ _
              rw [e2]
              rw [e2] at h2
              simp [longB, longs] at h2
              rcases h2 with rfl | rfl <;> simp
          · split at h1
            · cases h1
              exact ⟨rfl, .inr (.inr (by show sub (61 :: r) 0 (0 + 1) = [61]; simp [sub]))⟩
            · cases h1
        have hs : sg (ptsOf (61 :: r) ([(x, 0)] ++ l2)) 0 = x.s := sg_of_get (t := ptOf (61 :: r) (x, 0)) rfl (.inr hx.1)
        have hlen : (ptsOf (61 :: r) ([(x, 0)] ++ l2)).length = l2.length + 1 := by simp [ptsOf]
        generalize ptsOf (61 :: r) ([(x, 0)] ++ l2) = L at *
        unfold wh tyW' at hw
        rw [show 2 * (L.length - 0) + 2 = (2 * (L.length - 0)) + 1 + 1 by omega, ty, ty] at hw
        rcases hx.2 with h3 | h3 | h3 <;> rw [h3] at hs <;> simp [hs] at hw
theorem leaf_ex {L : List PT} {e : PT} {d k : Nat} (hk : kd L k = 2) (hs : sg L k = []) (h1 : sg L (k + 1) = [58]) : pe L e (d + 7) .ex k = .ok (.nd { mkN 4 0 (tok L e k) with n := (tok L e k).n, s := bs (tok L e k).s } [], k + 1, []) := by
  have a1 : pe L e (d + 1) .at k = .ok (.nd { mkN 4 0 (tok L e k) with n := (tok L e k).n, s := bs (tok L e k).s } [], k + 1, []) := by
    rw [pe, if_neg (by rw [hk]; decide), if_neg (by rw [hk]; decide), if_pos hk]; rfl
  generalize T.nd { mkN 4 0 (tok L e k) with n := (tok L e k).n, s := bs (tok L e k).s } [] = v at *
  have a2 : pe L e (d + 2) .cl k = .ok (v, k + 1, []) := by
    rw [pe, bnd_ok _ a1, pe, if_neg (by rw [h1]; decide)]; rfl
  have a3 : pe L e (d + 3) .fc k = .ok (v, k + 1, []) := by
    rw [pe, if_neg (by rw [hs]; decide), if_neg (by rw [hs]; decide)]; exact a2
  have a4 : pe L e (d + 4) .tm k = .ok (v, k + 1, []) := by
    rw [pe, bnd_ok _ a3, pe, if_neg (by rw [h1]; decide)]; rfl
  have a5 : pe L e (d + 5) .sm k = .ok (v, k + 1, []) := by
    rw [pe, bnd_ok _ a4, pe, if_neg (by rw [h1]; decide)]; rfl
  have a6 : pe L e (d + 6) .rk k = .ok (v, k + 1, []) := by
    rw [pe, bnd_ok _ a5, if_neg (by rw [h1]; decide)]; rfl
  rw [pe, if_neg (by rw [hs]; decide), if_neg (by rw [hs]; decide), if_neg (by rw [hs]; decide), if_neg (by rw [hs]; decide), bnd_ok _ a6, if_neg (by rw [h1]; decide)]; rfl
/-- An atom in round brackets, alone. -/
theorem br_ex {L : List PT} {e : PT} {d k j : Nat} {v : T} (hs : sg L k = [40]) (hk : kd L k = 5) (hb : brR L e (pe L e d .ex) k = .ok (v, j, [])) (hj : sg L j = [] ∨ sg L j = [59]) : pe L e (d + 7) .ex k = .ok (v, j, []) := by
  have a1 : pe L e (d + 1) .at k = .ok (v, j, []) := by
    rw [pe, if_neg (by rw [hk]; decide), if_neg (by rw [hk]; decide), if_neg (by rw [hk]; decide), if_neg (by rw [hs]; decide), if_pos hs]; exact hb
  have n1 : sg L j ≠ [40] := by rcases hj with h | h <;> rw [h] <;> decide
  have n2 : sg L j ≠ [42] := by rcases hj with h | h <;> rw [h] <;> decide
  have n3 : ¬ sumK (sg L j) ≠ 0 := by rcases hj with h | h <;> rw [h] <;> decide
  have n4 : ¬ relK (sg L j) ≠ 0 := by rcases hj with h | h <;> rw [h] <;> decide
  have n5 : sg L j ≠ [58, 61] := by rcases hj with h | h <;> rw [h] <;> decide
  have a2 : pe L e (d + 2) .cl k = .ok (v, j, []) := by
    rw [pe, bnd_ok _ a1, pe, if_neg n1]; rfl
  have a3 : pe L e (d + 3) .fc k = .ok (v, j, []) := by
    rw [pe, if_neg (by rw [hs]; decide), if_neg (by rw [hs]; decide)]; exact a2
  have a4 : pe L e (d + 4) .tm k = .ok (v, j, []) := by
    rw [pe, bnd_ok _ a3, pe, if_neg n2]; rfl
  have a5 : pe L e (d + 5) .sm k = .ok (v, j, []) := by
    rw [pe, bnd_ok _ a4, pe, if_neg n3]; rfl
  have a6 : pe L e (d + 6) .rk k = .ok (v, j, []) := by
    rw [pe, bnd_ok _ a5, if_neg n4]; rfl
  rw [pe, if_neg (by rw [hs]; decide), if_neg (by rw [hs]; decide), if_neg (by rw [hs]; decide), if_neg (by rw [hs]; decide), bnd_ok _ a6, if_neg n5]; rfl

theorem type_in_expr {bs : List UInt8} {a : List UInt8} (h : typeF bs = .ok a) : ∃ x y, exprF (put [40, 120, 58] bs [41]) = .ok [x, y] ∧ x.t = Ps.bs a := by
  obtain ⟨l, t, hb, hw, hle, rfl⟩ := type_out h
  have hall := all_put hb post_one (pre_as (type_first h))
  unfold exprF srcW
  rw [hall]
  simp only
  have hE := emb_put (A := [40, 120, 58]) (bs := bs) (post := [41]) (l := l) (pt := [mk 40 0, (⟨2, 0, [120]⟩, 1), mk 58 2]) (q := 0) (t := ⟨5, 0, [41]⟩) (r := []) (lp := [mk 41 0]) rfl rfl (.inl rfl)
  generalize hcs : put [40, 120, 58] bs [41] = cs at *
  have hlen := pts_len3 cs [mk 40 0, (⟨2, 0, [120]⟩, 1), mk 58 2] (l.map fun x => (x.1, [40, 120, 58].length + x.2)) ([mk 41 0].map fun x => (x.1, ([40, 120, 58] ++ (bs ++ [10])).length + x.2))
  have g := fun i x h => pre_get (cs := cs) (pt := [mk 40 0, (⟨2, 0, [120]⟩, 1), mk 58 2]) (m := l.map (fun x => (x.1, [40, 120, 58].length + x.2)) ++ [mk 41 0].map fun x => (x.1, ([40, 120, 58] ++ (bs ++ [10])).length + x.2)) (i := i) (x := x) h
  have g0 := g 0 _ rfl
  have g1 := g 1 _ rfl
  have g2 := g 2 _ rfl
  clear g
  have g3 := suf_get (cs := cs) (pt := [mk 40 0, (⟨2, 0, [120]⟩, 1), mk 58 2]) (m := l.map (fun x => (x.1, [40, 120, 58].length + x.2))) (lp := [mk 41 0].map fun x => (x.1, ([40, 120, 58] ++ (bs ++ [10])).length + x.2)) (i := 0) rfl
  generalize hL' : ptsOf cs ([mk 40 0, (⟨2, 0, [120]⟩, 1), mk 58 2] ++ (l.map (fun x => (x.1, [40, 120, 58].length + x.2)) ++ [mk 41 0].map fun x => (x.1, ([40, 120, 58] ++ (bs ++ [10])).length + x.2))) = L' at *
  generalize ptEnd cs = e' at *
  have hn : (ptsOf bs l).length = l.length := by simp [ptsOf]
  generalize hL : ptsOf bs l = L at *
  simp only [List.length_cons, List.length_nil, List.length_map] at hlen g3
  have s0 : sg L' 0 = [40] := sg_of_get g0 (.inr rfl)
  have k0 : kd L' 0 = 5 := kd_of_get g0
  have s1 : sg L' 1 = [] := sg_of_name g1 rfl
  have k1 : kd L' 1 = 2 := kd_of_get g1
  have s2 : sg L' 2 = [58] := sg_of_get g2 (.inr rfl)
  have s3 : sg L' (3 + L.length) = [41] := by rw [hn]; exact sg_of_get g3 (.inr rfl)
  have hlen' : L'.length = L.length + 4 := by omega
  have s4 : sg L' (3 + L.length + 1) = [] := sg_beyond (by omega)
  obtain ⟨_, t', l', hw', ht', hl'⟩ := rl_wh hE (k := 0) (Nat.zero_le _) t L.length [] hw
  rw [hl' rfl, ht'] at hw'
  have hw2 : wh L' (2 + 1) = .ok (t, 3 + L.length, []) := hw'
  have hbr : brR L' e' (pe L' e' (10 * L.length + 40) .ex) 0 = .ok (.nd { mkN 29 1 (tok L' e' 2) with t := Ps.bs (T2.Tp.val t) } [.nd { mkN 4 0 (tok L' e' 1) with n := (tok L' e' 1).n, s := Ps.bs (tok L' e' 1).s } []], 3 + L.length + 1, []) := by
    have h1 : expc L' e' [40] 0 = .ok (tok L' e' 0, 1, []) := by unfold expc; rw [if_pos s0]
    have h2 : expc L' e' [41] (3 + L.length) = .ok (tok L' e' (3 + L.length), 3 + L.length + 1, []) := by unfold expc; rw [if_pos s3]
    have h3 := leaf_ex (e := e') (d := 10 * L.length + 33) k1 s1 s2
    unfold brR
    rw [bnd_ok _ h1]
    try simp only
    rw [bnd_ok _ h3]
    try simp only
    rw [if_neg (by rw [s2]; decide), if_pos s2, bnd_ok _ hw2]
    try simp only
    rw [bnd_ok _ h2]
    rfl
  have hex := br_ex s0 k0 hbr (.inl s4)
  have hexW : exW L' e' 0 = .ok (.nd { mkN 29 1 (tok L' e' 2) with t := Ps.bs (T2.Tp.val t) } [.nd { mkN 4 0 (tok L' e' 1) with n := (tok L' e' 1).n, s := Ps.bs (tok L' e' 1).s } []], 3 + L.length + 1, []) := by
    unfold exW
    rw [hlen', show 10 * (L.length + 4 - 0) + 7 = 10 * L.length + 40 + 7 by omega]
    exact hex
  unfold exprV
  rw [hexW]
  simp only [finW]
  rw [if_neg (by omega)]
  exact ⟨_, _, rfl, rfl⟩
end Ps
end Go.Proofs.YtohjfikjbeafiaaGreatDoor
namespace Go.Proofs.YtohjfikjbeafiaaGreatDoor
open Go.RowKit Ps
set_option maxRecDepth 100000
set_option linter.unusedSimpArgs false

/-- Bytes as cells. -/
def bc (l : List UInt8) : List Value := l.map fun c => .int .u8 (c.toNat : Int)
theorem bc_len (l : List UInt8) : (bc l).length = l.length := by simp [bc]
theorem bc_app (a b : List UInt8) : bc (a ++ b) = bc a ++ bc b := by simp [bc]
theorem bc_one (l : List UInt8) : ∀ u ∈ bc l, u.oneCell' = true := by
  intro u hu
  unfold bc at hu
  obtain ⟨c, _, rfl⟩ := List.mem_map.1 hu
  rfl
theorem bc_get {l : List UInt8} {j : Nat} {u : Value} (h : (bc l)[j]? = some u) : j < l.length ∧ u = .int .u8 (T1.Tx.B l j) := by
  unfold bc at h
  rw [List.getElem?_map] at h
  cases hl : l[j]? with
  | none => rw [hl] at h; cases h
  | some c =>
    rw [hl] at h
    simp at h
    refine ⟨(List.getElem?_eq_some_iff.1 hl).1, ?_⟩
    unfold T1.Tx.B
    rw [hl, ← h]
    rfl
/-- A row that the call owns, as a source. -/
theorem src_own {w : World} {base : Nat} {v : Value} {l : List UInt8} (h : w.ownsRow base 5 1 v l.length (bc l)) : T1.IsSrc w v l := by
  by_cases h0 : l = []
  · subst h0
    obtain ⟨a, c, rfl⟩ := own_len h
    exact .inl ⟨rfl, a, c, rfl⟩
  · have hp := List.length_pos_iff.2 h0
    obtain ⟨g, cap, rfl, hc, hg, hcell⟩ := own_cells h hp
    refine .inr ⟨g, 0, cap, rfl, hc, (h.lt g rfl).2, fun j hj => ?_⟩
    rw [Nat.zero_add, hcell j (by omega)]
    unfold bc T1.Tx.B
    rw [List.getElem?_map, List.getElem?_eq_getElem hj]
    rfl
/-- The cells of a source that isn't empty. -/
theorem src_cells {w : World} {v : Value} {l : List UInt8} (h : T1.IsSrc w v l) (h0 : 0 < l.length) : ∃ b off cap, v = .slice (some ⟨b, off, none⟩) l.length cap ∧ ∀ j u, (bc l)[j]? = some u → w.cell? ((⟨b, off, none⟩ : Addr).add j) = some u := by
  rcases h with ⟨rfl, _⟩ | ⟨b, off, cap, rfl, h1, h2, h3⟩
  · simp at h0
  · refine ⟨b, off, cap, rfl, fun j u hj => ?_⟩
    obtain ⟨hl, rfl⟩ := bc_get hj
    rw [Addr.add_lit]
    exact h3 j hl
theorem lit_cells (w : World) (l : List UInt8) (fr : Nat × Nat) : ∀ j u, (bc l)[j]? = some u → (w.alloc (.cells (bc l).toArray 5 fr)).cell? ((⟨w.heap.size, 0, none⟩ : Addr).add j) = some u := by
  intro j u hj
  rw [Addr.add_lit, Nat.zero_add, World.cell?_alloc_mark, List.getElem?_toArray]
  exact hj
theorem below_none {w w' : World} (h : w.grownBy w' none) : Below w.heap.size w w' := ⟨h.os, h.tape, h.output, h.size, fun k hk => h.block k hk (by simp)⟩
theorem below_row {w w' : World} {base : Nat} {v : Value} {n : Nat} {xs : List Value} (hb : base ≤ w.heap.size) (ho : w.ownsRow base 5 1 v n xs) (h : w.grownBy w' v.ownBlock) : Below base w w' := (Below.refl base w).grown h hb (fun k e => (ho.lt k e).1)
theorem und9 : Tryz.prog.underlying 9 = some .string := by kernel_rfl
/-- No error bears the number 0. -/
theorem fin_err {α : Type} {L : List PT} {e : PT} {r : Rv α} {c : Int} {q : Int × Int} (h : finW L e r = .error (c, q)) : c ≠ 0 := by
  cases r with
  | error j => simp [finW] at h; omega
  | ok x =>
    obtain ⟨a, j, l⟩ := x
    simp only [finW] at h
    split at h
    · simp at h; omega
    · cases hf : firstL (effE lm0 l) with
      | none => rw [hf] at h; cases h
      | some y =>
        obtain ⟨c', q'⟩ := y
        rw [hf] at h
        simp at h
        obtain ⟨rfl, _⟩ := h
        unfold firstL at hf
        split at hf
        · simp at hf; omega
        · split at hf
          · simp at hf; omega
          · split at hf
            · simp at hf; omega
            · split at hf
              · simp at hf; omega
              · split at hf
                · simp at hf; omega
                · cases hf
theorem src_err {α : Type} {V : List PT → PT → Rv α} {bs : List UInt8} {c : Int} {q : Int × Int} (h : srcW V bs = .error (c, q)) : c ≠ 0 := by
  unfold srcW at h
  cases hb : T1.Tx.all bs with
  | error x =>
    obtain ⟨er, k⟩ := x
    rw [hb] at h
    have := all_err _ _ hb
    simp at h
    omega
  | ok l => rw [hb] at h; exact fin_err h
end Go.Proofs.YtohjfikjbeafiaaGreatDoor
namespace Go.Proofs.YtohjfikjbeafiaaGreatDoor
open Ps
set_option maxRecDepth 100000
namespace Ps
open T1.Tx
open Tr (T Nd)
/-- What is told of an expression that is read. -/
theorem expr_out {bs : List UInt8} {ns : List Nd} (h : exprF bs = .ok ns) : ∃ l t, T1.Tx.all bs = .ok l ∧ exW (ptsOf bs l) (ptEnd bs) 0 = .ok (t, (ptsOf bs l).length, []) ∧ sz t ≤ 4096 ∧ Tr.high t ≤ 64 ∧ ns = Tr.flat t := by
  unfold exprF srcW at h
  cases hb : T1.Tx.all bs with
  | error q => obtain ⟨er, k⟩ := q; rw [hb] at h; cases h
  | ok l =>
    rw [hb] at h
    simp only [exprV] at h
    cases hw : exW (ptsOf bs l) (ptEnd bs) 0 with
    | error j => rw [hw] at h; cases h
    | ok q =>
      obtain ⟨t, j, g⟩ := q
      rw [hw] at h
      simp only [finW] at h
      have hin := (exW_in (Nat.zero_le _) hw).2.1
      split at h
      · cases h
      · rename_i hj
        obtain rfl : j = (ptsOf bs l).length := by omega
        cases hf : firstL (effE lm0 (lgE (ptsOf bs l) (ptEnd bs) g ++ trE (pl (tok (ptsOf bs l) (ptEnd bs) 0)) 0 t)) with
        | some c => obtain ⟨c, q⟩ := c; rw [hf] at h; cases h
        | none =>
          rw [hf] at h
          have hp : ∀ v ∈ lgE (ptsOf bs l) (ptEnd bs) g ++ trE (pl (tok (ptsOf bs l) (ptEnd bs) 0)) 0 t, v.2 ≠ (0, 0) := by
            intro v hv
            rcases List.mem_append.1 hv with hv | hv
            · exact lgE_pl v hv
            · have hl := tok_ln (bs := bs) (l := l) 0
              have : v.2 = pl (tok (ptsOf bs l) (ptEnd bs) 0) := by
                unfold trE at hv
                split at hv
                · simp at hv; rw [hv]
                · split at hv
                  · simp at hv; rw [hv]
                  · simp at hv
              rw [this]
              intro e
              have : (tok (ptsOf bs l) (ptEnd bs) 0).ln = 0 := congrArg Prod.fst e
              omega
          have hnil := first_nil hp hf
          obtain ⟨h1, h2⟩ := List.append_eq_nil_iff.1 hnil
          have hg := lgE_nil h1
          subst hg
          unfold trE at h2
          split at h2
          · cases h2
          · rename_i h4
            split at h2
            · cases h2
            · rename_i h5
              have e : trL 0 t = Tr.flat t := if_neg h4
              rw [e] at h
              cases h
              exact ⟨l, t, rfl, hw, by omega, by omega, rfl⟩
theorem kd_er (l : List Nd) : Tr.kd (l.map er) = Tr.kd l := by
  unfold Tr.kd; rw [List.map_map]; rfl
theorem deep_er (l : List Nd) : deepN (l.map er) = deepN l := by
  have hb : bhI (l.map er) 0 = bhI l 0 := by
    unfold bhI
    split
    · rfl
    · unfold Tr.bh
      rw [List.length_map, ← List.map_drop, kd_er]
  unfold deepN
  rw [hb, kd_er, List.length_map]
theorem lk_same {t t' : T} (h : Lk t t') (hw : Tr.wf t) (hw' : Tr.wf t') : sz t' = sz t ∧ Tr.high t' = Tr.high t := by
  refine ⟨?_, ?_⟩
  · have := congrArg List.length h; simpa [sz] using this
  · rw [← deep_flat hw', ← deep_flat hw, ← deep_er, h, deep_er]
def preB : List UInt8 := [40, 32, 35, 32, 40, 10, 9]
theorem pre_br (X : List UInt8) : tk (preB ++ X) 0 = T1.Tx.ahead [mk 40 0] (tk (preB ++ X) 7) := by
  have o0 : T1.Tx.one (preB ++ X) 0 = .ok (⟨5, 0, [40]⟩, 1) := pre_one preB X (k := 0) (j := 1) (by decide) (by decide) (by decide) (by kernel_rfl) (by decide)
  have hl : (preB ++ X).length = 7 + X.length := by simp [preB]; omega
  have u : upTo notTen (preB ++ X) 2 = 5 := pre_upTo preB X (p := notTen) (k := 2) (by decide)
  rw [step_tok (by omega) (by rw [pre_at _ _ (by decide)]; decide) (by rw [pre_at _ _ (by decide)]; decide) o0 rfl]
  rw [tk_blank (k := 1) (by omega) (by rw [pre_at _ _ (by decide)]; decide), tk_remark (k := 1 + 1) (by omega) (by rw [pre_at _ _ (by decide)]; decide), u, tk_blank (k := 5) (by omega) (by rw [pre_at _ _ (by decide)]; decide), tk_blank (k := 5 + 1) (by omega) (by rw [pre_at _ _ (by decide)]; decide)]
  rfl
theorem expr_around {bs : List UInt8} {ns : List Nd} (h : exprF bs = .ok ns) : ∃ ns', exprF (put preB bs [41]) = .ok ns' ∧ ns'.map er = ns.map er := by
  obtain ⟨l, t, hb, hx, hsz, hhi, rfl⟩ := expr_out h
  have hall := all_put hb post_one (pre_br _)
  unfold exprF srcW
  rw [hall]
  simp only
  have hE := emb_put (A := preB) (bs := bs) (post := [41]) (l := l) (pt := [mk 40 0]) (q := 0) (t := ⟨5, 0, [41]⟩) (r := []) (lp := [mk 41 0]) rfl rfl (.inl rfl)
  generalize hcs : put preB bs [41] = cs at *
  have hlen := pts_len3 cs [mk 40 0] (l.map fun x => (x.1, preB.length + x.2)) ([mk 41 0].map fun x => (x.1, (preB ++ (bs ++ [10])).length + x.2))
  have g0 := pre_get (cs := cs) (pt := [mk 40 0]) (m := l.map (fun x => (x.1, preB.length + x.2)) ++ [mk 41 0].map fun x => (x.1, (preB ++ (bs ++ [10])).length + x.2)) (i := 0) rfl
  have g1 := suf_get (cs := cs) (pt := [mk 40 0]) (m := l.map (fun x => (x.1, preB.length + x.2))) (lp := [mk 41 0].map fun x => (x.1, (preB ++ (bs ++ [10])).length + x.2)) (i := 0) rfl
  generalize hL' : ptsOf cs ([mk 40 0] ++ (l.map (fun x => (x.1, preB.length + x.2)) ++ [mk 41 0].map fun x => (x.1, (preB ++ (bs ++ [10])).length + x.2))) = L' at *
  generalize ptEnd cs = e' at *
  generalize ptEnd bs = e at *
  have hn : (ptsOf bs l).length = l.length := by simp [ptsOf]
  generalize hL : ptsOf bs l = L at *
  simp only [List.length_cons, List.length_nil, List.length_map] at hlen g1
  have s0 : sg L' 0 = [40] := sg_of_get g0 (.inr rfl)
  have k0 : kd L' 0 = 5 := kd_of_get g0
  have s1 : sg L' (1 + L.length) = [41] := by rw [hn]; exact sg_of_get g1 (.inr rfl)
  have hlen' : L'.length = L.length + 2 := by omega
  have s2 : sg L' (1 + L.length + 1) = [] := sg_beyond (by omega)
  have hx0 : pe L e (10 * (L.length - 0) + 7) .ex 0 = .ok (t, L.length, []) := hx
  obtain ⟨_, t', l', hx', hlk, hl'⟩ := (pe_ext hE e e' (10 * (L.length - 0) + 7) (10 * L.length + 20) (by omega)).1 .ex (.inl rfl) 0 (Nat.zero_le _) t L.length [] hx0
  rw [hl' rfl] at hx'
  have hx1 : pe L' e' (10 * L.length + 20) .ex 1 = .ok (t', 1 + L.length, []) := hx'
  have hbr : brR L' e' (pe L' e' (10 * L.length + 20) .ex) 0 = .ok (t', 1 + L.length + 1, []) := by
    have h1 : expc L' e' [40] 0 = .ok (tok L' e' 0, 1, []) := by unfold expc; rw [if_pos s0]
    have h2 : expc L' e' [41] (1 + L.length) = .ok (tok L' e' (1 + L.length), 1 + L.length + 1, []) := by unfold expc; rw [if_pos s1]
    unfold brR
    rw [bnd_ok _ h1]
    try simp only
    rw [bnd_ok _ hx1]
    try simp only
    rw [if_neg (by rw [s1]; decide), if_neg (by rw [s1]; decide), bnd_ok _ h2]
    rfl
  have hexW : exW L' e' 0 = .ok (t', 1 + L.length + 1, []) := by
    unfold exW
    rw [hlen', show 10 * (L.length + 2 - 0) + 7 = 10 * L.length + 20 + 7 by omega]
    exact br_ex s0 k0 hbr (.inl s2)
  have hw := (((pe_gd L e _).1 0).at hx0).wf
  have hw' := (((pe_gd L' e' _).1 1).at hx1).wf
  obtain ⟨e1, e2⟩ := lk_same hlk hw hw'
  unfold exprV
  rw [hexW]
  simp only [finW]
  rw [if_neg (by omega)]
  have tr : trE (pl (tok L' e' 0)) 0 t' = [] := by unfold trE; rw [if_neg (by omega), if_neg (by omega)]
  have tl : trL 0 t' = Tr.flat t' := by unfold trL; rw [if_neg (by omega)]
  rw [tr, tl]
  exact ⟨_, rfl, hlk⟩
def preM : List UInt8 := [109, 111, 100, 117, 108, 101, 32, 109, 32, 123, 32, 108, 101, 116, 32, 120, 32, 61, 32]
def wd1 (s : List UInt8) (k : Nat) : Tk × Nat := (⟨1, 0, s⟩, k)
def nm1 (s : List UInt8) (k : Nat) : Tk × Nat := (⟨2, 0, s⟩, k)
def ptM : List (Tk × Nat) := [wd1 wModule 0, nm1 [109] 7, mk 123 9, wd1 wLet 11, nm1 [120] 15, mk 61 17]
theorem pre_mo (X : List UInt8) : tk (preM ++ X) 0 = T1.Tx.ahead ptM (tk (preM ++ X) 19) := by
  have hl : (preM ++ X).length = 19 + X.length := by simp [preM]; omega
  have st : ∀ (k j : Nat) (t : Tk), k < 19 → j < 19 → (B preM k == 35) = false → blankB (B preM k) = false → (B preM k == 34) = false → digitB (B preM k) = false → T1.Tx.one preM k = .ok (t, j) → blankB (B preM j) = true → tk (preM ++ X) k = T1.Tx.ahead [(t, k)] (tk (preM ++ X) (j + 1)) := by
    intro k j t hk hj h35 hb h34 hd h1 hbj
    have o := pre_one preM X hk h34 hd h1 hj
    rw [step_tok (by omega) (by rw [pre_at _ _ hk]; exact h35) (by rw [pre_at _ _ hk]; exact hb) o rfl, tk_blank (k := j) (by omega) (by rw [pre_at _ _ hj]; exact hbj)]
  rw [st 0 6 _ (by decide) (by decide) (by decide) (by decide) (by decide) (by decide) (by kernel_rfl) (by decide), st (6 + 1) 8 _ (by decide) (by decide) (by decide) (by decide) (by decide) (by decide) (by kernel_rfl) (by decide), st (8 + 1) 10 _ (by decide) (by decide) (by decide) (by decide) (by decide) (by decide) (by kernel_rfl) (by decide), st (10 + 1) 14 _ (by decide) (by decide) (by decide) (by decide) (by decide) (by decide) (by kernel_rfl) (by decide), st (14 + 1) 16 _ (by decide) (by decide) (by decide) (by decide) (by decide) (by decide) (by kernel_rfl) (by decide), st (16 + 1) 18 _ (by decide) (by decide) (by decide) (by decide) (by decide) (by decide) (by kernel_rfl) (by decide)]
  rw [ahead_app, ahead_app, ahead_app, ahead_app, ahead_app]
  rfl
theorem post_mo : tk [59, 32, 125] 0 = .ok [mk 59 0, mk 125 2] := by kernel_rfl
end Ps
end Go.Proofs.YtohjfikjbeafiaaGreatDoor
namespace Go.Proofs.YtohjfikjbeafiaaGreatDoor
open Ps
set_option maxRecDepth 100000
namespace Ps
open T1.Tx
open Tr (T Nd)
theorem expc_at {L : List PT} {e : PT} {s : List UInt8} {k : Nat} (h : sg L k = s) : expc L e s k = .ok (tok L e k, k + 1, []) := by unfold expc; rw [if_pos h]
theorem nam_yes {L : List PT} {e : PT} {k : Nat} (h : kd L k = 2) : nam L e k = .ok (tok L e k, k + 1, []) := by unfold nam; rw [if_pos h]
theorem mods_around {bs : List UInt8} {ns : List Nd} (h : exprF bs = .ok ns) : ∃ m d, modsF (put preM bs [59, 32, 125]) = .ok [m] ∧ m.dfs = [d] ∧ d.ls.map er = ns.map er := by
  obtain ⟨l, t, hb, hx, hsz, hhi, rfl⟩ := expr_out h
  have hall := all_put hb post_mo (pre_mo _)
  unfold modsF srcW
  rw [hall]
  simp only
  have hE := emb_put (A := preM) (bs := bs) (post := [59, 32, 125]) (l := l) (pt := ptM) (q := 0) (t := ⟨5, 0, [59]⟩) (r := [mk 125 2]) (lp := [mk 59 0, mk 125 2]) rfl rfl (.inr rfl)
  generalize hcs : put preM bs [59, 32, 125] = cs at *
  have hlen := pts_len3 cs ptM (l.map fun x => (x.1, preM.length + x.2)) ([mk 59 0, mk 125 2].map fun x => (x.1, (preM ++ (bs ++ [10])).length + x.2))
  have g := fun i x h => pre_get (cs := cs) (pt := ptM) (m := l.map (fun x => (x.1, preM.length + x.2)) ++ [mk 59 0, mk 125 2].map fun x => (x.1, (preM ++ (bs ++ [10])).length + x.2)) (i := i) (x := x) h
  have g0 := g 0 _ rfl
  have g1 := g 1 _ rfl
  have g2 := g 2 _ rfl
  have g3 := g 3 _ rfl
  have g4 := g 4 _ rfl
  have g5 := g 5 _ rfl
  clear g
  have g6 := suf_get (cs := cs) (pt := ptM) (m := l.map (fun x => (x.1, preM.length + x.2))) (lp := [mk 59 0, mk 125 2].map fun x => (x.1, (preM ++ (bs ++ [10])).length + x.2)) (i := 0) rfl
  have g7 := suf_get (cs := cs) (pt := ptM) (m := l.map (fun x => (x.1, preM.length + x.2))) (lp := [mk 59 0, mk 125 2].map fun x => (x.1, (preM ++ (bs ++ [10])).length + x.2)) (i := 1) rfl
  generalize hL' : ptsOf cs (ptM ++ (l.map (fun x => (x.1, preM.length + x.2)) ++ [mk 59 0, mk 125 2].map fun x => (x.1, (preM ++ (bs ++ [10])).length + x.2))) = L' at *
  generalize ptEnd cs = e' at *
  generalize ptEnd bs = e at *
  have hn : (ptsOf bs l).length = l.length := by simp [ptsOf]
  generalize hL : ptsOf bs l = L at *
  have hp6 : ptM.length = 6 := rfl
  rw [hp6] at hlen g6 g7 hE
  simp only [List.length_cons, List.length_nil, List.length_map] at hlen g6 g7
  have s0 : sg L' 0 = wModule := sg_of_get g0 (.inl rfl)
  have k1 : kd L' 1 = 2 := kd_of_get g1
  have s2 : sg L' 2 = [123] := sg_of_get g2 (.inr rfl)
  have s3 : sg L' 3 = wLet := sg_of_get g3 (.inl rfl)
  have k4 : kd L' 4 = 2 := kd_of_get g4
  have s5 : sg L' 5 = [61] := sg_of_get g5 (.inr rfl)
  have s6 : sg L' (6 + L.length) = [59] := by rw [hn]; exact sg_of_get g6 (.inr rfl)
  have s7 : sg L' (6 + L.length + 1) = [125] := by rw [hn]; exact sg_of_get g7 (.inr rfl)
  have hlen' : L'.length = L.length + 8 := by omega
  have s8 : sg L' (6 + L.length + 1 + 1) = [] := sg_beyond (by omega)
  have hx0 : pe L e (10 * (L.length - 0) + 7) .ex 0 = .ok (t, L.length, []) := hx
  obtain ⟨_, t', l', hx', hlk, hl'⟩ := (pe_ext hE e e' (10 * (L.length - 0) + 7) (10 * (L'.length - 6) + 7) (by omega)).1 .ex (.inl rfl) 0 (Nat.zero_le _) t L.length [] hx0
  rw [hl' rfl] at hx'
  have hx1 : exW L' e' 6 = .ok (t', 6 + L.length, []) := hx'
  have hw := (((pe_gd L e _).1 0).at hx0).wf
  have hw' := (((pe_gd L' e' _).1 6).at hx').wf
  obtain ⟨e1, e2⟩ := lk_same hlk hw hw'
  have han : ann L' 5 = .ok (none, 5, []) := by unfold ann; rw [if_neg (by rw [s5]; decide)]
  have hdH : dfH L' e' 3 = .ok ((tok L' e' 4, none, t'), 6 + L.length + 1, []) := by
    unfold dfH
    rw [bnd_ok _ (expc_at s3)]
    try simp only
    rw [bnd_ok _ (nam_yes (k := 3 + 1) k4)]
    try simp only
    rw [bnd_ok _ han]
    try simp only
    rw [bnd_ok _ (expc_at s5)]
    try simp only
    rw [bnd_ok _ (show exW L' e' (5 + 1) = _ from hx1)]
    try simp only
    rw [bnd_ok _ (expc_at s6)]
    rfl
  have tr : trE (pl (tok L' e' 4)) 0 t' = [] := by unfold trE; rw [if_neg (by omega), if_neg (by omega)]
  have tl : trL 0 t' = Tr.flat t' := by unfold trL; rw [if_neg (by omega)]
  have hdR : dfR L' e' 0 3 = .ok ((⟨(tok L' e' 4).s, false, [], Tr.flat t', (tok L' e' 4).ln, (tok L' e' 4).co⟩, 0 + sz t'), 6 + L.length + 1, []) := by
    unfold dfR
    rw [if_neg (by rw [s3]; decide), hdH]
    simp only
    rw [tr, tl, show decide (sg L' 3 = wExport) = false by rw [s3]; decide]
    rfl
  have him : imsR L' e' (L'.length - 3 + 1) [] 3 = .ok ([], 3, []) := by
    rw [imsR, if_neg (by rw [s3]; decide)]
  have hds : dfsR L' e' 0 (L'.length - 3 + 1) [] 0 3 = .ok (([⟨(tok L' e' 4).s, false, [], Tr.flat t', (tok L' e' 4).ln, (tok L' e' 4).co⟩], 0 + sz t'), 6 + L.length + 1, []) := by
    rw [dfsR, if_pos (.inr s3), hdR]
    simp only
    rw [if_neg (show ¬ 64 < 0 + (([] : List Df).length + 1) by decide), show L'.length - 3 = (L'.length - 4) + 1 by omega, dfsR, if_neg (by rw [s7]; decide)]
    rfl
  have hmH : moH L' e' 0 = .ok (tok L' e' 1, 3, []) := by
    unfold moH
    rw [bnd_ok _ (expc_at s0)]
    try simp only
    rw [bnd_ok _ (nam_yes (k := 0 + 1) k1)]
    try simp only
    rw [bnd_ok _ (expc_at (k := 0 + 1 + 1) s2)]
    rfl
  have hmo : moR L' e' 0 0 = .ok ((⟨(tok L' e' 1).s, [], [⟨(tok L' e' 4).s, false, [], Tr.flat t', (tok L' e' 4).ln, (tok L' e' 4).co⟩], (tok L' e' 1).ln, (tok L' e' 1).co⟩, 0 + sz t'), 6 + L.length + 1 + 1, []) := by
    unfold moR
    rw [hmH]
    simp only [moB]
    rw [him]
    simp only [List.length_nil]
    rw [hds]
    simp only
    rw [if_pos s7]
    rfl
  have hms : mosR L' e' (L'.length + 1) [] 0 0 = .ok (([⟨(tok L' e' 1).s, [], [⟨(tok L' e' 4).s, false, [], Tr.flat t', (tok L' e' 4).ln, (tok L' e' 4).co⟩], (tok L' e' 1).ln, (tok L' e' 1).co⟩], 0 + sz t'), 6 + L.length + 1 + 1, []) := by
    rw [mosR, if_pos s0, hmo]
    simp only
    rw [if_neg (show ¬ 8 < ([] : List Mo).length + 1 by decide), show L'.length = (L'.length - 1) + 1 by omega, mosR, if_neg (by rw [s8]; decide)]
    rfl
  unfold modsV
  rw [hms]
  simp only [finW]
  rw [if_neg (by omega)]
  exact ⟨_, _, rfl, rfl, hlk⟩
end Ps
end Go.Proofs.YtohjfikjbeafiaaGreatDoor
namespace Go.Proofs.YtohjfikjbeafiaaGreatDoor.T1
namespace Tx

/-- How one byte of a text is written; none: it may not be. -/
def esc (c : Int) : Option (List UInt8) :=
  if c == 10 then some [92, 110] else if c == 34 || c == 92 then some [92, byteOf c] else if seenB c then some [byteOf c] else none
def escAll : List UInt8 → Option (List UInt8)
  | [] => some []
  | c :: r => match esc (c.toNat : Int) with
    | none => none
    | some e => match escAll r with
      | none => none
      | some q => some (e ++ q)
/-- What is written from a place on, behind what was written before. -/
def quo (bs : List UInt8) : Nat → Nat → List UInt8 → Option (List UInt8)
  | 0, _, acc => some (acc ++ [34])
  | f + 1, k, acc => match esc (B bs k) with
    | none => none
    | some e => quo bs f (k + 1) (acc ++ e)
def quoted (bs : List UInt8) : Option (List UInt8) := if 64 < bs.length then none else quo bs bs.length 0 [34]

theorem esc_len {c : Int} {e : List UInt8} (h : esc c = some e) : 0 < e.length ∧ e.length ≤ 2 := by
  unfold esc at h
  repeat' split at h
  all_goals first
    | (cases h; simp; done)
    | cases h

theorem drop_B {bs : List UInt8} {k : Nat} (h : k < bs.length) : ∃ c, bs.drop k = c :: bs.drop (k + 1) ∧ (c.toNat : Int) = B bs k := by
  refine ⟨bs[k], List.drop_eq_getElem_cons h, ?_⟩
  unfold B
  rw [List.getElem?_eq_getElem h]
  rfl

theorem quo_esc (bs : List UInt8) : ∀ (f k : Nat) (acc : List UInt8), k + f = bs.length → quo bs f k acc = (match escAll (bs.drop k) with | none => none | some e => some (acc ++ e ++ [34]))
  | 0, k, acc => fun h => by
    rw [List.drop_eq_nil_of_le (by omega)]
    simp [quo, escAll]
  | f + 1, k, acc => fun h => by
    obtain ⟨c, hd, hc⟩ := drop_B (show k < bs.length by omega)
    rw [hd]
    unfold quo escAll
    rw [hc]
    cases he : esc (B bs k) with
    | none => rfl
    | some e =>
      simp only
      rw [quo_esc bs f (k + 1) (acc ++ e) (by omega)]
      cases escAll (bs.drop (k + 1)) with
      | none => rfl
      | some q => simp

theorem B_mid (pre : List UInt8) (c : UInt8) (r : List UInt8) : B (pre ++ c :: r) pre.length = (c.toNat : Int) := by
  unfold B
  rw [List.getElem?_append_right (Nat.le_refl _)]
  simp

theorem B_mid1 (pre : List UInt8) (c d : UInt8) (r : List UInt8) : B (pre ++ c :: d :: r) (pre.length + 1) = (d.toNat : Int) := by
  unfold B
  rw [List.getElem?_append_right (by omega)]
  simp

theorem byteOf_nat (c : UInt8) : byteOf (c.toNat : Int) = c := by
  unfold byteOf
  simp

/-- What is written of one byte is read as this byte. -/
theorem txb_esc (c : UInt8) (e : List UInt8) (h : esc (c.toNat : Int) = some e) (pre r : List UInt8) :
    (B (pre ++ e ++ r) pre.length == 34) = false ∧ txb (pre ++ e ++ r) pre.length = ((c.toNat : Int), true, pre.length + e.length) := by
  unfold esc at h
  by_cases h10 : ((c.toNat : Int) == 10) = true
  · rw [if_pos h10] at h
    cases h
    have e10 : (c.toNat : Int) = 10 := by simpa using h10
    have b0 : B (pre ++ [92, 110] ++ r) pre.length = 92 := by rw [List.append_assoc]; exact B_mid pre 92 (110 :: r)
    have b1 : B (pre ++ [92, 110] ++ r) (pre.length + 1) = 110 := by rw [List.append_assoc]; exact B_mid1 pre 92 110 r
    refine ⟨by rw [b0]; rfl, ?_⟩
    unfold txb
    rw [b0, b1, if_pos (show ((92 : Int) == 92) = true from rfl), if_pos (by simp), if_pos (show ((110 : Int) == 110) = true from rfl), e10]
    rfl
  · rw [if_neg h10] at h
    by_cases h34 : ((c.toNat : Int) == 34 || (c.toNat : Int) == 92) = true
    · rw [if_pos h34] at h
      cases h
      rw [byteOf_nat]
      have b0 : B (pre ++ [92, c] ++ r) pre.length = 92 := by rw [List.append_assoc]; exact B_mid pre 92 (c :: r)
      have b1 : B (pre ++ [92, c] ++ r) (pre.length + 1) = (c.toNat : Int) := by rw [List.append_assoc]; exact B_mid1 pre 92 c r
      refine ⟨by rw [b0]; rfl, ?_⟩
      unfold txb
      have hn : ((c.toNat : Int) == 110) = false := by simp at h34 ⊢; omega
      rw [b0, b1, if_pos (show ((92 : Int) == 92) = true from rfl), if_pos (by simp), if_neg (by rw [hn]; exact Bool.false_ne_true), h34]
      rfl
    · rw [if_neg h34] at h
      by_cases hs : seenB (c.toNat : Int) = true
      · rw [if_pos hs] at h
        cases h
        rw [byteOf_nat]
        have b0 : B (pre ++ [c] ++ r) pre.length = (c.toNat : Int) := by rw [List.append_assoc]; exact B_mid pre c r
        have h34' : ((c.toNat : Int) == 34) = false ∧ ((c.toNat : Int) == 92) = false := by simpa using h34
        refine ⟨by rw [b0]; exact h34'.1, ?_⟩
        unfold txb
        rw [b0, if_neg (by rw [h34'.2]; exact Bool.false_ne_true), hs]
        rfl
      · rw [if_neg hs] at h
        cases h

theorem txt_esc : ∀ (s e pre acc : List UInt8) (f : Nat), escAll s = some e → acc.length + s.length ≤ 64 → e.length < f → txt (pre ++ e ++ [34]) f pre.length acc = some (acc ++ s, pre.length + e.length + 1)
  | [], e, pre, acc, f => fun h hl hf => by
    simp [escAll] at h
    subst h
    obtain ⟨f', rfl⟩ : ∃ f', f = f' + 1 := ⟨f - 1, by simp at hf; omega⟩
    have b0 : B (pre ++ [] ++ [34]) pre.length = 34 := by rw [List.append_nil]; exact B_mid pre 34 []
    unfold txt
    rw [if_pos (by simp), b0, if_pos (show ((34 : Int) == 34) = true from rfl)]
    simp
  | c :: s, e, pre, acc, f => fun h hl hf => by
    unfold escAll at h
    cases h1 : esc (c.toNat : Int) with
    | none => rw [h1] at h; cases h
    | some e1 =>
      rw [h1] at h
      cases h2 : escAll s with
      | none => rw [h2] at h; cases h
      | some e2 =>
        rw [h2] at h
        cases h
        obtain ⟨f', rfl⟩ : ∃ f', f = f' + 1 := ⟨f - 1, by omega⟩
        have hl1 := esc_len h1
        have hx := txb_esc c e1 h1 pre (e2 ++ [34])
        have eq : pre ++ (e1 ++ e2) ++ [34] = pre ++ e1 ++ (e2 ++ [34]) := by simp
        simp at hl hf
        unfold txt
        rw [eq, if_pos (by simp; omega), if_neg (by rw [hx.1]; exact Bool.false_ne_true), hx.2]
        rw [if_pos (by simp; omega), byteOf_nat]
        have ih := txt_esc s e2 (pre ++ e1) (acc ++ [c]) f' h2 (by simp; omega) (by omega)
        rw [List.length_append] at ih
        have eq2 : pre ++ e1 ++ (e2 ++ [34]) = pre ++ e1 ++ e2 ++ [34] := by simp
        simp only
        rw [eq2, ih]
        simp
        omega

theorem escAll_len : ∀ (s e : List UInt8), escAll s = some e → e.length ≤ 2 * s.length
  | [], e => fun h => by simp [escAll] at h; subst h; simp
  | c :: s, e => fun h => by
    unfold escAll at h
    cases h1 : esc (c.toNat : Int) with
    | none => rw [h1] at h; cases h
    | some e1 =>
      rw [h1] at h
      cases h2 : escAll s with
      | none => rw [h2] at h; cases h
      | some e2 =>
        rw [h2] at h
        cases h
        have a1 := esc_len h1
        have a2 := escAll_len s e2 h2
        simp
        omega

/-- The token of a text is read as just this text. -/
theorem all_quoted {s q : List UInt8} (h : quoted s = some q) : Tx.all q = .ok [(⟨4, 0, s⟩, 0)] ∧ q.length ≤ 130 := by
  unfold quoted at h
  by_cases h64 : 64 < s.length
  · rw [if_pos h64] at h; cases h
  · rw [if_neg h64, quo_esc s s.length 0 [34] (by omega), List.drop_zero] at h
    cases he : escAll s with
    | none => rw [he] at h; cases h
    | some e =>
      rw [he] at h
      cases h
      have hl := escAll_len s e he
      refine ⟨?_, by simp; omega⟩
      have ht := txt_esc s e [34] [] (([34] ++ e ++ [34] : List UInt8).length + 1) he (by simp; omega) (by simp; omega)
      have b0 : B ([34] ++ e ++ [34]) 0 = 34 := by rw [List.append_assoc]; exact B_mid [] 34 (e ++ [34])
      generalize hq : ([34] ++ e ++ [34] : List UInt8) = q at *
      have hql : q.length = e.length + 2 := by rw [← hq]; simp
      have hone : one q 0 = .ok (⟨4, 0, s⟩, q.length) := by
        unfold one
        rw [b0]
        have : oneText q 0 = .ok (⟨4, 0, s⟩, q.length) := oneText_some (by
          unfold textAt
          refine Eq.trans ht ?_
          simp
          omega)
        rw [← this]
        rfl
      have h1 := toks_ok (bs := q) (f := q.length) (k := 0) [] (by omega) (by rw [b0]; rfl) (by rw [b0]; rfl) hone
      rw [ahead_nil] at h1
      unfold all
      rw [h1]
      have h2 : toks q q.length q.length = .ok [] := by
        obtain ⟨n, hn⟩ : ∃ n, q.length = n + 1 := ⟨q.length - 1, by omega⟩
        have := toks_end (bs := q) (f := n) (k := q.length) (by omega)
        rwa [← hn] at this
      rw [h2]
      rfl
end Tx
end Go.Proofs.YtohjfikjbeafiaaGreatDoor.T1
