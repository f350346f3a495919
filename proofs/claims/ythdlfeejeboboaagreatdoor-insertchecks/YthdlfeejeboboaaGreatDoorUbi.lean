/- Insertion, plain: how large a part is. Insertion, plain: the term as a tree; the term of a tree that checks, checks. Insertion, plain: environments of the tree and of the term; casts' types. Insertion, plain: of a node that checks, the term's node has the node's type, kind by kind. -/
import Derived.Test.YthdlfeejeboboaaGreatDoorUbf
import Derived.Test.YthdlfeejeboboaaGreatDoorUbh
import Derived.Test.YthdlfeejeboboaaGreatDoorUbd
import Derived.Test.YthdlfeejeboboaaGreatDoorUan
import Derived.Test.YthdlfeejeboboaaGreatDoorUax
namespace Go.Proofs.YthdlfeejeboboaaGreatDoor
set_option maxRecDepth 100000
set_option linter.unusedVariables false
set_option linter.unusedSimpArgs false
namespace In
open Ck
open T3.Tp (Ty enc cns met sta)
open Tr (T Nd nm flat flats cut32 wf)

theorem szP_lay (c : Nd) : ∀ p, szP (lay c p) = szP p
  | .pt a ah ks => by rw [lay, szP, szP]
theorem szPs_mod (c : Nd) : ∀ (ks : List PT) (k : Nat), szPs (ks.modify k (lay c)) = szPs ks
  | [], k => by simp
  | p :: r, 0 => by simp [szPs, szP_lay]
  | p :: r, k + 1 => by simp [szPs, szPs_mod c r k]
theorem plB_lay (c : Nd) : ∀ p, plB (lay c p) ↔ plB p
  | .pt a ah ks => by rw [lay, plB, plB]
theorem plBs_mod (c : Nd) : ∀ (ks : List PT) (k : Nat), plBs (ks.modify k (lay c)) ↔ plBs ks
  | [], k => by simp
  | p :: r, 0 => by simp [plBs, plB_lay]
  | p :: r, k + 1 => by simp [plBs, plBs_mod c r k]
theorem terms_mod (c : Nd) : ∀ (ks : List PT) (k : Nat), (terms (ks.modify k (lay c))).length ≤ (terms ks).length + 1
  | [], k => by simp [terms]
  | p :: r, 0 => by simp [terms, term_lay]
  | p :: r, k + 1 => by have := terms_mod c r k; simp [terms]; omega
theorem fold_size (x : Nd) (tk : List Ty) (kx : List Nd) : ∀ (ws : List (Nat × Ty × Int)) (st : List PT × List Si), szPs (ws.foldl (wish x tk kx) st).1 = szPs st.1 ∧ (plBs (ws.foldl (wish x tk kx) st).1 ↔ plBs st.1) ∧ (terms (ws.foldl (wish x tk kx) st).1).length + st.2.length ≤ (terms st.1).length + (ws.foldl (wish x tk kx) st).2.length
  | [], st => ⟨rfl, Iff.rfl, by simp⟩
  | w :: r, st => by
    rw [List.foldl_cons]
    obtain ⟨h1, h2, h3⟩ := fold_size x tk kx r (wish x tk kx st w)
    have k : szPs (wish x tk kx st w).1 = szPs st.1 ∧ (plBs (wish x tk kx st w).1 ↔ plBs st.1) ∧ (terms (wish x tk kx st w).1).length + st.2.length ≤ (terms st.1).length + (wish x tk kx st w).2.length := by
      unfold wish
      split
      · exact ⟨rfl, Iff.rfl, by omega⟩
      · refine ⟨szPs_mod _ _ _, plBs_mod _ _ _, ?_⟩
        have := terms_mod (castN (tk.getD w.1 .tq) w.2.1 (st.2.length + 1) (placeN x kx w).1 (placeN x kx w).2) st.1 w.1
        simp only [List.length_append, List.length_singleton]
        omega
    exact ⟨h1.trans k.1, h2.trans k.2.1, by have := k.2.2; omega⟩
mutual
theorem size_T (N : List (List UInt8)) (ts : List Ty) : ∀ (t : T) (L : List (List UInt8)) (i : Nat) (ss : List Si), szP (inT N ts L t i ss).1 = (flat t).length ∧ (i + (flat t).length ≤ 1000000 → plB (inT N ts L t i ss).1) ∧ (term (inT N ts L t i ss).1).length + ss.length ≤ (flat t).length + (inT N ts L t i ss).2.length
  | .nd x ks, L, i, ss => by
    obtain ⟨h1, h2, h3⟩ := size_L N ts ks L x 0 (i + 1) ss
    rw [inT]
    simp only
    obtain ⟨k1, k2, k3⟩ := fold_size x ((plcs ks (i + 1)).map fun p => ts.getD p .tq) (ks.map rootN) (wishes x (ts.getD i .tq) ((plcs ks (i + 1)).map fun p => ts.getD p .tq)) (inL N ts L x 0 ks (i + 1) ss)
    have hn := nodeP_len N L (ts.getD i .tq) x
    rw [szP, plB, term, flat, List.length_cons, k1, h1]
    refine ⟨rfl, fun h => ⟨by omega, k2.2 (h2 (by omega))⟩, ?_⟩
    rw [List.length_append]
    omega
theorem size_L (N : List (List UInt8)) (ts : List Ty) : ∀ (ks : List T) (L : List (List UInt8)) (x : Nd) (j i : Nat) (ss : List Si), szPs (inL N ts L x j ks i ss).1 = (flats ks).length ∧ (i + (flats ks).length ≤ 1000000 → plBs (inL N ts L x j ks i ss).1) ∧ (terms (inL N ts L x j ks i ss).1).length + ss.length ≤ (flats ks).length + (inL N ts L x j ks i ss).2.length
  | [], L, x, j, i, ss => by rw [inL]; simp [szPs, plBs, terms, flats]
  | t :: r, L, x, j, i, ss => by
    rw [inL]
    simp only
    obtain ⟨h1, h2, h3⟩ := size_T N ts t (inn x j L) i ss
    obtain ⟨k1, k2, k3⟩ := size_L N ts r L x (j + 1) (i + (flat t).length) (inT N ts (inn x j L) t i ss).2
    rw [szPs, plBs, terms, flats, List.length_append, List.length_append, h1, k1]
    exact ⟨rfl, fun h => ⟨h2 (by omega), k2 (by omega)⟩, by omega⟩
end
end In
end Go.Proofs.YthdlfeejeboboaaGreatDoor
namespace Go.Proofs.YthdlfeejeboboaaGreatDoor
set_option maxRecDepth 100000
set_option linter.unusedVariables false
set_option linter.unusedSimpArgs false
namespace In
open Ck
open T3.Tp (Ty enc cns met sta)
open Tr (T Nd nm flat flats cut32 wf)

def wrap : List Nd → List T → T
  | [], [] => .nd ⟨0, 0, 0, ⟨#[]⟩, ⟨#[]⟩, ⟨#[]⟩, 0, 0⟩ []
  | [], k :: _ => k
  | [x], ks => .nd x ks
  | c :: d :: r, ks => .nd c [wrap (d :: r) ks]
mutual
def tre : PT → T
  | .pt _ a ks => wrap a (tres ks)
def tres : List PT → List T
  | [] => []
  | p :: r => tre p :: tres r
end
theorem tres_len : ∀ (ks : List PT), (tres ks).length = ks.length
  | [] => rfl
  | p :: r => by rw [tres]; simp [tres_len r]
theorem flat_wrap : ∀ (a : List Nd) (ks : List T), a ≠ [] ∨ ks.length = 1 → flat (wrap a ks) = a ++ flats ks
  | [], [], h => by simp at h
  | [], [k], h => by simp [wrap, flats]
  | [], k :: k2 :: r, h => by simp at h
  | [x], ks, h => by simp [wrap, flat]
  | c :: d :: r, ks, h => by
    rw [wrap, flat, flats, flats, flat_wrap (d :: r) ks (.inl (by simp))]
    simp
theorem tre_lay (c : Nd) : ∀ (p : PT), (∀ a ah ks, p = .pt a ah ks → ah ≠ [] ∨ ks.length = 1) → tre (lay c p) = .nd c [tre p]
  | .pt a [] ks, h => by
    have h1 := h a [] ks rfl
    simp at h1
    obtain ⟨k, rfl⟩ : ∃ k, ks = [k] := by
      match ks, h1 with
      | [k], _ => exact ⟨k, rfl⟩
    rw [lay, tre, tre]
    rfl
  | .pt a (x :: r) ks, h => by
    rw [lay, tre, tre, wrap]
def Wt (p : PT) : Prop := ∀ a ah ks, p = .pt a ah ks → ah ≠ [] ∨ ks.length = 1
theorem Wt.lay {c : Nd} {p : PT} : Wt (lay c p) := by
  intro a ah ks e
  obtain ⟨a', ah', ks'⟩ := p
  rw [In.lay] at e
  cases e
  exact .inl (by simp)
end In
end Go.Proofs.YthdlfeejeboboaaGreatDoor
namespace Go.Proofs.YthdlfeejeboboaaGreatDoor
set_option maxRecDepth 100000
set_option linter.unusedVariables false
set_option linter.unusedSimpArgs false
namespace In
open Ck
open T3.Tp (Ty enc cns met sta)
open Tr (T Nd nm flat flats cut32 wf)

structure Sc (env : Env) (L : List (List UInt8)) (G : List Ty) : Prop where
  len : G.length = L.length
  at' : ∀ n τ, Ck.look env n = some τ → ∃ k, lastAt L L.length n = some k ∧ G[L.length - 1 - k]? = some τ
theorem Sc.nil : Sc [] [] [] := ⟨rfl, fun n τ h => by simp [Ck.look] at h⟩
theorem lastAt_snoc {L : List (List UInt8)} {n : List UInt8} : ∀ (k : Nat), k ≤ L.length → ∀ m, lastAt (L ++ [n]) k m = lastAt L k m
  | 0, _, m => rfl
  | k + 1, h, m => by
    rw [lastAt, lastAt, List.getElem?_append_left (by omega), lastAt_snoc k (by omega) m]
theorem Sc.cons {env : Env} {L : List (List UInt8)} {G : List Ty} (h : Sc env L G) (n : List UInt8) (t : Ty) : Sc ((n, t) :: env) (L ++ [n]) (t :: G) := by
  refine ⟨by simp [h.len], fun m τ hm => ?_⟩
  rw [Ck.look] at hm
  rw [List.length_append, List.length_singleton, lastAt]
  split at hm
  · rename_i e
    cases hm
    subst e
    rw [if_pos (by simp)]
    exact ⟨_, rfl, by simp⟩
  · rename_i e
    obtain ⟨k, h1, h2⟩ := h.at' m τ hm
    have hk := lastAt_lt h1
    rw [if_neg (by simp; exact fun e2 => e e2.symm), lastAt_snoc _ (Nat.le_refl _)]
    refine ⟨k, h1, ?_⟩
    rw [show L.length + 1 - 1 - k = (L.length - 1 - k) + 1 by omega, List.getElem?_cons_succ]
    exact h2
theorem Sc.dist {env : Env} {L : List (List UInt8)} {G : List Ty} (h : Sc env L G) {n : List UInt8} {τ : Ty} (hn : Ck.look env n = some τ) : (In.dist [] L n) < G.length ∧ G[In.dist [] L n]? = some τ := by
  obtain ⟨k, h1, h2⟩ := h.at' n τ hn
  have hk := lastAt_lt h1
  unfold In.dist
  rw [h1]
  show L.length - 1 - k < G.length ∧ G[L.length - 1 - k]? = some τ
  exact ⟨by rw [h.len]; omega, h2⟩
theorem wrS_ty {s : ByteArray} (h : noteB s.data.toList = true) : Co.tyS (wrS s) = wr s ∧ Co.goodB (wrS s) = true ∧ (enc (wr s)).length ≤ 64 := by
  obtain ⟨h1, h2⟩ := wr_note h
  have e : wrS s = S (enc (wr s)) := h1
  rw [e]
  refine ⟨?_, ?_, h2⟩
  · unfold Co.tyS; rw [S_list, tyOf_enc]
  · unfold Co.goodB; rw [S_list, T3.Tp.chk_enc _ h2]; rfl
theorem enc_good {t : Ty} (h : (enc t).length ≤ 64) : Co.tyS (S (enc t)) = t ∧ Co.goodB (S (enc t)) = true := by
  refine ⟨?_, ?_⟩
  · unfold Co.tyS; rw [S_list, tyOf_enc]
  · unfold Co.goodB; rw [S_list, T3.Tp.chk_enc _ h]; rfl
theorem cast_ty {G : List Ty} {f t : Ty} {n : Nat} {ln co : Int} {k : T} {j : Nat} (hf : (enc f).length ≤ 64) (ht : (enc t).length ≤ 64) (hc : cns f t = true) (h1 : 1 ≤ n) (h2 : n ≤ 2147483647) (hk : ∀ j, Co.tyT G k j = .ok f) : Co.tyT G (.nd (castN f t n ln co) [k]) j = .ok t := by
  obtain ⟨a1, a2⟩ := enc_good hf
  obtain ⟨b1, b2⟩ := enc_good ht
  have ha : Co.ahd G.length (castN f t n ln co) j = none := by
    unfold Co.ahd castN
    simp only [Int.reduceEq, if_false, or_self, if_true]
    rw [a2, b2, a1, b1, hc]
    simp only [Bool.and_self, if_true]
    rw [if_pos ⟨by omega, by omega⟩]
  rw [Co.tyT, ha]
  simp only [castN, Int.reduceEq, if_false]
  have hi : Co.inn (⟨30, 1, (n : Int), ⟨#[]⟩, S (enc f), S (enc t), ln, co⟩ : Nd) G = G := by simp [Co.inn]
  rw [hi, Co.tyL, hk, Co.tyL]
  simp [Co.rul, a1, b1]
theorem cast_wf {f t : Ty} {n : Nat} {ln co : Int} {k : T} (h : Co.wfC k) : Co.wfC (.nd (castN f t n ln co) [k]) := by
  rw [Co.wfC]
  exact ⟨by simp [Co.takes, Co.ary, castN], rfl, h, trivial⟩
structure Kt (Gs : Nat → List Ty) (ps : List PT) (tk : List Ty) : Prop where
  len : tk.length = ps.length
  wt : ∀ (k : Nat) p, ps[k]? = some p → Wt p ∧ Co.wfC (tre p)
  ty : ∀ (k : Nat) p t, ps[k]? = some p → tk[k]? = some t → ∀ j, Co.tyT (Gs k) (tre p) j = .ok t
structure Wl (tk : List Ty) (ws : List (Nat × Ty × Int)) : Prop where
  ap : ws.Pairwise fun a b => a.1 ≠ b.1
  ok : ∀ w ∈ ws, ∃ t, tk[w.1]? = some t ∧ cns t w.2.1 = true ∧ (enc w.2.1).length ≤ 64
def sets (tk : List Ty) (ws : List (Nat × Ty × Int)) : List Ty := ws.foldl (fun t w => t.set w.1 w.2.1) tk
theorem fold_kt {Gs : Nat → List Ty} {x : Nd} {kx : List Nd} {tk0 : List Ty} (h64 : ∀ t ∈ tk0, (enc t).length ≤ 64) : ∀ (ws : List (Nat × Ty × Int)) (st : List PT × List Si) (tk : List Ty), Kt Gs st.1 tk → Wl tk0 ws → (∀ w ∈ ws, tk[w.1]? = tk0[w.1]?) → st.2.length + ws.length ≤ 2147483647 → Kt Gs (ws.foldl (wish x tk0 kx) st).1 (sets tk ws)
  | [], st, tk, h, _, _, _ => h
  | w :: r, st, tk, h, hw, hs, hl => by
    obtain ⟨t, e1, e2, e3⟩ := hw.ok w (by simp)
    have ht64 := h64 t (List.mem_of_getElem? e1)
    have hwk := hs w (by simp)
    have e0 : tk0.getD w.1 .tq = t := by rw [List.getD_eq_getElem?_getD, e1]; rfl
    rw [List.foldl_cons]
    have hap := hw.ap
    rw [List.pairwise_cons] at hap
    have hrest : ∀ v ∈ r, (tk.set w.1 w.2.1)[v.1]? = tk0[v.1]? := fun v hv => by
      rw [List.getElem?_set_ne (hap.1 v hv)]
      exact hs v (by simp [hv])
    have hk : Kt Gs (wish x tk0 kx st w).1 (tk.set w.1 w.2.1) := by
      unfold wish
      rw [e0]
      by_cases e : t = w.2.1
      · rw [if_pos e]
        have : tk.set w.1 w.2.1 = tk := by
          apply List.ext_getElem?
          intro k
          by_cases hk : k = w.1
          · subst hk
            rw [hwk, e1, ← e]
            have hlt : w.1 < tk.length := by have := hwk.trans e1; exact (List.getElem?_eq_some_iff.1 this).1
            rw [List.getElem?_set_self hlt]
          · rw [List.getElem?_set_ne (by omega)]
        rw [this]
        exact h
      · rw [if_neg e]
        refine ⟨by simp [h.len], fun k p hp => ?_, fun k p u hp hu j => ?_⟩
        · simp only [List.getElem?_modify] at hp
          cases hq : st.1[k]? with
          | none => rw [hq] at hp; simp at hp
          | some q =>
            rw [hq] at hp
            simp only [Option.map_eq_map, Option.map_some, Option.some.injEq] at hp
            obtain ⟨w1, w2⟩ := h.wt k q hq
            split at hp
            · subst hp
              refine ⟨Wt.lay, ?_⟩
              rw [tre_lay _ q w1]
              exact cast_wf w2
            · subst hp
              exact ⟨w1, w2⟩
        · simp only [List.getElem?_modify] at hp
          cases hq : st.1[k]? with
          | none => rw [hq] at hp; simp at hp
          | some q =>
            rw [hq] at hp
            simp only [Option.map_eq_map, Option.map_some, Option.some.injEq] at hp
            obtain ⟨w1, w2⟩ := h.wt k q hq
            split at hp
            · rename_i hk
              subst hk hp
              have hlt : w.1 < tk.length := by have := hwk.trans e1; exact (List.getElem?_eq_some_iff.1 this).1
              rw [List.getElem?_set_self hlt] at hu
              cases hu
              rw [tre_lay _ q w1]
              refine cast_ty ht64 e3 e2 (by omega) (by simp at hl; omega) (fun j => h.ty w.1 q t hq (hwk.trans e1) j)
            · rename_i hk
              subst hp
              rw [List.getElem?_set_ne hk] at hu
              exact h.ty k q u hq hu j
    have hn := wish_sites x tk0 kx st w
    have hfin := fold_kt (x := x) (kx := kx) h64 r (wish x tk0 kx st w) (tk.set w.1 w.2.1) hk ⟨hap.2, fun v hv => hw.ok v (by simp [hv])⟩ hrest (by simp at hl; omega)
    exact hfin
end In
end Go.Proofs.YthdlfeejeboboaaGreatDoor
namespace Go.Proofs.YthdlfeejeboboaaGreatDoor
set_option maxRecDepth 100000
set_option linter.unusedVariables false
set_option linter.unusedSimpArgs false
namespace In
open Ck
open T3.Tp (Ty enc cns met sta)
open Tr (T Nd nm flat flats cut32 wf)

structure Rc (G : List Ty) (L : List (List UInt8)) (x : Nd) (τ : Ty) (tk : List Ty) : Prop where
  wl : Wl tk (wishes x τ tk)
  nd : ∃ y, nodeP [] L τ x = [y] ∧ y.kids = x.kids ∧ y.kind = x.kind ∧ Co.takes y = true ∧ (∀ j, Co.ahd G.length y j = none) ∧ ∀ j, Co.rul G y j (sets tk (wishes x τ tk)) = .ok τ
theorem Wl.nil (tk : List Ty) : Wl tk [] := ⟨List.Pairwise.nil, fun w h => by simp at h⟩
theorem Wl.one {tk : List Ty} {w : Nat × Ty × Int} {t : Ty} (h : tk[w.1]? = some t) (hc : cns t w.2.1 = true) (hl : (enc w.2.1).length ≤ 64) : Wl tk [w] := ⟨by simp, fun v hv => by simp at hv; subst hv; exact ⟨t, h, hc, hl⟩⟩
theorem Wl.each {tk : List Ty} {u : Ty} {r : Int} (hl : (enc u).length ≤ 64) (h : ∀ t ∈ tk, cns t u = true) : Wl tk (each tk.length u r) := by
  refine ⟨?_, fun w hw => ?_⟩
  · unfold In.each
    rw [List.pairwise_map]
    exact List.nodup_range.imp fun h => h
  · unfold In.each at hw
    obtain ⟨k, hk, rfl⟩ := List.mem_map.1 hw
    have hk := List.mem_range.1 hk
    exact ⟨tk[k], List.getElem?_eq_getElem hk, h _ (List.getElem_mem hk), hl⟩
theorem sets_each (tk : List Ty) (u : Ty) (r : Int) : ∀ (n : Nat), n ≤ tk.length → sets tk (each n u r) = List.replicate n u ++ tk.drop n
  | 0, _ => by simp [sets, In.each]
  | n + 1, h => by
    have e : In.each (n + 1) u r = In.each n u r ++ [(n, u, r)] := by unfold In.each; rw [List.range_succ, List.map_append]; rfl
    have ih := sets_each tk u r n (by omega)
    unfold sets at ih ⊢
    rw [e, List.foldl_append, ih]
    simp only [List.foldl_cons, List.foldl_nil]
    rw [List.set_append_right _ _ (by simp), List.length_replicate, Nat.sub_self, List.drop_eq_getElem_cons (by omega), List.set_cons_zero, List.replicate_succ', List.append_assoc]
    rfl
theorem all_rep (u : Ty) (n : Nat) : Co.allT u (List.replicate n u) = true := by
  unfold Co.allT
  rw [List.all_eq_true]
  intro a ha
  rw [List.eq_of_mem_replicate ha]
  simp
theorem rc_op {env : Env} {G : List Ty} {L : List (List UInt8)} {x : Nd} {κ i : Nat} {ks : List (Nat × Ty)} {τ : Ty} (hN : Nod x κ) (hk : κ = 10 ∨ κ = 11 ∨ κ = 12 ∨ κ = 13 ∨ κ = 14 ∨ κ = 15 ∨ κ = 16 ∨ κ = 17) (hlen : x.kids = (ks.length : Int)) (h : Ck.rule env x i ks = .ok τ) : Rc G L x τ (ks.map Prod.snd) := by
  have hκ := hN.kind
  have hkids := hN.kids (by omega)
  have hop : Ck.opr (Ck.opT x.kind) ks = .ok τ := by
    unfold Ck.rule at h
    rw [if_neg (by omega), if_neg (by omega), if_neg (by omega), if_neg (by omega), if_neg (by omega), if_neg (by omega), if_neg (by omega), if_neg (by omega)] at h
    have hu : Ck.useT x.kind = none := by
      unfold Ck.useT
      rw [if_neg (by omega), if_neg (by omega), if_neg (by omega), if_neg (by omega), if_neg (by omega), if_neg (by omega), if_neg (by omega), if_neg (by omega), if_neg (by omega)]
    rw [hu] at h
    exact h
  unfold Ck.opr at hop
  cases ha : Ck.asks (Ck.opT x.kind).1 ks with
  | error e => rw [ha] at hop; cases hop
  | ok _ =>
    rw [ha] at hop
    simp only [Except.ok.injEq] at hop
    have hall := asks_ok ha
    have hnp : nodeP [] L τ x = [base x] := by
      unfold nodeP
      rw [if_neg (by omega), if_neg (by omega), if_neg (by omega), if_neg (by omega), if_neg (by omega), if_neg (by omega), if_neg (by omega)]
    have key : ∀ (u : Ty) (r : Int), (Ck.opT x.kind).1 = u → wishes x τ (ks.map Prod.snd) = each (ks.map Prod.snd).length u r → (enc u).length ≤ 64 → (Co.opT x.kind).1 = u → (Co.opT x.kind).2 = τ → Rc G L x τ (ks.map Prod.snd) := fun u r e1 e2 e3 e4 e5 => by
      refine ⟨?_, base x, hnp, rfl, rfl, ?_, fun j => ?_, fun j => ?_⟩
      · rw [e2]
        refine Wl.each e3 (fun t ht => ?_)
        obtain ⟨k, hk2, rfl⟩ := List.mem_map.1 ht
        rw [← e1]; exact hall k hk2
      · unfold Co.takes base
        simp only
        rcases hk with rfl | rfl | rfl | rfl | rfl | rfl | rfl | rfl <;> (rw [hκ, hkids]; decide)
      · unfold Co.ahd base
        simp only
        rw [if_neg (by omega), if_neg (by omega), if_neg (by omega), if_neg (by omega), if_neg (by omega), if_neg (by omega)]
      · rw [e2, sets_each _ _ _ _ (Nat.le_refl _), List.drop_length, List.append_nil]
        unfold Co.rul base
        simp only
        rw [if_neg (by omega), if_neg (by omega), if_neg (by omega), if_neg (by omega), if_neg (by omega), if_neg (by omega), if_neg (by omega), if_neg (by omega), if_neg (by omega), if_neg (by omega), if_neg (by omega), if_neg (by omega), if_neg (by omega), if_neg (by omega), if_neg (by omega), if_neg (by omega), if_neg (by omega), if_neg (by omega), if_neg (by omega), e4, all_rep, e5]
        rfl
    have hw : ∀ u r, (x.kind = 13 ∨ x.kind = 17 → u = Ty.tt ∧ r = 9) → (¬ (x.kind = 13 ∨ x.kind = 17) → u = Ty.ti ∧ r = 8) → wishes x τ (ks.map Prod.snd) = each (ks.map Prod.snd).length u r := fun u r h1 h2 => by
      unfold wishes
      rw [if_neg (by omega), if_neg (by omega), if_neg (by omega), if_neg (by omega)]
      by_cases e : x.kind = 13 ∨ x.kind = 17
      · rw [if_neg (by omega), if_pos e, (h1 e).1, (h1 e).2]
      · rw [if_pos (by omega), (h2 e).1, (h2 e).2]
    rcases hk with rfl | rfl | rfl | rfl | rfl | rfl | rfl | rfl
    all_goals
      rw [hκ] at hop
      first
      | exact key .ti 8 (by rw [hκ]; rfl) (hw .ti 8 (by omega) (fun _ => ⟨rfl, rfl⟩)) (by decide) (by rw [hκ]; rfl) (by rw [hκ]; exact hop)
      | exact key .tt 9 (by rw [hκ]; rfl) (hw .tt 9 (fun _ => ⟨rfl, rfl⟩) (by omega)) (by decide) (by rw [hκ]; rfl) (by rw [hκ]; exact hop)
theorem len2 {α : Type} : ∀ {l : List α}, l.length = 2 → ∃ a b, l = [a, b]
  | [a, b], _ => ⟨a, b, rfl⟩
theorem len3 {α : Type} : ∀ {l : List α}, l.length = 3 → ∃ a b c, l = [a, b, c]
  | [a, b, c], _ => ⟨a, b, c, rfl⟩
theorem rc_leaf {env : Env} {G : List Ty} {L : List (List UInt8)} {x : Nd} {κ i : Nat} {ks : List (Nat × Ty)} {τ : Ty} (hN : Nod x κ) (hm : Tr.mayB x = true) (hSc : Sc env L G) (hk : κ = 1 ∨ κ = 2 ∨ κ = 3 ∨ κ = 4) (hlen : x.kids = (ks.length : Int)) (h : Ck.rule env x i ks = .ok τ) : Rc G L x τ (ks.map Prod.snd) := by
  have hκ := hN.kind
  have hkids := hN.kids (by omega)
  have h0 : ks = [] := by
    have : Tr.arK (κ : Int) = 0 := by rcases hk with rfl | rfl | rfl | rfl <;> decide
    exact List.length_eq_zero_iff.1 (by omega)
  subst h0
  have hw : wishes x τ (List.map Prod.snd ([] : List (Nat × Ty))) = [] := by
    unfold wishes
    rw [if_neg (by omega), if_neg (by omega), if_neg (by omega), if_neg (by omega), if_neg (by omega), if_neg (by omega), if_neg (by omega), if_neg (by omega), if_neg (by omega), if_neg (by omega), if_neg (by omega), if_neg (by omega), if_neg (by omega)]
  unfold Tr.mayB at hm
  simp only [Bool.and_eq_true] at hm
  obtain ⟨⟨⟨⟨_, hn⟩, hs⟩, _⟩, _⟩ := hm
  have tk : ∀ y : Nd, y.kids = x.kids → y.kind = x.kind → Co.takes y = true := fun y e1 e2 => by
    unfold Co.takes
    rw [e1, e2, hκ, hkids]
    rcases hk with rfl | rfl | rfl | rfl <;> decide
  rcases hk with rfl | rfl | rfl | rfl
  · have hτ : τ = .ti := by
      unfold Ck.rule at h
      rw [hκ] at h
      simp [Ck.useT, Ck.opr, Ck.asks, Ck.opT] at h
      exact h.symm
    refine ⟨by rw [hw]; exact Wl.nil _, { base x with n := x.n }, ?_, rfl, rfl, tk _ rfl rfl, fun j => ?_, fun j => ?_⟩
    · unfold nodeP; rw [if_neg (by omega), if_pos (by omega)]
    · unfold Co.ahd base; simp only; rw [hκ]; rfl
    · unfold Co.rul base; simp only; rw [hκ, hτ]; rfl
  · have hτ : τ = .tt := by
      unfold Ck.rule at h
      rw [hκ] at h
      simp [Ck.useT, Ck.opr, Ck.asks, Ck.opT] at h
      exact h.symm
    have hsz : x.s.size ≤ 64 := by
      unfold Tr.sB at hs
      rw [if_pos (by rw [hκ]; rfl)] at hs
      unfold Tx.quoted at hs
      split at hs
      · simp at hs
      · rename_i hq
        have e : (nm x).length = x.s.size := by unfold nm; rfl
        omega
    refine ⟨by rw [hw]; exact Wl.nil _, { base x with s := x.s }, ?_, rfl, rfl, tk _ rfl rfl, fun j => ?_, fun j => ?_⟩
    · unfold nodeP; rw [if_neg (by omega), if_neg (by omega), if_pos (by omega)]
    · unfold Co.ahd base; simp only; rw [if_pos (by omega), if_neg (by omega)]
    · unfold Co.rul base; simp only; rw [hκ, hτ]; rfl
  · have hτ : τ = .tb := by
      unfold Ck.rule at h
      rw [hκ] at h
      simp [Ck.useT, Ck.opr, Ck.asks, Ck.opT] at h
      exact h.symm
    have hnn : x.n = 0 ∨ x.n = 1 := by
      unfold Tr.nB at hn
      rw [if_neg (by rw [hκ]; decide), if_pos (by rw [hκ]; rfl)] at hn
      simp at hn
      omega
    refine ⟨by rw [hw]; exact Wl.nil _, { base x with n := x.n }, ?_, rfl, rfl, tk _ rfl rfl, fun j => ?_, fun j => ?_⟩
    · unfold nodeP; rw [if_neg (by omega), if_pos (by omega)]
    · unfold Co.ahd base; simp only; rw [if_neg (by omega), if_pos (by omega), if_pos hnn]
    · unfold Co.rul base; simp only; rw [hκ, hτ]; rfl
  · have hl : Ck.look env (nm x) = some τ := by
      unfold Ck.rule at h
      rw [if_pos (by omega)] at h
      split at h
      · cases h
      · rename_i e; cases h; exact e
    obtain ⟨d1, d2⟩ := hSc.dist hl
    refine ⟨by rw [hw]; exact Wl.nil _, { base x with n := (dist [] L (nm x) : Int) }, ?_, rfl, rfl, tk _ rfl rfl, fun j => ?_, fun j => ?_⟩
    · unfold nodeP; rw [if_neg (by omega), if_neg (by omega), if_neg (by omega), if_pos (by omega)]
    · unfold Co.ahd base; simp only; rw [if_neg (by omega), if_neg (by omega), if_pos (by omega), if_pos ⟨by omega, by omega⟩]
    · unfold Co.rul base; simp only; rw [if_neg (by omega), if_neg (by omega), if_neg (by omega), if_pos (by omega), Int.toNat_natCast, d2]; rfl
theorem rc_fn {env : Env} {G : List Ty} {L : List (List UInt8)} {x : Nd} {κ i : Nat} {ks : List (Nat × Ty)} {τ : Ty} (hN : Nod x κ) (hah : Ck.ahead x = false) (hk : κ = 5 ∨ κ = 6) (hlen : x.kids = (ks.length : Int)) (h : Ck.rule env x i ks = .ok τ) : Rc G L x τ (ks.map Prod.snd) := by
  have hκ := hN.kind
  have hkids := hN.kids (by omega)
  obtain ⟨k, rfl⟩ : ∃ k, ks = [k] := by
    have : Tr.arK (κ : Int) = 1 := by rcases hk with rfl | rfl <;> decide
    exact List.length_eq_one_iff.1 (by omega)
  obtain ⟨t1, t2, t3⟩ := wrS_ty (hN.t (by omega))
  obtain ⟨u1, u2, u3⟩ := wrS_ty (hN.u (by omega))
  unfold Ck.rule at h
  rw [if_neg (by omega), if_pos (by omega)] at h
  simp only at h
  split at h
  · rename_i hc
    cases h
    have hsz : (enc (Ty.tf (wr x.t) (wr x.u))).length ≤ 64 := by
      unfold Ck.ahead at hah
      have hb : (x.kind == 5 || x.kind == 6) = true := by rcases hk with rfl | rfl <;> (rw [hκ]; rfl)
      rw [hb] at hah
      simpa using hah
    have hw : wishes x (.tf (wr x.t) (wr x.u)) ([k].map Prod.snd) = [(0, wr x.u, 1)] := by unfold wishes; rw [if_pos (by omega)]
    refine ⟨by rw [hw]; exact Wl.one rfl hc u3, { base x with t := wrS x.t, u := wrS x.u }, ?_, rfl, rfl, ?_, fun j => ?_, fun j => ?_⟩
    · unfold nodeP; rw [if_neg (by omega), if_neg (by omega), if_neg (by omega), if_neg (by omega), if_pos (by omega)]
    · unfold Co.takes base; simp only; rw [hkids, hκ]; rcases hk with rfl | rfl <;> decide
    · unfold Co.ahd base; simp only; rw [if_neg (by omega), if_neg (by omega), if_neg (by omega), if_pos (by omega), t2, u2, t1, u1]
      simp only [Bool.and_self, if_true]
      rw [if_pos hsz]
    · rw [hw]
      unfold Co.rul base; simp only
      rw [if_neg (by omega), if_neg (by omega), if_neg (by omega), if_neg (by omega), if_pos (by omega), t1, u1]
      simp [sets]
  · cases h
theorem cns_refl (t : Ty) : cns t t = true := by
  induction t with
  | ti | tb | tt | tq => rfl
  | tl a ih | tx a ih => simpa [cns] using ih
  | tf a b iha ihb | tp a b iha ihb => simp [cns, iha, ihb]
theorem cns_tq (t : Ty) : cns .tq t = true := by cases t <;> rfl
theorem opn_mt {t A B : Ty} {h : UInt8} (hh : h = 62 ∨ h = 44 ∨ h = 108 ∨ h = 120) (hm : Ck.mt t h = some (A, B)) (h64 : (enc t).length ≤ 64) : par0 h t = A ∧ (h = 62 → opn h t = .tf A B) ∧ (h = 44 → opn h t = .tp A B) ∧ (h = 108 → opn h t = .tl A) ∧ (h = 120 → opn h t = .tx A) ∧ cns t (opn h t) = true ∧ (enc (opn h t)).length ≤ 64 ∧ (enc A).length ≤ 64 := by
  have hp : par0 h t = A := by unfold par0; rw [hm]
  refine ⟨hp, ?_⟩
  cases t with
  | ti | tb | tt => simp [Ck.mt] at hm
  | tq =>
    simp [Ck.mt] at hm
    obtain ⟨rfl, rfl⟩ := hm
    rcases hh with rfl | rfl | rfl | rfl
    all_goals exact ⟨by decide, by decide, by decide, by decide, cns_tq _, by decide, by decide⟩
  | tf a b | tp a b =>
    simp only [Ck.mt] at hm
    split at hm
    · rename_i e
      subst e
      cases hm
      refine ⟨by simp [opn], by simp [opn], by simp, by simp, cns_refl _, h64, ?_⟩
      simp [enc] at h64
      omega
    · cases hm
  | tl a | tx a =>
    simp only [Ck.mt] at hm
    split at hm
    · rename_i e
      subst e
      cases hm
      refine ⟨by simp, by simp, by simp [opn], by simp [opn], cns_refl _, h64, ?_⟩
      simp [enc] at h64
      omega
    · cases hm
theorem use_parts {u : Nat × UInt8 × Nat} {ks : List (Nat × Ty)} {τ : Ty} (h : Ck.use u ks = .ok τ) : ∃ k A B, ks[u.1]? = some k ∧ Ck.mt k.2 u.2.1 = some (A, B) ∧ τ = Ck.giv u.2.2 A B ∧ ∀ m q, ks[m]? = some q → m ≠ u.1 → cns q.2 A = true := by
  unfold Ck.use at h
  cases hq : ks[u.1]? with
  | none => rw [hq] at h; cases h
  | some k =>
    obtain ⟨p, t⟩ := k
    rw [hq] at h
    simp only at h
    cases hm : Ck.mt t u.2.1 with
    | none => rw [hm] at h; cases h
    | some q =>
      obtain ⟨A, B⟩ := q
      rw [hm] at h
      simp only at h
      cases ho : Ck.others A u.1 0 ks with
      | error e => rw [ho] at h; cases h
      | ok _ =>
        rw [ho] at h
        cases h
        exact ⟨(p, t), A, B, rfl, hm, rfl, fun m q hq2 hne => others_ok ho m q hq2 (by omega)⟩
theorem rule_use {env : Env} {x : Nd} {i : Nat} {ks : List (Nat × Ty)} {τ : Ty} {u : Nat × UInt8 × Nat} (hk : x.kind = 7 ∨ x.kind = 19 ∨ x.kind = 20 ∨ x.kind = 22 ∨ x.kind = 23 ∨ x.kind = 24 ∨ x.kind = 25 ∨ x.kind = 27 ∨ x.kind = 28) (hu : Ck.useT x.kind = some u) (h : Ck.rule env x i ks = .ok τ) : Ck.use u ks = .ok τ := by
  unfold Ck.rule at h
  rw [if_neg (by omega), if_neg (by omega), if_neg (by omega), if_neg (by omega), if_neg (by omega), if_neg (by omega), if_neg (by omega), if_neg (by omega), hu] at h
  exact h

theorem rc_19 {env : Env} {G : List Ty} {L : List (List UInt8)} {x : Nd} {i : Nat} {ks : List (Nat × Ty)} {τ : Ty} (hN : Nod x 19) (h64 : ∀ q ∈ ks, (enc q.2).length ≤ 64) (hlen : x.kids = (ks.length : Int)) (h : Ck.rule env x i ks = .ok τ) : Rc G L x τ (ks.map Prod.snd) := by
  have hκ : x.kind = 19 := hN.kind
  have hkids := hN.kids (by decide)
  obtain ⟨q, rfl⟩ : ∃ q, ks = [q] := List.length_eq_one_iff.1 (by have : Tr.arK ((19 : Nat) : Int) = 1 := by decide
                                                                  omega)
  obtain ⟨k, A, B, e1, e2, e3, e4⟩ := use_parts (rule_use (by omega) (u := (0, 44, 0)) (by rw [hκ]; rfl) h)
  simp at e1
  subst e1
  obtain ⟨o1, o2, o3, o4, o5, o6, o7, o8⟩ := opn_mt (by decide) e2 (h64 q (by simp))
  have ho : opn 44 q.2 = Ty.tp A B := o3 rfl
  have hw : wishes x τ ([q].map Prod.snd) = [(0, Ty.tp A B, 10)] := by
    unfold wishes
    rw [hκ]
    simp [ho]
  rw [ho] at o6 o7
  refine ⟨by rw [hw]; exact Wl.one rfl o6 o7, base x, ?_, rfl, rfl, ?_, fun j => ?_, fun j => ?_⟩
  · unfold nodeP; rw [hκ]; rfl
  · unfold Co.takes base; simp only; rw [hkids, hκ]; decide
  · unfold Co.ahd base; simp only; rw [hκ]; rfl
  · rw [hw, e3]
    unfold Co.rul base; simp only
    rw [hκ]
    rfl

theorem rc_20 {env : Env} {G : List Ty} {L : List (List UInt8)} {x : Nd} {i : Nat} {ks : List (Nat × Ty)} {τ : Ty} (hN : Nod x 20) (h64 : ∀ q ∈ ks, (enc q.2).length ≤ 64) (hlen : x.kids = (ks.length : Int)) (h : Ck.rule env x i ks = .ok τ) : Rc G L x τ (ks.map Prod.snd) := by
  have hκ : x.kind = 20 := hN.kind
  have hkids := hN.kids (by decide)
  obtain ⟨q, rfl⟩ : ∃ q, ks = [q] := List.length_eq_one_iff.1 (by have : Tr.arK ((20 : Nat) : Int) = 1 := by decide
                                                                  omega)
  obtain ⟨k, A, B, e1, e2, e3, e4⟩ := use_parts (rule_use (by omega) (u := (0, 44, 1)) (by rw [hκ]; rfl) h)
  simp at e1
  subst e1
  obtain ⟨o1, o2, o3, o4, o5, o6, o7, o8⟩ := opn_mt (by decide) e2 (h64 q (by simp))
  have ho : opn 44 q.2 = Ty.tp A B := o3 rfl
  have hw : wishes x τ ([q].map Prod.snd) = [(0, Ty.tp A B, 10)] := by
    unfold wishes
    rw [hκ]
    simp [ho]
  rw [ho] at o6 o7
  refine ⟨by rw [hw]; exact Wl.one rfl o6 o7, base x, ?_, rfl, rfl, ?_, fun j => ?_, fun j => ?_⟩
  · unfold nodeP; rw [hκ]; rfl
  · unfold Co.takes base; simp only; rw [hkids, hκ]; decide
  · unfold Co.ahd base; simp only; rw [hκ]; rfl
  · rw [hw, e3]
    unfold Co.rul base; simp only
    rw [hκ]
    rfl

theorem rc_22 {env : Env} {G : List Ty} {L : List (List UInt8)} {x : Nd} {i : Nat} {ks : List (Nat × Ty)} {τ : Ty} (hN : Nod x 22) (h64 : ∀ q ∈ ks, (enc q.2).length ≤ 64) (hlen : x.kids = (ks.length : Int)) (h : Ck.rule env x i ks = .ok τ) : Rc G L x τ (ks.map Prod.snd) := by
  have hκ : x.kind = 22 := hN.kind
  have hkids := hN.kids (by decide)
  obtain ⟨q, rfl⟩ : ∃ q, ks = [q] := List.length_eq_one_iff.1 (by have : Tr.arK ((22 : Nat) : Int) = 1 := by decide
                                                                  omega)
  obtain ⟨k, A, B, e1, e2, e3, e4⟩ := use_parts (rule_use (by omega) (u := (0, 108, 0)) (by rw [hκ]; rfl) h)
  simp at e1
  subst e1
  obtain ⟨o1, o2, o3, o4, o5, o6, o7, o8⟩ := opn_mt (by decide) e2 (h64 q (by simp))
  have ho : opn 108 q.2 = Ty.tl A := o4 rfl
  have hw : wishes x τ ([q].map Prod.snd) = [(0, Ty.tl A, 11)] := by
    unfold wishes
    rw [hκ]
    simp [ho]
  rw [ho] at o6 o7
  refine ⟨by rw [hw]; exact Wl.one rfl o6 o7, base x, ?_, rfl, rfl, ?_, fun j => ?_, fun j => ?_⟩
  · unfold nodeP; rw [hκ]; rfl
  · unfold Co.takes base; simp only; rw [hkids, hκ]; decide
  · unfold Co.ahd base; simp only; rw [hκ]; rfl
  · rw [hw, e3]
    unfold Co.rul base; simp only
    rw [hκ]
    rfl

theorem rc_23 {env : Env} {G : List Ty} {L : List (List UInt8)} {x : Nd} {i : Nat} {ks : List (Nat × Ty)} {τ : Ty} (hN : Nod x 23) (h64 : ∀ q ∈ ks, (enc q.2).length ≤ 64) (hlen : x.kids = (ks.length : Int)) (h : Ck.rule env x i ks = .ok τ) : Rc G L x τ (ks.map Prod.snd) := by
  have hκ : x.kind = 23 := hN.kind
  have hkids := hN.kids (by decide)
  obtain ⟨q, rfl⟩ : ∃ q, ks = [q] := List.length_eq_one_iff.1 (by have : Tr.arK ((23 : Nat) : Int) = 1 := by decide
                                                                  omega)
  obtain ⟨k, A, B, e1, e2, e3, e4⟩ := use_parts (rule_use (by omega) (u := (0, 108, 2)) (by rw [hκ]; rfl) h)
  simp at e1
  subst e1
  obtain ⟨o1, o2, o3, o4, o5, o6, o7, o8⟩ := opn_mt (by decide) e2 (h64 q (by simp))
  have ho : opn 108 q.2 = Ty.tl A := o4 rfl
  have hw : wishes x τ ([q].map Prod.snd) = [(0, Ty.tl A, 11)] := by
    unfold wishes
    rw [hκ]
    simp [ho]
  rw [ho] at o6 o7
  refine ⟨by rw [hw]; exact Wl.one rfl o6 o7, base x, ?_, rfl, rfl, ?_, fun j => ?_, fun j => ?_⟩
  · unfold nodeP; rw [hκ]; rfl
  · unfold Co.takes base; simp only; rw [hkids, hκ]; decide
  · unfold Co.ahd base; simp only; rw [hκ]; rfl
  · rw [hw, e3]
    unfold Co.rul base; simp only
    rw [hκ]
    rfl

theorem rc_24 {env : Env} {G : List Ty} {L : List (List UInt8)} {x : Nd} {i : Nat} {ks : List (Nat × Ty)} {τ : Ty} (hN : Nod x 24) (h64 : ∀ q ∈ ks, (enc q.2).length ≤ 64) (hlen : x.kids = (ks.length : Int)) (h : Ck.rule env x i ks = .ok τ) : Rc G L x τ (ks.map Prod.snd) := by
  have hκ : x.kind = 24 := hN.kind
  have hkids := hN.kids (by decide)
  obtain ⟨q, rfl⟩ : ∃ q, ks = [q] := List.length_eq_one_iff.1 (by have : Tr.arK ((24 : Nat) : Int) = 1 := by decide
                                                                  omega)
  obtain ⟨k, A, B, e1, e2, e3, e4⟩ := use_parts (rule_use (by omega) (u := (0, 108, 3)) (by rw [hκ]; rfl) h)
  simp at e1
  subst e1
  obtain ⟨o1, o2, o3, o4, o5, o6, o7, o8⟩ := opn_mt (by decide) e2 (h64 q (by simp))
  have ho : opn 108 q.2 = Ty.tl A := o4 rfl
  have hw : wishes x τ ([q].map Prod.snd) = [(0, Ty.tl A, 11)] := by
    unfold wishes
    rw [hκ]
    simp [ho]
  rw [ho] at o6 o7
  refine ⟨by rw [hw]; exact Wl.one rfl o6 o7, base x, ?_, rfl, rfl, ?_, fun j => ?_, fun j => ?_⟩
  · unfold nodeP; rw [hκ]; rfl
  · unfold Co.takes base; simp only; rw [hkids, hκ]; decide
  · unfold Co.ahd base; simp only; rw [hκ]; rfl
  · rw [hw, e3]
    unfold Co.rul base; simp only
    rw [hκ]
    rfl

theorem rc_27 {env : Env} {G : List Ty} {L : List (List UInt8)} {x : Nd} {i : Nat} {ks : List (Nat × Ty)} {τ : Ty} (hN : Nod x 27) (h64 : ∀ q ∈ ks, (enc q.2).length ≤ 64) (hlen : x.kids = (ks.length : Int)) (h : Ck.rule env x i ks = .ok τ) : Rc G L x τ (ks.map Prod.snd) := by
  have hκ : x.kind = 27 := hN.kind
  have hkids := hN.kids (by decide)
  obtain ⟨q, rfl⟩ : ∃ q, ks = [q] := List.length_eq_one_iff.1 (by have : Tr.arK ((27 : Nat) : Int) = 1 := by decide
                                                                  omega)
  obtain ⟨k, A, B, e1, e2, e3, e4⟩ := use_parts (rule_use (by omega) (u := (0, 120, 0)) (by rw [hκ]; rfl) h)
  simp at e1
  subst e1
  obtain ⟨o1, o2, o3, o4, o5, o6, o7, o8⟩ := opn_mt (by decide) e2 (h64 q (by simp))
  have ho : opn 120 q.2 = Ty.tx A := o5 rfl
  have hw : wishes x τ ([q].map Prod.snd) = [(0, Ty.tx A, 12)] := by
    unfold wishes
    rw [hκ]
    simp [ho]
  rw [ho] at o6 o7
  refine ⟨by rw [hw]; exact Wl.one rfl o6 o7, base x, ?_, rfl, rfl, ?_, fun j => ?_, fun j => ?_⟩
  · unfold nodeP; rw [hκ]; rfl
  · unfold Co.takes base; simp only; rw [hkids, hκ]; decide
  · unfold Co.ahd base; simp only; rw [hκ]; rfl
  · rw [hw, e3]
    unfold Co.rul base; simp only
    rw [hκ]
    rfl

theorem rc_7 {env : Env} {G : List Ty} {L : List (List UInt8)} {x : Nd} {i : Nat} {ks : List (Nat × Ty)} {τ : Ty} (hN : Nod x 7) (h64 : ∀ q ∈ ks, (enc q.2).length ≤ 64) (hlen : x.kids = (ks.length : Int)) (h : Ck.rule env x i ks = .ok τ) : Rc G L x τ (ks.map Prod.snd) := by
  have hκ : x.kind = 7 := hN.kind
  have hkids := hN.kids (by decide)
  obtain ⟨q0, q1, rfl⟩ : ∃ q0 q1, ks = [q0, q1] := len2 (by have h2 : Tr.arK ((7 : Nat) : Int) = 2 := (by decide); omega)
  obtain ⟨k, A, B, e1, e2, e3, e4⟩ := use_parts (rule_use (by omega) (u := (0, 62, 1)) (by rw [hκ]; rfl) h)
  simp at e1
  subst e1
  obtain ⟨o1, o2, o3, o4, o5, o6, o7, o8⟩ := opn_mt (by decide) e2 (h64 q0 (by simp))
  have ho : opn 62 q0.2 = Ty.tf A B := o2 rfl
  have hc := e4 1 q1 rfl (by decide)
  have hw : wishes x τ ([q0, q1].map Prod.snd) = [(0, Ty.tf A B, 3), (1, A, 4)] := by
    unfold wishes
    rw [hκ]
    simp [ho, o1]
  rw [ho] at o6 o7
  refine ⟨?_, base x, ?_, rfl, rfl, ?_, fun j => ?_, fun j => ?_⟩
  · rw [hw]
    refine ⟨by simp, fun v hv => ?_⟩
    simp at hv
    rcases hv with rfl | rfl
    · exact ⟨q0.2, rfl, o6, o7⟩
    · exact ⟨q1.2, rfl, hc, o8⟩
  · unfold nodeP; rw [hκ]; rfl
  · unfold Co.takes base; simp only; rw [hkids, hκ]; decide
  · unfold Co.ahd base; simp only; rw [hκ]; rfl
  · rw [hw, e3]
    unfold Co.rul base; simp only
    rw [hκ]
    simp [sets, Ck.giv]

theorem rc_25 {env : Env} {G : List Ty} {L : List (List UInt8)} {x : Nd} {i : Nat} {ks : List (Nat × Ty)} {τ : Ty} (hN : Nod x 25) (h64 : ∀ q ∈ ks, (enc q.2).length ≤ 64) (hlen : x.kids = (ks.length : Int)) (h : Ck.rule env x i ks = .ok τ) : Rc G L x τ (ks.map Prod.snd) := by
  have hκ : x.kind = 25 := hN.kind
  have hkids := hN.kids (by decide)
  obtain ⟨q0, q1, rfl⟩ : ∃ q0 q1, ks = [q0, q1] := len2 (by have h2 : Tr.arK ((25 : Nat) : Int) = 2 := (by decide); omega)
  obtain ⟨k, A, B, e1, e2, e3, e4⟩ := use_parts (rule_use (by omega) (u := (1, 108, 2)) (by rw [hκ]; rfl) h)
  simp at e1
  subst e1
  obtain ⟨o1, o2, o3, o4, o5, o6, o7, o8⟩ := opn_mt (by decide) e2 (h64 q1 (by simp))
  have ho : opn 108 q1.2 = Ty.tl A := o4 rfl
  have hc := e4 0 q0 rfl (by decide)
  have hw : wishes x τ ([q0, q1].map Prod.snd) = [(1, Ty.tl A, 11), (0, A, 14)] := by
    unfold wishes
    rw [hκ]
    simp [ho, o1]
  rw [ho] at o6 o7
  refine ⟨?_, base x, ?_, rfl, rfl, ?_, fun j => ?_, fun j => ?_⟩
  · rw [hw]
    refine ⟨by simp, fun v hv => ?_⟩
    simp at hv
    rcases hv with rfl | rfl
    · exact ⟨q1.2, rfl, o6, o7⟩
    · exact ⟨q0.2, rfl, hc, o8⟩
  · unfold nodeP; rw [hκ]; rfl
  · unfold Co.takes base; simp only; rw [hkids, hκ]; decide
  · unfold Co.ahd base; simp only; rw [hκ]; rfl
  · rw [hw, e3]
    unfold Co.rul base; simp only
    rw [hκ]
    simp [sets, Ck.giv]

theorem rc_28 {env : Env} {G : List Ty} {L : List (List UInt8)} {x : Nd} {i : Nat} {ks : List (Nat × Ty)} {τ : Ty} (hN : Nod x 28) (h64 : ∀ q ∈ ks, (enc q.2).length ≤ 64) (hlen : x.kids = (ks.length : Int)) (h : Ck.rule env x i ks = .ok τ) : Rc G L x τ (ks.map Prod.snd) := by
  have hκ : x.kind = 28 := hN.kind
  have hkids := hN.kids (by decide)
  obtain ⟨q0, q1, rfl⟩ : ∃ q0 q1, ks = [q0, q1] := len2 (by have h2 : Tr.arK ((28 : Nat) : Int) = 2 := (by decide); omega)
  obtain ⟨k, A, B, e1, e2, e3, e4⟩ := use_parts (rule_use (by omega) (u := (0, 120, 0)) (by rw [hκ]; rfl) h)
  simp at e1
  subst e1
  obtain ⟨o1, o2, o3, o4, o5, o6, o7, o8⟩ := opn_mt (by decide) e2 (h64 q0 (by simp))
  have ho : opn 120 q0.2 = Ty.tx A := o5 rfl
  have hc := e4 1 q1 rfl (by decide)
  have hw : wishes x τ ([q0, q1].map Prod.snd) = [(0, Ty.tx A, 12), (1, A, 15)] := by
    unfold wishes
    rw [hκ]
    simp [ho, o1]
  rw [ho] at o6 o7
  refine ⟨?_, base x, ?_, rfl, rfl, ?_, fun j => ?_, fun j => ?_⟩
  · rw [hw]
    refine ⟨by simp, fun v hv => ?_⟩
    simp at hv
    rcases hv with rfl | rfl
    · exact ⟨q0.2, rfl, o6, o7⟩
    · exact ⟨q1.2, rfl, hc, o8⟩
  · unfold nodeP; rw [hκ]; rfl
  · unfold Co.takes base; simp only; rw [hkids, hκ]; decide
  · unfold Co.ahd base; simp only; rw [hκ]; rfl
  · rw [hw, e3]
    unfold Co.rul base; simp only
    rw [hκ]
    simp [sets, Ck.giv]

theorem made_sz {i : Nat} {t u : Ty} (h : Ck.made i t = .ok u) : u = t ∧ (enc t).length ≤ 64 := by
  unfold Ck.made at h
  split at h
  · rename_i e; cases h; exact ⟨rfl, e⟩
  · cases h
theorem rc_18 {env : Env} {G : List Ty} {L : List (List UInt8)} {x : Nd} {i : Nat} {ks : List (Nat × Ty)} {τ : Ty} (hN : Nod x 18) (hlen : x.kids = (ks.length : Int)) (h : Ck.rule env x i ks = .ok τ) : Rc G L x τ (ks.map Prod.snd) := by
  have hκ : x.kind = 18 := hN.kind
  have hkids := hN.kids (by decide)
  obtain ⟨q0, q1, rfl⟩ : ∃ q0 q1, ks = [q0, q1] := len2 (by have h2 : Tr.arK ((18 : Nat) : Int) = 2 := (by decide); omega)
  unfold Ck.rule at h
  rw [hκ] at h
  simp at h
  obtain ⟨rfl, hz⟩ := made_sz h
  have hw : wishes x (.tp q0.2 q1.2) ([q0, q1].map Prod.snd) = [] := by unfold wishes; rw [hκ]; rfl
  refine ⟨by rw [hw]; exact Wl.nil _, base x, ?_, rfl, rfl, ?_, fun j => ?_, fun j => ?_⟩
  · unfold nodeP; rw [hκ]; rfl
  · unfold Co.takes base; simp only; rw [hkids, hκ]; decide
  · unfold Co.ahd base; simp only; rw [hκ]; rfl
  · rw [hw]
    unfold Co.rul base; simp only
    rw [hκ]
    simp [sets, Co.made, hz]
theorem rc_26 {env : Env} {G : List Ty} {L : List (List UInt8)} {x : Nd} {i : Nat} {ks : List (Nat × Ty)} {τ : Ty} (hN : Nod x 26) (hlen : x.kids = (ks.length : Int)) (h : Ck.rule env x i ks = .ok τ) : Rc G L x τ (ks.map Prod.snd) := by
  have hκ : x.kind = 26 := hN.kind
  have hkids := hN.kids (by decide)
  obtain ⟨q, rfl⟩ : ∃ q, ks = [q] := List.length_eq_one_iff.1 (by have : Tr.arK ((26 : Nat) : Int) = 1 := by decide
                                                                  omega)
  unfold Ck.rule at h
  rw [hκ] at h
  simp at h
  obtain ⟨rfl, hz⟩ := made_sz h
  have hw : wishes x (.tx q.2) ([q].map Prod.snd) = [] := by unfold wishes; rw [hκ]; rfl
  refine ⟨by rw [hw]; exact Wl.nil _, base x, ?_, rfl, rfl, ?_, fun j => ?_, fun j => ?_⟩
  · unfold nodeP; rw [hκ]; rfl
  · unfold Co.takes base; simp only; rw [hkids, hκ]; decide
  · unfold Co.ahd base; simp only; rw [hκ]; rfl
  · rw [hw]
    unfold Co.rul base; simp only
    rw [hκ]
    simp [sets, Co.made, hz]
theorem cns_met : ∀ {a b : Ty}, cns a b = true → cns a (met a b) = true ∧ cns b (met a b) = true := by
  intro a
  induction a with
  | ti | tb | tt => intro b h; cases b <;> simp_all [cns, met]
  | tq => intro b h; exact ⟨cns_tq _, by cases b <;> simp [met, cns_refl]⟩
  | tl a ih | tx a ih =>
    intro b h
    cases b with
    | tq => exact ⟨by simp [met, cns_refl], cns_tq _⟩
    | tl c | tx c =>
      first
      | (have := ih (b := c) (by simpa [cns] using h); simpa [met, cns] using this)
      | simp [cns] at h
    | _ => simp [cns] at h
  | tf a b iha ihb | tp a b iha ihb =>
    intro c h
    cases c with
    | tq => exact ⟨by simp [met, cns_refl], cns_tq _⟩
    | tf d e | tp d e =>
      first
      | (simp only [cns, Bool.and_eq_true] at h
         have h1 := iha h.1
         have h2 := ihb h.2
         simp [met, cns, h1.1, h1.2, h2.1, h2.2])
      | simp [cns] at h
    | _ => simp [cns] at h
theorem rc_9 {env : Env} {G : List Ty} {L : List (List UInt8)} {x : Nd} {i : Nat} {ks : List (Nat × Ty)} {τ : Ty} (hN : Nod x 9) (hlen : x.kids = (ks.length : Int)) (h : Ck.rule env x i ks = .ok τ) : Rc G L x τ (ks.map Prod.snd) := by
  have hκ : x.kind = 9 := hN.kind
  have hkids := hN.kids (by decide)
  obtain ⟨q0, q1, q2, rfl⟩ : ∃ q0 q1 q2, ks = [q0, q1, q2] := len3 (by have h2 : Tr.arK ((9 : Nat) : Int) = 3 := (by decide); omega)
  unfold Ck.rule at h
  rw [hκ] at h
  simp only [Int.reduceEq, if_false, or_self, if_true] at h
  split at h
  · rename_i hc
    unfold Ck.meetK at h
    split at h
    · rename_i hab
      split at h
      · rename_i hz
        cases h
        obtain ⟨m1, m2⟩ := cns_met hab
        have hw : wishes x (met q1.2 q2.2) ([q0, q1, q2].map Prod.snd) = [(0, .tb, 5), (1, met q1.2 q2.2, 6), (2, met q1.2 q2.2, 7)] := by unfold wishes; rw [hκ]; rfl
        refine ⟨?_, base x, ?_, rfl, rfl, ?_, fun j => ?_, fun j => ?_⟩
        · rw [hw]
          refine ⟨by simp, fun v hv => ?_⟩
          simp at hv
          rcases hv with rfl | rfl | rfl
          · exact ⟨q0.2, rfl, hc, by decide⟩
          · exact ⟨q1.2, rfl, m1, hz⟩
          · exact ⟨q2.2, rfl, m2, hz⟩
        · unfold nodeP; rw [hκ]; rfl
        · unfold Co.takes base; simp only; rw [hkids, hκ]; decide
        · unfold Co.ahd base; simp only; rw [hκ]; rfl
        · rw [hw]
          unfold Co.rul base; simp only
          rw [hκ]
          simp [sets]
      · cases h
    · cases h
  · cases h
end In
end Go.Proofs.YthdlfeejeboboaaGreatDoor
