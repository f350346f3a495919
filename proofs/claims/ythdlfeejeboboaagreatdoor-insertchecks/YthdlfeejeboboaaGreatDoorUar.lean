/- Package check: rule, of any node that may be. Package check: the checker's state; the closure that checks a kid. Package check: kidOf. Package check: with, whose scope stands also where other blocks than its own have changed. Package check: kidOf of a Let. -/
import Derived.Test.YthdlfeejeboboaaGreatDoorUaq
import Derived.Test.YthdlfeejeboboaaGreatDoorUaj
import Derived.Deep.RegionHeld
namespace Go.Proofs.YthdlfeejeboboaaGreatDoor
open Go.RowKit Ck
open T3.Tp (Ty enc cns met)
set_option maxRecDepth 100000
set_option linter.unusedSimpArgs false

theorem len_two {α : Type} {l : List α} (h : l.length = 2) : ∃ a b, l = [a, b] := by
  match l, h with
  | [a, b], _ => exact ⟨a, b, rfl⟩
theorem len_three {α : Type} {l : List α} (h : l.length = 3) : ∃ a b c, l = [a, b, c] := by
  match l, h with
  | [a, b, c], _ => exact ⟨a, b, c, rfl⟩
theorem beh_same : ∀ (l : List UInt8) (m : Nat), T3.Tp.beh l m = Tp.beh l m
  | [], 0 => rfl
  | [], _ + 1 => rfl
  | _ :: _, 0 => rfl
  | c :: r, m + 1 => by
    simp only [T3.Tp.beh, Tp.beh]
    rw [beh_same r]
    rfl
theorem chk_same (l : List UInt8) : T3.Tp.chk l = Tp.chk l := by
  unfold T3.Tp.chk Tp.chk
  rw [beh_same]
theorem wr_typ {s : ByteArray} (h : typB s.data.toList = true) : s = S (enc (wr s)) ∧ (enc (wr s)).length ≤ 64 := by
  unfold typB at h
  rw [← chk_same] at h
  obtain ⟨t, h1, h2⟩ := T3.Tp.chk_dec (by simpa using h)
  have hp := T3.Tp.enc_pos t
  have hz : s.size ≠ 0 := by
    intro e
    have : s.data.toList.length = 0 := by rw [str_len, e]
    rw [h1] at this
    omega
  have hw : wr s = t := by unfold wr; rw [if_neg hz, h1, tyOf_enc]
  rw [hw]
  exact ⟨by rw [← h1]; rfl, h2⟩
theorem wr_note {s : ByteArray} (h : noteB s.data.toList = true) : (if s.size = 0 then (⟨#[63]⟩ : ByteArray) else s) = S (enc (wr s)) ∧ (enc (wr s)).length ≤ 64 := by
  by_cases hz : s.size = 0
  · have hw : wr s = .tq := by unfold wr; rw [if_pos hz]
    rw [hw, if_pos hz]
    exact ⟨rfl, by decide⟩
  · rw [if_neg hz]
    refine wr_typ ?_
    unfold noteB at h
    have : s.data.toList.isEmpty = false := by
      cases hl : s.data.toList with
      | nil => exact absurd (by rw [← str_len, hl]; rfl) hz
      | cons a r => rfl
    rw [this] at h
    simpa using h

structure Nod (x : Tr.Nd) (κ : Nat) : Prop where
  kind : x.kind = κ
  lo : 1 ≤ κ
  hi : κ ≤ 29
  kids : κ ≠ 21 → x.kids = Tr.arK κ
  kid0 : 0 ≤ x.kids
  t : (κ = 5 ∨ κ = 6 ∨ κ = 8) → noteB x.t.data.toList = true
  a : κ = 29 → typB x.t.data.toList = true
  u : (κ = 5 ∨ κ = 6) → noteB x.u.data.toList = true
theorem nod_of {x : Tr.Nd} (h : Tr.mayB x = true) : ∃ κ, Nod x κ := by
  unfold Tr.mayB at h
  simp only [Bool.and_eq_true] at h
  obtain ⟨⟨⟨⟨hf, -⟩, -⟩, ht⟩, hu⟩ := h
  have hk : (1 ≤ x.kind ∧ x.kind ≤ 29) ∧ (x.kind ≠ 21 → x.kids = Tr.arK x.kind) ∧ 0 ≤ x.kids := by
    unfold Tr.fitB at hf
    by_cases h21 : x.kind = 21
    · rw [if_pos (by simpa using h21)] at hf
      exact ⟨by omega, fun h => absurd h21 h, by simpa using hf⟩
    · rw [if_neg (by simpa using h21)] at hf
      by_cases h30 : x.kind = 30
      · rw [if_pos (by simpa using h30)] at hf; cases hf
      · rw [if_neg (by simpa using h30)] at hf
        simp [Tr.arF] at hf
        refine ⟨by omega, fun _ => hf.2, ?_⟩
        rw [hf.2]
        unfold Tr.arK
        repeat' split
        all_goals omega
  refine ⟨x.kind.toNat, by omega, by omega, by omega, fun h => ?_, hk.2.2, fun h => ?_, fun h => ?_, fun h => ?_⟩
  · rw [show ((x.kind.toNat : Nat) : Int) = x.kind by omega]; exact hk.2.1 (by omega)
  · unfold Tr.tB at ht
    rw [if_pos (by simp; omega)] at ht
    exact ht
  · unfold Tr.tB at ht
    rw [if_neg (by simp; omega), if_pos (by simp; omega)] at ht
    exact ht
  · unfold Tr.uB at hu
    rw [if_pos (by simp; omega)] at hu
    exact hu

theorem rule_any (w : World) (cb tb n i : Nat) (nv kv sv : Value) (l : List Tr.Nd) (x : Tr.Nd) (κ : Nat) (env : Env) (ks : List (Nat × Ty)) (hN0 : Nod x κ) (hx : l[i]? = some x) (hlen : x.kids = ks.length) (hN : HasN w cb nv l) (hT : HasT w cb tb n) (hK : Kds w tb n kv ks) (hG : HasG w) (hS : Scope cb tb w sv env) (hs : x.s.size ≤ maxLen) (hin : i < n)
    (hti : (κ = 5 ∨ κ = 6) → w.cell? ⟨tb, i, none⟩ = some (.string (S (enc (.tf (wr x.t) (wr x.u)))))) :
    Calls Tryz.prog 82 #[.pointer (some ⟨cb, 0, none⟩), .int .i64 (i : Int), kv, sv] w fun e w' => Ans (Ck.rule env x i ks) e ∧ Below w.heap.size w w' := by
  have hd : κ = 1 ∨ κ = 2 ∨ κ = 3 ∨ κ = 4 ∨ κ = 5 ∨ κ = 6 ∨ κ = 7 ∨ κ = 8 ∨ κ = 9 ∨ κ = 10 ∨ κ = 11 ∨ κ = 12 ∨ κ = 13 ∨ κ = 14 ∨ κ = 15 ∨ κ = 16 ∨ κ = 17 ∨ κ = 18 ∨ κ = 19 ∨ κ = 20 ∨ κ = 21 ∨ κ = 22 ∨ κ = 23 ∨ κ = 24 ∨ κ = 25 ∨ κ = 26 ∨ κ = 27 ∨ κ = 28 ∨ κ = 29 := by have := hN0.lo; have := hN0.hi; omega
  rcases hd with rfl | rfl | rfl | rfl | rfl | rfl | rfl | rfl | rfl | rfl | rfl | rfl | rfl | rfl | rfl | rfl | rfl | rfl | rfl | rfl | rfl | rfl | rfl | rfl | rfl | rfl | rfl | rfl | rfl
  · have hκ : x.kind = 1 := hN0.kind
    have hkd : x.kids = Tr.arK 1 := hN0.kids (by decide)
    have hr : Ck.rule env x i ks = opr (opT (1 : Nat)) ks := by unfold Ck.rule; rw [hκ]; rfl
    rw [hr]
    have h0 : ks = [] := by have e : (ks.length : Int) = 0 := hlen.symm.trans hkd; exact List.length_eq_zero_iff.1 (by omega)
    exact rule_ops w cb tb n i 1 nv kv sv l x ks ([], [105]) hK hG rfl rfl (.inl h0) rfl (by decide) ⟨by decide, by decide, by decide, by decide, by decide, by decide, by decide, by decide, by decide⟩ hx hκ hN hT
  · have hκ : x.kind = 2 := hN0.kind
    have hkd : x.kids = Tr.arK 2 := hN0.kids (by decide)
    have hr : Ck.rule env x i ks = opr (opT (2 : Nat)) ks := by unfold Ck.rule; rw [hκ]; rfl
    rw [hr]
    have h0 : ks = [] := by have e : (ks.length : Int) = 0 := hlen.symm.trans hkd; exact List.length_eq_zero_iff.1 (by omega)
    exact rule_ops w cb tb n i 2 nv kv sv l x ks ([], [116]) hK hG rfl rfl (.inl h0) rfl (by decide) ⟨by decide, by decide, by decide, by decide, by decide, by decide, by decide, by decide, by decide⟩ hx hκ hN hT
  · have hκ : x.kind = 3 := hN0.kind
    have hkd : x.kids = Tr.arK 3 := hN0.kids (by decide)
    have hr : Ck.rule env x i ks = opr (opT (3 : Nat)) ks := by unfold Ck.rule; rw [hκ]; rfl
    rw [hr]
    have h0 : ks = [] := by have e : (ks.length : Int) = 0 := hlen.symm.trans hkd; exact List.length_eq_zero_iff.1 (by omega)
    exact rule_ops w cb tb n i 3 nv kv sv l x ks ([], [98]) hK hG rfl rfl (.inl h0) rfl (by decide) ⟨by decide, by decide, by decide, by decide, by decide, by decide, by decide, by decide, by decide⟩ hx hκ hN hT
  · have hκ : x.kind = 4 := hN0.kind
    have hkd : x.kids = Tr.arK 4 := hN0.kids (by decide)
    have hr : Ck.rule env x i ks = match Ck.look env (Tr.nm x) with | none => .error (22, i) | some t => .ok t := by unfold Ck.rule; rw [hκ]; rfl
    rw [hr]
    exact rule_var w cb tb n i nv kv sv l x env hS hs hx hκ hN hT
  · have hκ : x.kind = 5 := hN0.kind
    have hkd : x.kids = Tr.arK 5 := hN0.kids (by decide)
    obtain ⟨k, rfl⟩ : ∃ k, ks = [k] := List.length_eq_one_iff.1 (by have e : (ks.length : Int) = 1 := hlen.symm.trans hkd; omega)
    have hr : Ck.rule env x i [k] = if cns k.2 (wr x.u) then .ok (.tf (wr x.t) (wr x.u)) else .error (23, k.1) := by unfold Ck.rule; rw [hκ]; rfl
    rw [hr]
    exact rule_fn w cb tb n i nv kv sv l x k hK hin (hti (by decide)) (wr_note (hN0.u (by decide))).1 (wr_note (hN0.u (by decide))).2 hx hκ hN hT
  · have hκ : x.kind = 6 := hN0.kind
    have hkd : x.kids = Tr.arK 6 := hN0.kids (by decide)
    obtain ⟨k, rfl⟩ : ∃ k, ks = [k] := List.length_eq_one_iff.1 (by have e : (ks.length : Int) = 1 := hlen.symm.trans hkd; omega)
    have hr : Ck.rule env x i [k] = if cns k.2 (wr x.u) then .ok (.tf (wr x.t) (wr x.u)) else .error (23, k.1) := by unfold Ck.rule; rw [hκ]; rfl
    rw [hr]
    exact rule_rec w cb tb n i nv kv sv l x k hK hin (hti (by decide)) (wr_note (hN0.u (by decide))).1 (wr_note (hN0.u (by decide))).2 hx hκ hN hT
  · have hκ : x.kind = 7 := hN0.kind
    have hkd : x.kids = Tr.arK 7 := hN0.kids (by decide)
    have hr : Ck.rule env x i ks = use (0, 62, 1) ks := by unfold Ck.rule; rw [hκ]; rfl
    rw [hr]
    obtain ⟨k, hk⟩ : ∃ k, ks[0]? = some k := ⟨_, List.getElem?_eq_getElem (show 0 < ks.length by have e : (ks.length : Int) = Tr.arK 7 := hlen.symm.trans hkd; have e2 : Tr.arK 7 = 2 := rfl; omega)⟩
    exact rule_uses w cb tb n i 7 nv kv sv l x ks (0, 62, [66]) 1 k hK hG rfl rfl hk (.inl rfl) ⟨by decide, by decide, by decide, by decide, by decide, by decide, by decide, by decide, by decide⟩ hx hκ hN hT
  · have hκ : x.kind = 8 := hN0.kind
    have hkd : x.kids = Tr.arK 8 := hN0.kids (by decide)
    obtain ⟨k, b, rfl⟩ : ∃ k b, ks = [k, b] := len_two (by have e : (ks.length : Int) = 2 := hlen.symm.trans hkd; omega)
    have hr : Ck.rule env x i [k, b] = if cns k.2 (wr x.t) then .ok b.2 else .error (23, k.1) := by unfold Ck.rule; rw [hκ]; rfl
    rw [hr]
    exact rule_let w cb tb n i nv kv sv l x k b hK (wr_note (hN0.t (by decide))).1 (wr_note (hN0.t (by decide))).2 hx hκ hN hT
  · have hκ : x.kind = 9 := hN0.kind
    have hkd : x.kids = Tr.arK 9 := hN0.kids (by decide)
    obtain ⟨c, a, b, rfl⟩ : ∃ c a b, ks = [c, a, b] := len_three (by have e : (ks.length : Int) = 3 := hlen.symm.trans hkd; omega)
    have hr : Ck.rule env x i [c, a, b] = if cns c.2 .tb then meetK i a.2 b else .error (23, c.1) := by unfold Ck.rule; rw [hκ]; rfl
    rw [hr]
    exact rule_if w cb tb n i nv kv sv l x c a b hK hx hκ hN hT
  · have hκ : x.kind = 10 := hN0.kind
    have hkd : x.kids = Tr.arK 10 := hN0.kids (by decide)
    have hr : Ck.rule env x i ks = opr (opT (10 : Nat)) ks := by unfold Ck.rule; rw [hκ]; rfl
    rw [hr]
    exact rule_ops w cb tb n i 10 nv kv sv l x ks ([105], [105]) hK hG rfl rfl (.inr rfl) rfl (by decide) ⟨by decide, by decide, by decide, by decide, by decide, by decide, by decide, by decide, by decide⟩ hx hκ hN hT
  · have hκ : x.kind = 11 := hN0.kind
    have hkd : x.kids = Tr.arK 11 := hN0.kids (by decide)
    have hr : Ck.rule env x i ks = opr (opT (11 : Nat)) ks := by unfold Ck.rule; rw [hκ]; rfl
    rw [hr]
    exact rule_ops w cb tb n i 11 nv kv sv l x ks ([105], [105]) hK hG rfl rfl (.inr rfl) rfl (by decide) ⟨by decide, by decide, by decide, by decide, by decide, by decide, by decide, by decide, by decide⟩ hx hκ hN hT
  · have hκ : x.kind = 12 := hN0.kind
    have hkd : x.kids = Tr.arK 12 := hN0.kids (by decide)
    have hr : Ck.rule env x i ks = opr (opT (12 : Nat)) ks := by unfold Ck.rule; rw [hκ]; rfl
    rw [hr]
    exact rule_ops w cb tb n i 12 nv kv sv l x ks ([105], [105]) hK hG rfl rfl (.inr rfl) rfl (by decide) ⟨by decide, by decide, by decide, by decide, by decide, by decide, by decide, by decide, by decide⟩ hx hκ hN hT
  · have hκ : x.kind = 13 := hN0.kind
    have hkd : x.kids = Tr.arK 13 := hN0.kids (by decide)
    have hr : Ck.rule env x i ks = opr (opT (13 : Nat)) ks := by unfold Ck.rule; rw [hκ]; rfl
    rw [hr]
    exact rule_ops w cb tb n i 13 nv kv sv l x ks ([116], [116]) hK hG rfl rfl (.inr rfl) rfl (by decide) ⟨by decide, by decide, by decide, by decide, by decide, by decide, by decide, by decide, by decide⟩ hx hκ hN hT
  · have hκ : x.kind = 14 := hN0.kind
    have hkd : x.kids = Tr.arK 14 := hN0.kids (by decide)
    have hr : Ck.rule env x i ks = opr (opT (14 : Nat)) ks := by unfold Ck.rule; rw [hκ]; rfl
    rw [hr]
    exact rule_ops w cb tb n i 14 nv kv sv l x ks ([105], [98]) hK hG rfl rfl (.inr rfl) rfl (by decide) ⟨by decide, by decide, by decide, by decide, by decide, by decide, by decide, by decide, by decide⟩ hx hκ hN hT
  · have hκ : x.kind = 15 := hN0.kind
    have hkd : x.kids = Tr.arK 15 := hN0.kids (by decide)
    have hr : Ck.rule env x i ks = opr (opT (15 : Nat)) ks := by unfold Ck.rule; rw [hκ]; rfl
    rw [hr]
    exact rule_ops w cb tb n i 15 nv kv sv l x ks ([105], [98]) hK hG rfl rfl (.inr rfl) rfl (by decide) ⟨by decide, by decide, by decide, by decide, by decide, by decide, by decide, by decide, by decide⟩ hx hκ hN hT
  · have hκ : x.kind = 16 := hN0.kind
    have hkd : x.kids = Tr.arK 16 := hN0.kids (by decide)
    have hr : Ck.rule env x i ks = opr (opT (16 : Nat)) ks := by unfold Ck.rule; rw [hκ]; rfl
    rw [hr]
    exact rule_ops w cb tb n i 16 nv kv sv l x ks ([105], [105]) hK hG rfl rfl (.inr rfl) rfl (by decide) ⟨by decide, by decide, by decide, by decide, by decide, by decide, by decide, by decide, by decide⟩ hx hκ hN hT
  · have hκ : x.kind = 17 := hN0.kind
    have hkd : x.kids = Tr.arK 17 := hN0.kids (by decide)
    have hr : Ck.rule env x i ks = opr (opT (17 : Nat)) ks := by unfold Ck.rule; rw [hκ]; rfl
    rw [hr]
    exact rule_ops w cb tb n i 17 nv kv sv l x ks ([116], [105]) hK hG rfl rfl (.inr rfl) rfl (by decide) ⟨by decide, by decide, by decide, by decide, by decide, by decide, by decide, by decide, by decide⟩ hx hκ hN hT
  · have hκ : x.kind = 18 := hN0.kind
    have hkd : x.kids = Tr.arK 18 := hN0.kids (by decide)
    obtain ⟨a, b, rfl⟩ : ∃ a b, ks = [a, b] := len_two (by have e : (ks.length : Int) = 2 := hlen.symm.trans hkd; omega)
    have hr : Ck.rule env x i [a, b] = made i (.tp a.2 b.2) := by unfold Ck.rule; rw [hκ]; rfl
    rw [hr]
    exact rule_pair w cb tb n i nv kv sv l x a b hK hx hκ hN hT
  · have hκ : x.kind = 19 := hN0.kind
    have hkd : x.kids = Tr.arK 19 := hN0.kids (by decide)
    have hr : Ck.rule env x i ks = use (0, 44, 0) ks := by unfold Ck.rule; rw [hκ]; rfl
    rw [hr]
    obtain ⟨k, hk⟩ : ∃ k, ks[0]? = some k := ⟨_, List.getElem?_eq_getElem (show 0 < ks.length by have e : (ks.length : Int) = Tr.arK 19 := hlen.symm.trans hkd; have e2 : Tr.arK 19 = 1 := rfl; omega)⟩
    exact rule_uses w cb tb n i 19 nv kv sv l x ks (0, 44, [65]) 0 k hK hG rfl rfl hk (.inr (.inl rfl)) ⟨by decide, by decide, by decide, by decide, by decide, by decide, by decide, by decide, by decide⟩ hx hκ hN hT
  · have hκ : x.kind = 20 := hN0.kind
    have hkd : x.kids = Tr.arK 20 := hN0.kids (by decide)
    have hr : Ck.rule env x i ks = use (0, 44, 1) ks := by unfold Ck.rule; rw [hκ]; rfl
    rw [hr]
    obtain ⟨k, hk⟩ : ∃ k, ks[0]? = some k := ⟨_, List.getElem?_eq_getElem (show 0 < ks.length by have e : (ks.length : Int) = Tr.arK 20 := hlen.symm.trans hkd; have e2 : Tr.arK 20 = 1 := rfl; omega)⟩
    exact rule_uses w cb tb n i 20 nv kv sv l x ks (0, 44, [66]) 1 k hK hG rfl rfl hk (.inr (.inl rfl)) ⟨by decide, by decide, by decide, by decide, by decide, by decide, by decide, by decide, by decide⟩ hx hκ hN hT
  · have hκ : x.kind = 21 := hN0.kind
    have hr : Ck.rule env x i ks = lst i .tq ks := by unfold Ck.rule; rw [hκ]; rfl
    rw [hr]
    exact rule_list w cb tb n i nv kv sv l x ks hK hx hκ hN hT
  · have hκ : x.kind = 22 := hN0.kind
    have hkd : x.kids = Tr.arK 22 := hN0.kids (by decide)
    have hr : Ck.rule env x i ks = use (0, 108, 0) ks := by unfold Ck.rule; rw [hκ]; rfl
    rw [hr]
    obtain ⟨k, hk⟩ : ∃ k, ks[0]? = some k := ⟨_, List.getElem?_eq_getElem (show 0 < ks.length by have e : (ks.length : Int) = Tr.arK 22 := hlen.symm.trans hkd; have e2 : Tr.arK 22 = 1 := rfl; omega)⟩
    exact rule_uses w cb tb n i 22 nv kv sv l x ks (0, 108, [65]) 0 k hK hG rfl rfl hk (.inr (.inr (.inl rfl))) ⟨by decide, by decide, by decide, by decide, by decide, by decide, by decide, by decide, by decide⟩ hx hκ hN hT
  · have hκ : x.kind = 23 := hN0.kind
    have hkd : x.kids = Tr.arK 23 := hN0.kids (by decide)
    have hr : Ck.rule env x i ks = use (0, 108, 2) ks := by unfold Ck.rule; rw [hκ]; rfl
    rw [hr]
    obtain ⟨k, hk⟩ : ∃ k, ks[0]? = some k := ⟨_, List.getElem?_eq_getElem (show 0 < ks.length by have e : (ks.length : Int) = Tr.arK 23 := hlen.symm.trans hkd; have e2 : Tr.arK 23 = 1 := rfl; omega)⟩
    exact rule_uses w cb tb n i 23 nv kv sv l x ks (0, 108, [108, 65]) 2 k hK hG rfl rfl hk (.inr (.inr (.inl rfl))) ⟨by decide, by decide, by decide, by decide, by decide, by decide, by decide, by decide, by decide⟩ hx hκ hN hT
  · have hκ : x.kind = 24 := hN0.kind
    have hkd : x.kids = Tr.arK 24 := hN0.kids (by decide)
    have hr : Ck.rule env x i ks = use (0, 108, 3) ks := by unfold Ck.rule; rw [hκ]; rfl
    rw [hr]
    obtain ⟨k, hk⟩ : ∃ k, ks[0]? = some k := ⟨_, List.getElem?_eq_getElem (show 0 < ks.length by have e : (ks.length : Int) = Tr.arK 24 := hlen.symm.trans hkd; have e2 : Tr.arK 24 = 1 := rfl; omega)⟩
    exact rule_uses w cb tb n i 24 nv kv sv l x ks (0, 108, [98]) 3 k hK hG rfl rfl hk (.inr (.inr (.inl rfl))) ⟨by decide, by decide, by decide, by decide, by decide, by decide, by decide, by decide, by decide⟩ hx hκ hN hT
  · have hκ : x.kind = 25 := hN0.kind
    have hkd : x.kids = Tr.arK 25 := hN0.kids (by decide)
    have hr : Ck.rule env x i ks = use (1, 108, 2) ks := by unfold Ck.rule; rw [hκ]; rfl
    rw [hr]
    obtain ⟨k, hk⟩ : ∃ k, ks[1]? = some k := ⟨_, List.getElem?_eq_getElem (show 1 < ks.length by have e : (ks.length : Int) = Tr.arK 25 := hlen.symm.trans hkd; have e2 : Tr.arK 25 = 2 := rfl; omega)⟩
    exact rule_uses w cb tb n i 25 nv kv sv l x ks (1, 108, [108, 65]) 2 k hK hG rfl rfl hk (.inr (.inr (.inl rfl))) ⟨by decide, by decide, by decide, by decide, by decide, by decide, by decide, by decide, by decide⟩ hx hκ hN hT
  · have hκ : x.kind = 26 := hN0.kind
    have hkd : x.kids = Tr.arK 26 := hN0.kids (by decide)
    obtain ⟨a, rfl⟩ : ∃ a, ks = [a] := List.length_eq_one_iff.1 (by have e : (ks.length : Int) = 1 := hlen.symm.trans hkd; omega)
    have hr : Ck.rule env x i [a] = made i (.tx a.2) := by unfold Ck.rule; rw [hκ]; rfl
    rw [hr]
    exact rule_box w cb tb n i nv kv sv l x a hK hx hκ hN hT
  · have hκ : x.kind = 27 := hN0.kind
    have hkd : x.kids = Tr.arK 27 := hN0.kids (by decide)
    have hr : Ck.rule env x i ks = use (0, 120, 0) ks := by unfold Ck.rule; rw [hκ]; rfl
    rw [hr]
    obtain ⟨k, hk⟩ : ∃ k, ks[0]? = some k := ⟨_, List.getElem?_eq_getElem (show 0 < ks.length by have e : (ks.length : Int) = Tr.arK 27 := hlen.symm.trans hkd; have e2 : Tr.arK 27 = 1 := rfl; omega)⟩
    exact rule_uses w cb tb n i 27 nv kv sv l x ks (0, 120, [65]) 0 k hK hG rfl rfl hk (.inr (.inr (.inr rfl))) ⟨by decide, by decide, by decide, by decide, by decide, by decide, by decide, by decide, by decide⟩ hx hκ hN hT
  · have hκ : x.kind = 28 := hN0.kind
    have hkd : x.kids = Tr.arK 28 := hN0.kids (by decide)
    have hr : Ck.rule env x i ks = use (0, 120, 0) ks := by unfold Ck.rule; rw [hκ]; rfl
    rw [hr]
    obtain ⟨k, hk⟩ : ∃ k, ks[0]? = some k := ⟨_, List.getElem?_eq_getElem (show 0 < ks.length by have e : (ks.length : Int) = Tr.arK 28 := hlen.symm.trans hkd; have e2 : Tr.arK 28 = 2 := rfl; omega)⟩
    exact rule_uses w cb tb n i 28 nv kv sv l x ks (0, 120, [65]) 0 k hK hG rfl rfl hk (.inr (.inr (.inr rfl))) ⟨by decide, by decide, by decide, by decide, by decide, by decide, by decide, by decide, by decide⟩ hx hκ hN hT
  · have hκ : x.kind = 29 := hN0.kind
    have hkd : x.kids = Tr.arK 29 := hN0.kids (by decide)
    obtain ⟨k, rfl⟩ : ∃ k, ks = [k] := List.length_eq_one_iff.1 (by have e : (ks.length : Int) = 1 := hlen.symm.trans hkd; omega)
    have hr : Ck.rule env x i [k] = if cns k.2 (wr x.t) then .ok (wr x.t) else .error (23, i) := by unfold Ck.rule; rw [hκ]; rfl
    rw [hr]
    exact rule_as w cb tb n i nv kv sv l x k hK (wr_typ (hN0.a rfl)).1 (wr_typ (hN0.a rfl)).2 hx hκ hN hT
end Go.Proofs.YthdlfeejeboboaaGreatDoor
namespace Go.Proofs.YthdlfeejeboboaaGreatDoor
open Go.RowKit Ck
open T3.Tp (Ty enc cns met)
open Tr (flat flats)
set_option maxRecDepth 100000
set_option linter.unusedSimpArgs false

def Rw (w : World) (tb n : Nat) : Prop := ∃ cur : Array Value, w.heap[tb]? = some (.cells cur 9 (0, 0)) ∧ cur.size = n
theorem Rw.same {w w' : World} {tb n : Nat} (h : Rw w tb n) (k : w'.heap[tb]? = w.heap[tb]?) : Rw w' tb n := by
  obtain ⟨cur, h1, h2⟩ := h
  exact ⟨cur, k.trans h1, h2⟩
theorem Rw.set {w : World} {tb n : Nat} (h : Rw w tb n) (i : Nat) (v : Value) : Rw (w.setCell ⟨tb, i, none⟩ v) tb n := by
  obtain ⟨cur, h1, h2⟩ := h
  exact ⟨cur.setIfInBounds i v, by simp [World.setCell, Array.getElem?_modify, h1], by simp [h2]⟩
structure St (B : Nat) (w : World) (cb tb : Nat) (nv : Value) (l : List Tr.Nd) (i : Nat) : Prop where
  nod : HasN w cb nv l
  typ : HasT w cb tb l.length
  nxt : w.cell? ⟨cb, 2, none⟩ = some (.int .i64 (i : Int))
  cz : ∀ q, w.frozen? ⟨cb, q, none⟩ = false
  tz : ∀ q, w.frozen? ⟨tb, q, none⟩ = false
  str : ∀ k, k < l.length → ∃ s, w.cell? ⟨tb, k, none⟩ = some (.string s)
  off : ∀ b o n c, nv = .slice (some ⟨b, o, none⟩) n c → b ≠ cb ∧ b ≠ tb ∧ b < B
  ne : cb ≠ tb
  g : HasG w
  gl : 8 ≤ cb ∧ 8 ≤ tb
  lt : cb < B ∧ tb < B ∧ B ≤ w.heap.size
  rwo : Rw w tb l.length
theorem St.keep {B : Nat} {w w' : World} {cb tb i G H : Nat} {nv : Value} {l : List Tr.Nd} (h : St B w cb tb nv l i) (k : Two G H w w') (hG : B ≤ G) (hH : B ≤ H) : St B w' cb tb nv l i := by
  have hl := h.lt
  have hb : ∀ j, j < B → w'.heap[j]? = w.heap[j]? := fun j hj => k.block j (by omega) (by omega) (by omega)
  have hc : ∀ j o, j < B → w'.cell? ⟨j, o, none⟩ = w.cell? ⟨j, o, none⟩ := fun j o hj => World.cell?_of_block (hb j hj)
  refine ⟨⟨(hc _ _ hl.1).trans h.nod.1, ?_⟩, (hc _ _ hl.1).trans h.typ, (hc _ _ hl.1).trans h.nxt, fun q => ?_, fun q => ?_, fun j hj => ?_, h.off, h.ne, h.g.two k (by have := h.gl; omega) (by have := h.gl; omega), h.gl, by have := k.size; omega, h.rwo.same (hb _ hl.2.1)⟩
  · rcases h.nod.2 with ⟨h1, h2⟩ | ⟨b, o, c, h1, h2, h3, h4⟩
    · exact .inl ⟨h1, h2⟩
    · have hbB := (h.off b o _ c h1).2.2
      exact .inr ⟨b, o, c, h1, h2, Nat.lt_of_lt_of_le h3 k.size, fun j x hx m u hu => (hc _ _ hbB).trans (h4 j x hx m u hu)⟩
  · rw [← h.cz q]; unfold World.frozen?; rw [hb _ hl.1]
  · rw [← h.tz q]; unfold World.frozen?; rw [hb _ hl.2.1]
  · obtain ⟨s, hs⟩ := h.str j hj
    exact ⟨s, (hc _ _ hl.2.1).trans hs⟩
theorem St.below {B : Nat} {w w' : World} {cb tb i : Nat} {nv : Value} {l : List Tr.Nd} (h : St B w cb tb nv l i) (k : Below w.heap.size w w') : St B w' cb tb nv l i := h.keep (below_two k w.heap.size w.heap.size) h.lt.2.2 h.lt.2.2

def PEnd (B : Nat) (w : World) (cb tb : Nat) (nv : Value) (l : List Tr.Nd) (i : Nat) (r : Rs (List Ty)) (e : Ending) (w' : World) : Prop := Two cb tb w w' ∧ match r with
  | .error q => q.1 ≠ 0 ∧ e = .returned (rf q.1 q.2)
  | .ok a => (∃ p : Int, e = .returned (rf 0 p)) ∧ St B w' cb tb nv l (i + a.length) ∧ (∀ k t, a[k]? = some t → w'.cell? ⟨tb, i + k, none⟩ = some (.string (S (enc t))) ∧ (enc t).length ≤ 64) ∧ ∀ k, (k < i ∨ i + a.length ≤ k) → w'.cell? ⟨tb, k, none⟩ = w.cell? ⟨tb, k, none⟩
theorem PEnd.form {B : Nat} {w : World} {cb tb i : Nat} {nv : Value} {l : List Tr.Nd} {r : Rs (List Ty)} {e : Ending} {w' : World} (h : PEnd B w cb tb nv l i r e w') : ∃ c p : Int, e = .returned (.agg #[.int .i64 c, .int .i64 p]) := by
  cases r with
  | ok a => obtain ⟨_, ⟨p, rfl⟩, _⟩ := h; exact ⟨0, p, rfl⟩
  | error q => obtain ⟨_, hq, rfl⟩ := h; exact ⟨_, _, rfl⟩
theorem PEnd.shift {B : Nat} {w0 w w' w2 : World} {cb tb i G : Nat} {nv : Value} {l : List Tr.Nd} {r : Rs (List Ty)} {e : Ending} (h : PEnd B w cb tb nv l i r e w') (hB : Below w0.heap.size w0 w) (hl : cb < B ∧ tb < B ∧ B ≤ w0.heap.size) (h2 : Two G G w' w2) (hG : w0.heap.size ≤ G) : PEnd B w0 cb tb nv l i r e w2 := by
  obtain ⟨hT, hm⟩ := h
  have hT2 : Two cb tb w0 w2 := ⟨h2.os.trans (hT.os.trans hB.os), h2.tape.trans (hT.tape.trans hB.tape), h2.output.trans (hT.output.trans hB.output), Nat.le_trans hB.size (Nat.le_trans hT.size h2.size), fun k hk ha hb => by
    have h1 := h2.block k (Nat.lt_of_lt_of_le hk (Nat.le_trans hB.size hT.size)) (by omega) (by omega)
    exact h1.trans ((hT.block k (Nat.lt_of_lt_of_le hk hB.size) ha hb).trans (hB.block k hk))⟩
  refine ⟨hT2, ?_⟩
  cases r with
  | error q => exact hm
  | ok a =>
    obtain ⟨h3, h4, h5, h6⟩ := hm
    have htb : ∀ o, w2.cell? ⟨tb, o, none⟩ = w'.cell? ⟨tb, o, none⟩ := fun o => World.cell?_of_block (h2.block _ (by have := h4.lt; show tb < _; omega) (by show tb ≠ G; omega) (by show tb ≠ G; omega))
    exact ⟨h3, h4.keep h2 (by omega) (by omega), fun k t ht => ⟨(htb _).trans (h5 k t ht).1, (h5 k t ht).2⟩, fun k hk => (htb _).trans ((h6 k hk).trans (hB.cell (p := ⟨tb, k, none⟩) (by show tb < _; omega)))⟩
theorem two_set2 (W : World) (G : Nat) (p q : Value) : Two G G W ((W.setCell ⟨G, 0, none⟩ p).setCell ⟨G, 1, none⟩ q) := ((Two.refl G G W).setA 0 p).setA 1 q

set_option maxHeartbeats 2000000 in
theorem kid1_any (B : Nat) (w : World) (cb tb i N C A I j : Nat) (nv sv iv pv : Value) (l : List Tr.Nd) (κ : Int) (r : Rs (List Ty))
    (h1 : w.cell? ⟨N, 0, none⟩ = some (.int .i8 κ)) (h2 : w.cell? ⟨C, 0, none⟩ = some (.pointer (some ⟨cb, 0, none⟩))) (h3 : w.cell? ⟨A, 0, none⟩ = some sv) (h4 : w.cell? ⟨I, 0, none⟩ = some iv)
    (hl : cb < B ∧ tb < B ∧ B ≤ w.heap.size) (hpv : (κ = 8 ∧ j = 0 ∧ pv = sv) ∨ (¬ (κ = 8 ∧ j = 0) ∧ pv = iv))
    (hP : ∀ w', Below w.heap.size w w' → Calls Tryz.prog 51 #[.pointer (some ⟨cb, 0, none⟩), pv] w' (PEnd B w' cb tb nv l i r)) :
    Calls Tryz.prog 142 #[.int .i64 (j : Int), .pointer (some ⟨N, 0, none⟩), .pointer (some ⟨C, 0, none⟩), .pointer (some ⟨A, 0, none⟩), .pointer (some ⟨I, 0, none⟩)] w (PEnd B w cb tb nv l i r) := by
  have hA : ∀ o, Below w.heap.size w (w.alloc o) := fun o => (Below.refl _ _).alloc (Nat.le_refl _) o
  have hN := World.block_lt_of_cell? _ _ h1
  have hC := World.block_lt_of_cell? _ _ h2
  have hAA := World.block_lt_of_cell? _ _ h3
  have hI := World.block_lt_of_cell? _ _ h4
  have e1 : ∀ o, (w.alloc o).cell? ⟨N, 0, none⟩ = some (.int .i8 κ) := fun o => ((hA o).cell hN).trans h1
  have e2 : ∀ o, (w.alloc o).cell? ⟨C, 0, none⟩ = some (.pointer (some ⟨cb, 0, none⟩)) := fun o => ((hA o).cell hC).trans h2
  have e3 : ∀ o, (w.alloc o).cell? ⟨A, 0, none⟩ = some sv := fun o => ((hA o).cell hAA).trans h3
  have e4 : ∀ o, (w.alloc o).cell? ⟨I, 0, none⟩ = some iv := fun o => ((hA o).cell hI).trans h4
  obtain ⟨w0, hw0⟩ : ∃ w0, w0 = w.alloc (.cells #[.int .i64 0, .int .i64 0] 98) := ⟨_, rfl⟩
  have hB0 : Below w.heap.size w w0 := by rw [hw0]; exact hA _
  have b1 : w0.heap[w.heap.size]? = some (.cells #[.int .i64 0, .int .i64 0] 98) := by rw [hw0]; exact heap_alloc_new _ _
  have hz : w0.heap.size = w.heap.size + 1 := by rw [hw0]; simp
  have HP := hP w0 hB0
  rw [hw0] at HP
  have HF : Aside (∀ e w1, PEnd B (w.alloc (.cells #[.int .i64 0, .int .i64 0] 98)) cb tb nv l i r e w1 → (w1.cell? ⟨w.heap.size, 0, none⟩ = some (.int .i64 0) ∧ w1.cell? ⟨w.heap.size, 1, none⟩ = some (.int .i64 0)) ∧ (∀ q, w1.frozen? ⟨w.heap.size, q, none⟩ = false) ∧ ∀ p q, PEnd B w cb tb nv l i r e ((w1.setCell ⟨w.heap.size, 0, none⟩ p).setCell ⟨w.heap.size, 1, none⟩ q)) := fun e w1 h => by
    rw [← hw0] at h
    have k1 : w1.heap[w.heap.size]? = some (.cells #[.int .i64 0, .int .i64 0] 98) := (h.1.block _ (by omega) (by omega) (by omega)).trans b1
    exact ⟨⟨(block_cells k1).1 0, (block_cells k1).1 1⟩, (block_cells k1).2, fun p q => h.shift hB0 hl (two_set2 w1 w.heap.size p q) (Nat.le_refl _)⟩
  obtain ⟨Q, hQ⟩ : ∃ Q, Q = PEnd B w cb tb nv l i r := ⟨_, rfl⟩
  rw [← hQ] at HF ⊢
  obtain ⟨Q0, hQ0⟩ : ∃ Q0, Q0 = PEnd B (w.alloc (.cells #[.int .i64 0, .int .i64 0] 98)) cb tb nv l i r := ⟨_, rfl⟩
  have HQ : Aside (∀ e w1, Q0 e w1 → ∃ c p : Int, e = .returned (.agg #[.int .i64 c, .int .i64 p])) := fun e w1 h => by rw [hQ0] at h; exact h.form
  rw [← hQ0] at HF HP
  clear hQ hQ0 hw0 hB0 b1 hz hP h1 h2 h3 h4 hA
  rcases hpv with ⟨rfl, rfl, rfl⟩ | ⟨hn, rfl⟩
  · go_enter Tryz.func142, Tryz.ntmps142
    go_wp2_with fail
    refine HP.mono ?_
    intro e w1 hq
    obtain ⟨c, p, rfl⟩ := HQ.out e w1 hq
    obtain ⟨⟨m0, m1⟩, mz, hf⟩ := HF.out _ w1 hq
    have HF2 : Aside _ := hf
    clear HP HF HQ hf hq e1 e2 e3 e4
    go_wp2_with fail
    try simp only [Exit.inBlock, Exit.then]
    refine bodyPost_ret (v := .agg #[.int .i64 c, .int .i64 p]) (by simp [results, Tryz.results142, go_sem, m0, m1]) rfl ?_
    exact HF2.out _ _
  · have hn' : κ = 8 → ¬ (j : Int) = 0 := fun h h0 => hn ⟨h, by omega⟩
    by_cases h8 : κ = 8
    · have hj := hn' h8
      subst h8
      go_enter Tryz.func142, Tryz.ntmps142
      go_wp2_with fail
      refine HP.mono ?_
      intro e w1 hq
      obtain ⟨c, p, rfl⟩ := HQ.out e w1 hq
      obtain ⟨⟨m0, m1⟩, mz, hf⟩ := HF.out _ w1 hq
      have HF2 : Aside _ := hf
      clear HP HF HQ hf hq e1 e2 e3 e4
      go_wp2_with fail
      try simp only [Exit.inBlock, Exit.then]
      refine bodyPost_ret (v := .agg #[.int .i64 c, .int .i64 p]) (by simp [results, Tryz.results142, go_sem, m0, m1]) rfl ?_
      exact HF2.out _ _
    · clear hn'
      go_enter Tryz.func142, Tryz.ntmps142
      go_wp2_with fail
      refine HP.mono ?_
      intro e w1 hq
      obtain ⟨c, p, rfl⟩ := HQ.out e w1 hq
      obtain ⟨⟨m0, m1⟩, mz, hf⟩ := HF.out _ w1 hq
      have HF2 : Aside _ := hf
      clear HP HF HQ hf hq e1 e2 e3 e4
      go_wp2_with fail
      try simp only [Exit.inBlock, Exit.then]
      refine bodyPost_ret (v := .agg #[.int .i64 c, .int .i64 p]) (by simp [results, Tryz.results142, go_sem, m0, m1]) rfl ?_
      exact HF2.out _ _
end Go.Proofs.YthdlfeejeboboaaGreatDoor
namespace Go.Proofs.YthdlfeejeboboaaGreatDoor
open Go.RowKit Ck
open T3.Tp (Ty enc cns met)
set_option maxRecDepth 100000
set_option linter.unusedSimpArgs false

structure Kb (w w' : World) (cb : Nat) (sv iv : Value) (x : Tr.Nd) : Prop where
  size : w.heap.size + 4 ≤ w'.heap.size
  c : w'.heap[w.heap.size]? = some (.cells #[.pointer (some ⟨cb, 0, none⟩)] 165)
  a : w'.heap[w.heap.size + 1]? = some (.cells #[sv] 90)
  n : w'.heap[w.heap.size + 2]? = some (.cells (ndc x) 72)
  i : w'.heap[w.heap.size + 3]? = some (.cells #[iv] 90)
theorem Kb.made (w : World) (cb : Nat) (sv : Value) (x : Tr.Nd) : Kb w ((((w.alloc (.cells #[.pointer (some ⟨cb, 0, none⟩)] 165)).alloc (.cells #[sv] 90)).alloc (.cells (ndc x) 72)).alloc (.cells #[sv] 90)) cb sv sv x := by
  refine ⟨by simp, ?_, ?_, ?_, ?_⟩
  · exact (Below.heap_alloc _ _ _ (by simp; omega)).trans ((Below.heap_alloc _ _ _ (by simp; omega)).trans ((Below.heap_alloc _ _ _ (by simp)).trans (heap_alloc_new _ _)))
  · refine (Below.heap_alloc _ _ _ (by simp)).trans ((Below.heap_alloc _ _ _ (by simp)).trans ?_)
    have := heap_alloc_new (w.alloc (.cells #[.pointer (some ⟨cb, 0, none⟩)] 165)) (.cells #[sv] 90)
    simpa using this
  · refine (Below.heap_alloc _ _ _ (by simp)).trans ?_
    have := heap_alloc_new ((w.alloc (.cells #[.pointer (some ⟨cb, 0, none⟩)] 165)).alloc (.cells #[sv] 90)) (.cells (ndc x) 72)
    simpa using this
  · have := heap_alloc_new (((w.alloc (.cells #[.pointer (some ⟨cb, 0, none⟩)] 165)).alloc (.cells #[sv] 90)).alloc (.cells (ndc x) 72)) (.cells #[sv] 90)
    simpa using this

theorem Kb.same {w w1 w2 : World} {cb : Nat} {sv iv : Value} {x : Tr.Nd} (h : Kb w w1 cb sv iv x) (e : w2.heap = w1.heap) : Kb w w2 cb sv iv x := ⟨by rw [e]; exact h.size, by rw [e]; exact h.c, by rw [e]; exact h.a, by rw [e]; exact h.n, by rw [e]; exact h.i⟩
theorem Kb.later {w w1 w2 : World} {cb : Nat} {sv iv : Value} {x : Tr.Nd} (h : Kb w w1 cb sv iv x) (hB : Below w1.heap.size w1 w2) : Kb w w2 cb sv iv x := by
  have hz := h.size
  exact ⟨Nat.le_trans hz hB.size, (hB.block _ (by omega)).trans h.c, (hB.block _ (by omega)).trans h.a, (hB.block _ (by omega)).trans h.n, (hB.block _ (by omega)).trans h.i⟩
theorem Kb.cells {w w1 : World} {cb : Nat} {sv iv : Value} {x : Tr.Nd} (h : Kb w w1 cb sv iv x) : w1.cell? ⟨w.heap.size, 0, none⟩ = some (.pointer (some ⟨cb, 0, none⟩)) ∧ w1.cell? ⟨w.heap.size + 1, 0, none⟩ = some sv ∧ w1.cell? ⟨w.heap.size + 2, 0, none⟩ = some (.int .i8 x.kind) ∧ w1.cell? ⟨w.heap.size + 2, 3, none⟩ = some (.string x.s) ∧ w1.cell? ⟨w.heap.size + 2, 4, none⟩ = some (.string x.t) ∧ w1.cell? ⟨w.heap.size + 2, 5, none⟩ = some (.string x.u) ∧ w1.cell? ⟨w.heap.size + 3, 0, none⟩ = some iv ∧ ∀ q, w1.frozen? ⟨w.heap.size + 3, q, none⟩ = false :=
  ⟨(block_cells h.c).1 0, (block_cells h.a).1 0, (block_cells h.n).1 0, (block_cells h.n).1 3, (block_cells h.n).1 4, (block_cells h.n).1 5, (block_cells h.i).1 0, (block_cells h.i).2⟩
theorem Kb.set {w w1 : World} {cb : Nat} {sv iv : Value} {x : Tr.Nd} (h : Kb w w1 cb sv iv x) (jv : Value) : Kb w (w1.setCell ⟨w.heap.size + 3, 0, none⟩ jv) cb sv jv x := by
  have hz := h.size
  have hne : ∀ k, k ≠ w.heap.size + 3 → (w1.setCell ⟨w.heap.size + 3, 0, none⟩ jv).heap[k]? = w1.heap[k]? := fun k hk => Below.heap_setCell _ _ _ _ hk
  refine ⟨by simpa [World.setCell] using hz, (hne _ (by omega)).trans h.c, (hne _ (by omega)).trans h.a, (hne _ (by omega)).trans h.n, ?_⟩
  have hi := h.i
  simp [World.setCell, Array.getElem?_modify, hi]

set_option maxHeartbeats 8000000 in
theorem kidOf_plain (B : Nat) (w : World) (cb tb i i' : Nat) (nv sv : Value) (l : List Tr.Nd) (x : Tr.Nd) (hx : l[i]? = some x) (hSt : St B w cb tb nv l i') (env : Env) (hS : Scope cb tb w sv env) (hk : x.kind ≠ 5 ∧ x.kind ≠ 6 ∧ x.kind ≠ 8) :
    Calls Tryz.prog 81 #[.pointer (some ⟨cb, 0, none⟩), .int .i64 (i : Int), sv] w fun e w' => e = .returned (.tuple #[.func (.func 142) #[] #[.pointer (some ⟨w.heap.size + 2, 0, none⟩), .pointer (some ⟨w.heap.size, 0, none⟩), .pointer (some ⟨w.heap.size + 1, 0, none⟩), .pointer (some ⟨w.heap.size + 3, 0, none⟩)], .int .i64 0]) ∧ Kb w w' cb sv sv x ∧ Below w.heap.size w w' := by
  obtain ⟨nb, no, nc, rfl, hnb, hnd⟩ := hSt.nod.at hx
  have hil : i < l.length := (List.getElem?_eq_some_iff.1 hx).1
  have hil' : (i : Int) < (l.length : Int) := by omega
  have n0 : w.cell? ⟨cb, 0, none⟩ = some (.slice (some ⟨nb, no, none⟩) l.length nc) := hSt.nod.1
  have hcb : cb < w.heap.size := World.block_lt_of_cell? _ _ n0
  have htb : tb < w.heap.size := by have := hSt.lt; omega
  obtain ⟨F, caps, hsvv⟩ : ∃ F caps, sv = .func (.func F) #[] caps := by obtain ⟨F, caps, h, _⟩ := hS; exact ⟨F, caps, h⟩
  subst hsvv
  have hA : ∀ o1 o2, Below w.heap.size w ((w.alloc o1).alloc o2) := fun o1 o2 => ((Below.refl _ _).alloc (Nat.le_refl _) o1).alloc (by simp) o2
  have e0 : ∀ o1 o2, ((w.alloc o1).alloc o2).cell? ⟨cb, 0, none⟩ = some (.slice (some ⟨nb, no, none⟩) l.length nc) := fun o1 o2 => ((hA o1 o2).cell hcb).trans n0
  have q0 : ∀ o1 o2, ((w.alloc o1).alloc o2).cell? ⟨nb, no + i * 8, none⟩ = some (.int .i8 x.kind) := fun o1 o2 => ((hA o1 o2).cell hnb).trans (hnd 0 _ rfl)
  have q1 : ∀ o1 o2, ((w.alloc o1).alloc o2).cell? ⟨nb, no + i * 8 + 1, none⟩ = some (.int .i64 x.kids) := fun o1 o2 => ((hA o1 o2).cell hnb).trans (hnd 1 _ rfl)
  have q2 : ∀ o1 o2, ((w.alloc o1).alloc o2).cell? ⟨nb, no + i * 8 + 2, none⟩ = some (.int .i64 x.n) := fun o1 o2 => ((hA o1 o2).cell hnb).trans (hnd 2 _ rfl)
  have q3 : ∀ o1 o2, ((w.alloc o1).alloc o2).cell? ⟨nb, no + i * 8 + 3, none⟩ = some (.string x.s) := fun o1 o2 => ((hA o1 o2).cell hnb).trans (hnd 3 _ rfl)
  have q4 : ∀ o1 o2, ((w.alloc o1).alloc o2).cell? ⟨nb, no + i * 8 + 4, none⟩ = some (.string x.t) := fun o1 o2 => ((hA o1 o2).cell hnb).trans (hnd 4 _ rfl)
  have q5 : ∀ o1 o2, ((w.alloc o1).alloc o2).cell? ⟨nb, no + i * 8 + 5, none⟩ = some (.string x.u) := fun o1 o2 => ((hA o1 o2).cell hnb).trans (hnd 5 _ rfl)
  have q6 : ∀ o1 o2, ((w.alloc o1).alloc o2).cell? ⟨nb, no + i * 8 + 6, none⟩ = some (.int .i64 x.ln) := fun o1 o2 => ((hA o1 o2).cell hnb).trans (hnd 6 _ rfl)
  have q7 : ∀ o1 o2, ((w.alloc o1).alloc o2).cell? ⟨nb, no + i * 8 + 7, none⟩ = some (.int .i64 x.co) := fun o1 o2 => ((hA o1 o2).cell hnb).trans (hnd 7 _ rfl)
  obtain ⟨k5, k6, k8⟩ := hk
  have hsf := fun a (w : World) => T3.store_func a (.func F) #[] caps w
  have hK0 := Kb.made w cb (.func (.func F) #[] caps) x
  have hB4 : Below w.heap.size w ((((w.alloc (.cells #[.pointer (some ⟨cb, 0, none⟩)] 165)).alloc (.cells #[.func (.func F) #[] caps] 90)).alloc (.cells (ndc x) 72)).alloc (.cells #[.func (.func F) #[] caps] 90)) := (((((Below.refl _ _).alloc (Nat.le_refl _) _).alloc (by simp) _).alloc (by simp; omega) _).alloc (by simp; omega) _)
  have HK0 : Aside _ := hK0
  have HB4 : Aside _ := hB4
  clear hSt hnd n0 hA hK0 hB4
  go_enter Tryz.func81, Tryz.ntmps81
  go_upto_region 2 with fail
  go_cut [9, 10] (fun s9 s10 wc => s9 = .pointer (some ⟨w.heap.size + 3, 0, none⟩) ∧ s10 = .string x.s ∧ Kb w wc cb (.func (.func F) #[] caps) (.func (.func F) #[] caps) x ∧ Below w.heap.size w wc)
  case first =>
    go_region
    all_goals
      go_wp2_with fail
      go_meet
      case rel =>
        have hh := HK0.out
        have hb := HB4.out
        unfold ndc at hh hb
        exact ⟨rfl, rfl, hh.same rfl, ⟨hb.os, hb.tape, hb.output, hb.size, hb.block⟩⟩
  case rest =>
    obtain ⟨rfl, rfl, hKb, hBc⟩ := hcut
    obtain ⟨c0, c1, c2, c3, c4, c5, c6, cz⟩ := hKb.cells
    clear e0 q0 q1 q2 q3 q4 q5 q6 q7 HK0 HB4
    go_wp2_with fail
    go_ret2
    exact ⟨rfl, hKb, hBc⟩
end Go.Proofs.YthdlfeejeboboaaGreatDoor
namespace Go.Proofs.YthdlfeejeboboaaGreatDoor
open Go.RowKit Ck
open T3.Tp (Ty enc cns met)
set_option maxRecDepth 100000
set_option linter.unusedSimpArgs false

def Far (a b : Nat) (w0 w w' : World) (v : Value) (env : Env) : Prop := (w.heap.size + 3 ≤ w'.heap.size ∧ ∃ F caps, v = .func (.func F) #[] caps) ∧
  ∀ w2, Two a b w0 w2 → (∀ k, w.heap.size ≤ k → k < w.heap.size + 3 → w2.heap[k]? = w'.heap[k]?) → w.heap.size + 3 ≤ w2.heap.size → Scope a b w2 v env

set_option maxHeartbeats 1000000 in
theorem with_far (a b : Nat) (w0 w : World) (v : Value) (env : Env) (n : ByteArray) (t : Ty) (hS : Scope a b w0 v env) (ha : a < w.heap.size) (hb : b < w.heap.size) :
    Calls Tryz.prog 141 #[v, .string n, .string (S (enc t))] w fun e w' => ∃ v', e = .returned v' ∧ Far a b w0 w w' v' ((n.data.toList, t) :: env) ∧ Below w.heap.size w w' := by
  obtain ⟨F, caps, rfl, hE, hC⟩ := hS
  have hB : Below w.heap.size w (((w.alloc (.cells #[.func (.func F) #[] caps] 90)).alloc (.cells #[.string n] 9)).alloc (.cells #[.string (S (enc t))] 9)) := (((Below.refl _ _).alloc (Nat.le_refl _) _).alloc (by simp) _).alloc (by simp; omega) _
  have k0 : (((w.alloc (.cells #[.func (.func F) #[] caps] 90)).alloc (.cells #[.string n] 9)).alloc (.cells #[.string (S (enc t))] 9)).cell? ⟨w.heap.size, 0, none⟩ = some (.func (.func F) #[] caps) := T3.cell_old rfl (by simp; omega) (T3.cell_old rfl (by simp) (T3.cell_new rfl rfl))
  have k1 : (((w.alloc (.cells #[.func (.func F) #[] caps] 90)).alloc (.cells #[.string n] 9)).alloc (.cells #[.string (S (enc t))] 9)).cell? ⟨w.heap.size + 1, 0, none⟩ = some (.string n) := T3.cell_old rfl (by simp) (T3.cell_new rfl (by simp))
  have k2 : (((w.alloc (.cells #[.func (.func F) #[] caps] 90)).alloc (.cells #[.string n] 9)).alloc (.cells #[.string (S (enc t))] 9)).cell? ⟨w.heap.size + 2, 0, none⟩ = some (.string (S (enc t))) := T3.cell_new rfl (by simp)
  have hz : (((w.alloc (.cells #[.func (.func F) #[] caps] 90)).alloc (.cells #[.string n] 9)).alloc (.cells #[.string (S (enc t))] 9)).heap.size = w.heap.size + 3 := by simp
  have HS : Aside (∀ W, W = (((w.alloc (.cells #[.func (.func F) #[] caps] 90)).alloc (.cells #[.string n] 9)).alloc (.cells #[.string (S (enc t))] 9)) → Below w.heap.size w W ∧ Far a b w0 w W (.func (.func 172) #[] #[.pointer (some ⟨w.heap.size + 1, 0, none⟩), .pointer (some ⟨w.heap.size + 2, 0, none⟩), .pointer (some ⟨w.heap.size, 0, none⟩)]) ((n.data.toList, t) :: env)) := by
    intro W hW
    rw [← hW] at hB k0 k1 k2 hz
    refine ⟨hB, ⟨by omega, _, _, rfl⟩, fun w2 h2 hk hz2 => ⟨_, _, rfl, enters_with1, fun w' hw m hm => ?_⟩⟩
    have hc : ∀ k, w.heap.size ≤ k → k < w.heap.size + 3 → w'.cell? ⟨k, 0, none⟩ = W.cell? ⟨k, 0, none⟩ := fun k hk1 hk2 =>
      (hw.cell (p := ⟨k, 0, none⟩) (by show k < _; omega) (by show k ≠ a; omega) (by show k ≠ b; omega)).trans (World.cell?_of_block (hk k hk1 hk2))
    exact with1_any w' _ _ _ F caps n m t env hE ((hc _ (by omega) (by omega)).trans k1) ((hc _ (by omega) (by omega)).trans k2) ((hc _ (by omega) (by omega)).trans k0) (hC w' (h2.trans hw) m hm)
  clear hB k0 k1 k2 hz hC hE
  generalize S (enc t) = st at *
  go_enter Tryz.func141, Tryz.ntmps141
  go_wp2_with fail
  go_ret
  have := HS.out _ rfl
  exact ⟨_, rfl, this.2, this.1⟩
end Go.Proofs.YthdlfeejeboboaaGreatDoor
namespace Go.Proofs.YthdlfeejeboboaaGreatDoor
open Go.RowKit Ck
open T3.Tp (Ty enc cns met)
set_option maxRecDepth 100000
set_option linter.unusedSimpArgs false

set_option maxHeartbeats 8000000 in
theorem kidOf_let (B : Nat) (w : World) (cb tb i i' : Nat) (nv sv : Value) (l : List Tr.Nd) (x : Tr.Nd) (hx : l[i]? = some x) (hSt : St B w cb tb nv l i') (env : Env) (hS : Scope cb tb w sv env) (hk : x.kind = 8) (hU : (if x.t.size = 0 then (⟨#[63]⟩ : ByteArray) else x.t) = S (enc (wr x.t))) :
    Calls Tryz.prog 81 #[.pointer (some ⟨cb, 0, none⟩), .int .i64 (i : Int), sv] w fun e w' => ∃ iv, e = .returned (.tuple #[.func (.func 142) #[] #[.pointer (some ⟨w.heap.size + 2, 0, none⟩), .pointer (some ⟨w.heap.size, 0, none⟩), .pointer (some ⟨w.heap.size + 1, 0, none⟩), .pointer (some ⟨w.heap.size + 3, 0, none⟩)], .int .i64 0]) ∧ Kb w w' cb sv iv x ∧ Scope cb tb w' iv ((Tr.nm x, wr x.t) :: env) ∧ Below w.heap.size w w' := by
  obtain ⟨nb, no, nc, rfl, hnb, hnd⟩ := hSt.nod.at hx
  have hil : i < l.length := (List.getElem?_eq_some_iff.1 hx).1
  have hil' : (i : Int) < (l.length : Int) := by omega
  have n0 : w.cell? ⟨cb, 0, none⟩ = some (.slice (some ⟨nb, no, none⟩) l.length nc) := hSt.nod.1
  have hcb : cb < w.heap.size := World.block_lt_of_cell? _ _ n0
  have htb : tb < w.heap.size := by have := hSt.lt; omega
  obtain ⟨F, caps, hsvv⟩ : ∃ F caps, sv = .func (.func F) #[] caps := by obtain ⟨F, caps, h, _⟩ := hS; exact ⟨F, caps, h⟩
  subst hsvv
  have hA : ∀ o1 o2, Below w.heap.size w ((w.alloc o1).alloc o2) := fun o1 o2 => ((Below.refl _ _).alloc (Nat.le_refl _) o1).alloc (by simp) o2
  have e0 : ∀ o1 o2, ((w.alloc o1).alloc o2).cell? ⟨cb, 0, none⟩ = some (.slice (some ⟨nb, no, none⟩) l.length nc) := fun o1 o2 => ((hA o1 o2).cell hcb).trans n0
  have q0 : ∀ o1 o2, ((w.alloc o1).alloc o2).cell? ⟨nb, no + i * 8, none⟩ = some (.int .i8 x.kind) := fun o1 o2 => ((hA o1 o2).cell hnb).trans (hnd 0 _ rfl)
  have q1 : ∀ o1 o2, ((w.alloc o1).alloc o2).cell? ⟨nb, no + i * 8 + 1, none⟩ = some (.int .i64 x.kids) := fun o1 o2 => ((hA o1 o2).cell hnb).trans (hnd 1 _ rfl)
  have q2 : ∀ o1 o2, ((w.alloc o1).alloc o2).cell? ⟨nb, no + i * 8 + 2, none⟩ = some (.int .i64 x.n) := fun o1 o2 => ((hA o1 o2).cell hnb).trans (hnd 2 _ rfl)
  have q3 : ∀ o1 o2, ((w.alloc o1).alloc o2).cell? ⟨nb, no + i * 8 + 3, none⟩ = some (.string x.s) := fun o1 o2 => ((hA o1 o2).cell hnb).trans (hnd 3 _ rfl)
  have q4 : ∀ o1 o2, ((w.alloc o1).alloc o2).cell? ⟨nb, no + i * 8 + 4, none⟩ = some (.string x.t) := fun o1 o2 => ((hA o1 o2).cell hnb).trans (hnd 4 _ rfl)
  have q5 : ∀ o1 o2, ((w.alloc o1).alloc o2).cell? ⟨nb, no + i * 8 + 5, none⟩ = some (.string x.u) := fun o1 o2 => ((hA o1 o2).cell hnb).trans (hnd 5 _ rfl)
  have q6 : ∀ o1 o2, ((w.alloc o1).alloc o2).cell? ⟨nb, no + i * 8 + 6, none⟩ = some (.int .i64 x.ln) := fun o1 o2 => ((hA o1 o2).cell hnb).trans (hnd 6 _ rfl)
  have q7 : ∀ o1 o2, ((w.alloc o1).alloc o2).cell? ⟨nb, no + i * 8 + 7, none⟩ = some (.int .i64 x.co) := fun o1 o2 => ((hA o1 o2).cell hnb).trans (hnd 7 _ rfl)
  have hsf := fun a (w : World) => T3.store_func a (.func F) #[] caps w
  have hK0 := Kb.made w cb (.func (.func F) #[] caps) x
  have hB4 : Below w.heap.size w ((((w.alloc (.cells #[.pointer (some ⟨cb, 0, none⟩)] 165)).alloc (.cells #[.func (.func F) #[] caps] 90)).alloc (.cells (ndc x) 72)).alloc (.cells #[.func (.func F) #[] caps] 90)) := (((((Below.refl _ _).alloc (Nat.le_refl _) _).alloc (by simp) _).alloc (by simp; omega) _).alloc (by simp; omega) _)
  have HK0 : Aside _ := hK0
  have HB4 : Aside _ := hB4
  clear hSt hnd n0 hA hK0 hB4
  go_enter Tryz.func81, Tryz.ntmps81
  go_upto_region 2 with fail
  go_cut [9, 10] (fun s9 s10 wc => s9 = .pointer (some ⟨w.heap.size + 3, 0, none⟩) ∧ s10 = .string x.s ∧ Kb w wc cb (.func (.func F) #[] caps) (.func (.func F) #[] caps) x ∧ Below w.heap.size w wc)
  case first =>
    go_region
    all_goals
      go_wp2_with fail
      go_meet
      case rel =>
        have hh := HK0.out
        have hb := HB4.out
        unfold ndc at hh hb
        rw [hk] at hh hb
        exact ⟨rfl, rfl, hh.same rfl, ⟨hb.os, hb.tape, hb.output, hb.size, hb.block⟩⟩
  case rest =>
    obtain ⟨rfl, rfl, hKb, hBc⟩ := hcut
    obtain ⟨c0, c1, c2, c3, c4, c5, c6, cz⟩ := hKb.cells
    clear e0 q0 q1 q2 q3 q4 q5 q6 q7 HK0 HB4
    have HW := written_any x.t
    rw [hU] at HW
    have HWI := with_far cb tb w wc.drew (.func (.func F) #[] caps) env x.s (wr x.t) hS (Nat.lt_of_lt_of_le hcb hBc.size) (Nat.lt_of_lt_of_le htb hBc.size)
    have hz := hKb.size
    have HE : Aside (∀ w1 v, Below wc.drew.heap.size wc.drew w1 → Far cb tb w wc.drew w1 v ((x.s.data.toList, wr x.t) :: env) → (w1.cell? ⟨w.heap.size + 2, 4, none⟩ = some (.string x.t) ∧ w1.cell? ⟨w.heap.size + 3, 0, none⟩ = some (.func (.func F) #[] caps) ∧ (∀ q, w1.frozen? ⟨w.heap.size + 3, q, none⟩ = false)) ∧ Kb w (w1.setCell ⟨w.heap.size + 3, 0, none⟩ v) cb (.func (.func F) #[] caps) v x ∧ Scope cb tb (w1.setCell ⟨w.heap.size + 3, 0, none⟩ v) v ((Tr.nm x, wr x.t) :: env) ∧ Below w.heap.size w (w1.setCell ⟨w.heap.size + 3, 0, none⟩ v)) := fun w1 v h hsc => by
      have h' : Below wc.heap.size wc w1 := ⟨h.os, h.tape, h.output, h.size, h.block⟩
      have hk1 := hKb.later h'
      obtain ⟨-, -, -, -, a4, -, a6, az⟩ := hk1.cells
      have hb1 := hBc.trans (h'.mono hBc.size)
      refine ⟨⟨a4, a6, az⟩, hk1.set v, ?_, hb1.setCell (by show w.heap.size ≤ w.heap.size + 3; omega) _⟩
      have hT : Two cb tb w (w1.setCell ⟨w.heap.size + 3, 0, none⟩ v) := below_two (hb1.setCell (by show w.heap.size ≤ w.heap.size + 3; omega) v) cb tb
      exact hsc.2 _ hT (fun k h1 _ => Below.heap_setCell _ _ _ _ (by have e : wc.drew.heap.size = wc.heap.size := rfl; show k ≠ w.heap.size + 3; omega)) (by simpa [World.setCell] using hsc.1.1)
    clear hU
    generalize S (enc (wr x.t)) = su at *
    go_upto_region 15 with fail
    go_region_with (first | (go_at_call 140; refine (HW _).mono ?_; rintro e w9 ⟨rfl, hw9⟩; replace hw9 := hw9.symm; subst hw9) | (go_at_call 141; refine HWI.mono ?_; rintro e w1 ⟨v, rfl, hSc, hB1⟩; obtain ⟨⟨d4, d6, dz⟩, hKe, hSe, hBe⟩ := HE.out w1 v hB1 hSc; obtain ⟨F2, caps2, rfl⟩ := hSc.1.2; have hsf2 := fun a (w : World) => T3.store_func a (.func F2) #[] caps2 w))
    all_goals
      go_wp2_with fail
      go_ret2
      exact ⟨_, rfl, hKe, hSe, hBe⟩
end Go.Proofs.YthdlfeejeboboaaGreatDoor
