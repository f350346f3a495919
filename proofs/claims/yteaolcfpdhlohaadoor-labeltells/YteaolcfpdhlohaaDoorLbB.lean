/- What the statements' own helper CopySites answers. -/
import Derived.Test.YteaolcfpdhlohaaDoorLbA
namespace Go.Proofs.YteaolcfpdhlohaaDoor
open Go.RowKit
set_option maxRecDepth 100000
set_option linter.unusedSimpArgs false

theorem wpList_append_zero {P : Program} {w : World} {ops : Array Oper} {rest : List Oper} {o : Oper} {a : Act} {Q : Exit → Act → World → Prop} (hgd : o.guard = none) (s x : Operand) (t : TypeId)
    (ho : o.op = .call { callee := .builtin .append, args := #[s, x], argTypes := #[t, t] })
    (e : TypeId) (i : TypeInfo) (ht : P.underlying t = some (.slice e)) (hi : P.info? e = some i) (b : Option Addr) (c : Nat)
    (hs : a.eval s = .slice none 0 0) (hx : a.eval x = .slice b 0 c)
    (h : wpList P ops Q rest (a.put o.dst (.slice none 0 0)) w) : wpList P ops Q (o :: rest) a w := by
  refine wpList_plain hgd fun K hK => ?_
  have hrun : (Builtin.append_ #[t, t] o.type #[.slice none 0 0, .slice b 0 c]).run P w = .ok (.slice none 0 0) w := by
    cases b <;> simp [Builtin.append_, run_underlying ht, sizeOf, typeInfo, hi, Builtin.lenOf, Builtin.firstCells, loadCells, loadCellsFrom]
  unfold Oper.wp
  simp [execOp, ho, resolve, invoke, builtin, hs, hx, hrun, Result.andThen]
  exact hK _ _ h

set_option maxHeartbeats 2000000 in
theorem copySites_any (l : List Lb.Si) (hlen : l.length ≤ 2048) (v : Value) (w : World) (hl : IsSites w v l) :
    Calls Tryd.prog 28 #[v] w fun e w' => ∃ a c, e = .returned (.slice a l.length c) ∧ IsSites w' (.slice a l.length c) l ∧ Low (.slice a l.length c) w'.heap.size ∧ Below w.heap.size w w' := by
  obtain ⟨i0, hi, hz0, hz1, hz2⟩ := info_parts infoS
  rcases hl with ⟨rfl, a, c, rfl⟩ | ⟨b, o, c, rfl, hc, hb, hcell⟩
  · go_enter Tryd.func28, Tryd.ntmps28
    go_wp2_with (at_builtin; go_must (refine wpList_append_zero rfl _ _ 22 rfl 31 i0 tySites hi a c rfl rfl ?_))
    go_ret
    exact ⟨none, 0, rfl, .inl ⟨rfl, none, 0, rfl⟩, fun b o n c h => (by cases h), Below.refl _ _⟩
  have hnews : ∀ j u, (srow l)[j]? = some u → w.cell? ((⟨b, o, none⟩ : Addr).add j) = some u := by
    intro j u hj
    obtain ⟨x, h1, h2⟩ := srow_get l j u hj
    have h3 := hcell _ x h1 _ u h2
    rw [show o + j / 5 * 5 + j % 5 = o + j by omega] at h3
    unfold Addr.add
    by_cases h0 : j = 0
    · subst h0; simpa using h3
    · simpa [h0] using h3
  clear hcell
  go_enter Tryd.func28, Tryd.ntmps28
  go_wp2_with (at_builtin; go_must (refine wpList_append_own _ rfl _ _ 22 rfl w.heap.size 31 i0 _ 5 56 tySites hi hz0 hz1 hz2 rfl (by decide) (.slice none 0 0) _ _ rfl (own_nil _ _ _ _) ⟨b, o, none⟩ l.length c (srow l) rfl (srow_len l) hnews (srow_one l) (by unfold maxLen; omega) (by omega) (Nat.le_refl _) ?_); intro v3 w3 hown3 hg3 _)
  simp only [Nat.zero_add, List.nil_append] at hown3
  obtain ⟨a3, c3, rfl⟩ := own_len hown3
  go_ret
  refine ⟨a3, c3, rfl, IsSites.own hown3, fun b o n c h => ?_, ⟨hg3.os, hg3.tape, hg3.output, hg3.size, fun k hk => hg3.block k hk (by simp [Value.ownBlock])⟩⟩
  have hb2 : (Value.slice a3 l.length c3).ownBlock = some b := by rw [h]; rfl
  exact (hown3.lt b hb2).2


end Go.Proofs.YteaolcfpdhlohaaDoor
