/- Package coerce: what the laws' helpers answer of lists of nodes: CopyCos, EqCos, pow. -/
import Derived.Test.YtaaokecdmbmgbaaGreatDoorUau
namespace Go.Proofs.YtaaokecdmbmgbaaGreatDoor
open Go.RowKit Cc
set_option maxRecDepth 100000
set_option linter.unusedSimpArgs false
set_option linter.unusedVariables false
set_option maxHeartbeats 800000 in
theorem copyCos_any (l : List N) (v : Value) (w : World) (h : IsCos w v l) (hl : l.length ≤ 1000000) (hp : 0 < l.length) :
    Calls Tryz.prog 18 #[v] w fun e w' => ∃ v', e = .returned v' ∧ Own w w' v' l ∧ Below w.heap.size w w' := by
  rcases h with ⟨rfl, a, c, rfl⟩ | ⟨b, o, c, rfl, h1, h2, h3⟩
  · simp at hp
  · have HC : Aside (∀ j u, (crow l)[j]? = some u → w.cell? ((⟨b, o, none⟩ : Addr).add j) = some u) := fun j u e => h2.cells' j u e
    clear h2
    obtain ⟨n, hn⟩ : ∃ n, n = l.length := ⟨_, rfl⟩
    rw [← hn] at hp h1 hl ⊢
    have HN : Aside (l.length = n) := hn.symm
    clear hn
    go_enter Tryz.func18, Tryz.ntmps18
    go_wp2_with (at_builtin; go_must (refine wpList_app rfl _ _ rfl w _ (.slice none 0 0) [] rfl (Own.nil _ _) (Below.refl _ _) ⟨b, o, none⟩ n c l rfl HN.out HC.out hp (by simp; omega) ?_); intro v' w' hO' hB' hK' hg' hf')
    go_ret
    exact ⟨v', rfl, hO', hB'⟩
theorem pow_le {k : Nat} (h : k ≤ 30) : 1 ≤ 2 ^ k ∧ 2 ^ k ≤ 1073741824 := by
  refine ⟨Nat.one_le_two_pow, ?_⟩
  have := Nat.pow_le_pow_right (n := 2) (by omega) h
  omega
set_option maxHeartbeats 800000 in
theorem neCo (a0 a1 : Int) (a2 : Bool) (a3 a4 a5 a6 : Int) (b0 b1 : Int) (b2 : Bool) (b3 b4 b5 b6 : Int) (w : World) :
    (binOp .neq 28 (.agg #[.int .i8 a0, .int .i64 a1, .bool a2, .int .u8 a3, .int .i64 a4, .int .u8 a5, .int .u8 a6]) (.agg #[.int .i8 b0, .int .i64 b1, .bool b2, .int .u8 b3, .int .i64 b4, .int .u8 b5, .int .u8 b6])).run Tryz.prog w =
      .ok (.bool (!decide ((⟨a0, a1, a2, a3, a4, a5, a6⟩ : N) = ⟨b0, b1, b2, b3, b4, b5, b6⟩))) w := by
  by_cases h0 : a0 = b0
  · by_cases h1 : a1 = b1
    · by_cases h2 : a2 = b2
      · by_cases h3 : a3 = b3
        · by_cases h4 : a4 = b4
          · by_cases h5 : a5 = b5
            · by_cases h6 : a6 = b6 <;> go_simp
            · go_simp
          · go_simp
        · go_simp
      · go_simp
    · go_simp
  · go_simp
namespace Cc
theorem At.at {w : World} {b : Nat} : ∀ {l : List N} {o k : Nat} {x : N}, At w b o l → l[k]? = some x → At1 w b (o + k * 7) x
  | [], _, _, _, _, h => by simp at h
  | y :: r, o, 0, x, h, e => by simp at e; subst e; simpa using h.1
  | y :: r, o, k + 1, x, h, e => by
    have := At.at h.2 (k := k) (x := x) (by simpa using e)
    rwa [show o + 7 + k * 7 = o + (k + 1) * 7 by omega] at this
theorem IsCos.at {w : World} {v : Value} {l : List N} {k : Nat} {x : N} (h : IsCos w v l) (e : l[k]? = some x) : ∃ b o c, v = .slice (some ⟨b, o, none⟩) l.length c ∧ At1 w b (o + k * 7) x := by
  rcases h with ⟨rfl, _⟩ | ⟨b, o, c, e1, h1, h2, h3⟩
  · simp at e
  · exact ⟨b, o, c, e1, h2.at e⟩
theorem drop_at {l : List N} {k : Nat} {x : N} (h : l[k]? = some x) : l.drop k = x :: l.drop (k + 1) := by
  obtain ⟨hk, rfl⟩ := List.getElem?_eq_some_iff.1 h
  exact List.drop_eq_getElem_cons hk
end Cc
theorem below_dN {b : Nat} {w w' : World} (h : Below b w w') (n : Nat) : Below b w (w'.drewN n) := ⟨h.os, h.tape, h.output, h.size, h.block⟩
set_option maxHeartbeats 1600000 in
theorem eqCos_any (l m : List N) (vl vm : Value) (w : World) (hl : IsCos w vl l) (hm : IsCos w vm m) (h1 : l.length ≤ 1000000) (h2 : m.length ≤ 1000000) :
    Calls Tryz.prog 13 #[vl, vm] w fun e w' => e = .returned (.bool (decide (l = m))) ∧ Below w.heap.size w w' := by
  obtain ⟨al, cl, rfl⟩ := hl.form
  obtain ⟨am, cm, rfl⟩ := hm.form
  by_cases hn : l.length = m.length
  · have hn' : ((l.length : Int) != (m.length : Int)) = false := by simp [hn]
    have HL : Aside (IsCos w (.slice al l.length cl) l) := hl
    have HM : Aside (IsCos w (.slice am m.length cm) m) := hm
    have HN : Aside (l.length = m.length) := hn
    have ne := neCo
    clear hl hm hn
    go_enter Tryz.func13, Tryz.ntmps13
    go_wp2
    clear hn'
    go_loopg [5] l.length (fun gq tq wr => ∃ k : Nat, k + gq = l.length ∧ tq = .int .i64 (k : Int) ∧ Below w.heap.size w wr ∧ Aside (decide (l = m) = decide (l.drop k = m.drop k)))
    case atStart => exact ⟨0, by omega, rfl, Below.refl _ _, by simp [Aside]⟩
    case round =>
      obtain ⟨k, hkg, rfl, hB, HD⟩ := hrel
      by_cases hk : k < l.length
      · have hk' : (k : Int) < (l.length : Int) := by omega
        have hk2 : k < m.length := by rw [← HN.out]; exact hk
        have hk3 : (k : Int) < (m.length : Int) := by omega
        obtain ⟨x, hx⟩ : ∃ x, l[k]? = some x := ⟨_, List.getElem?_eq_getElem hk⟩
        obtain ⟨y, hy⟩ : ∃ y, m[k]? = some y := ⟨_, List.getElem?_eq_getElem hk2⟩
        obtain ⟨b, o, c, e1, hA⟩ := (HL.out.below hB).at hx
        obtain ⟨b', o', c', e2, hA'⟩ := (HM.out.below hB).at hy
        injection e1 with e1 _ e3
        injection e2 with e2 _ e4
        subst e1 e2 e3 e4
        have HS : Aside (decide (l = m) = decide (x = y ∧ l.drop (k + 1) = m.drop (k + 1))) := by
          show _ = _
          rw [HD.out, drop_at hx, drop_at hy]
          simp
        obtain ⟨g0, g1, g2, g3, g4, g5, g6⟩ := hA
        obtain ⟨f0, f1, f2, f3, f4, f5, f6⟩ := hA'
        clear hx hy
        by_cases hxy : x = y
        · subst hxy
          have hd : (!decide ((⟨x.op, x.proj, x.inj, x.head, x.label, x.frm, x.tto⟩ : N) = ⟨x.op, x.proj, x.inj, x.head, x.label, x.frm, x.tto⟩)) = false := by simp
          go_wp2
          go_quiet (fail)
          go_wp2
          go_roundg (l.length - (k + 1))
          case measure => omega
          case rel => exact ⟨k + 1, by omega, by go_num, by first | exact hB | exact below_dN hB _, by rw [HS.out]; simp [Aside]⟩
        · have hd : (!decide ((⟨x.op, x.proj, x.inj, x.head, x.label, x.frm, x.tto⟩ : N) = ⟨y.op, y.proj, y.inj, y.head, y.label, y.frm, y.tto⟩)) = true := by show (!decide (x = y)) = true; simp [hxy]
          go_wp2
          go_quiet (fail)
          go_wp2
          go_ret
          exact ⟨ret_b (by rw [HS.out]; simp [hxy]), by first | exact hB | exact below_dN hB _⟩
      · have hk' : ¬ (k : Int) < (l.length : Int) := by omega
        go_wp2
        go_ret
        refine ⟨ret_b ?_, hB⟩
        rw [HD.out, List.drop_of_length_le (by omega), List.drop_of_length_le (by rw [← HN.out]; omega)]
        rfl
  · have hn' : ((l.length : Int) != (m.length : Int)) = true := by simp; omega
    have HN : Aside (decide (l = m) = false) := by show _ = _; exact decide_eq_false fun e => hn (by rw [e])
    go_enter Tryz.func13, Tryz.ntmps13
    go_wp2
    go_ret
    exact ⟨ret_b HN.out.symm, Below.refl _ _⟩
end Go.Proofs.YtaaokecdmbmgbaaGreatDoor
