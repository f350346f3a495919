/- What the document's arm and one read. -/
import Derived.Test.YtncnkojbpdemdaaRefTake
namespace Go.Proofs.Ytncnkojbpdemdaa
open Go.RowKit

/-- How the document's reader stands behind a reading. -/
def RS (w : World) (rb : Nat) (ws : ByteArray) (op : Nat) (r : Tp.Res) : Prop :=
  match r with
  | .ok (_, q) => RfAt w rb ws q op
  | .error (e, p) => RfBad w rb ws op e p
/-- What it hands back, read from q0 on. -/
def RV (ws : ByteArray) (q0 : Nat) (r : Tp.Res) (g : List UInt8) : Prop :=
  match r with
  | .ok (a, q) => g = Tp.enc a ∧ g.length + q0 ≤ q ∧ q ≤ ws.size
  | .error _ => g.length + q0 ≤ ws.size
theorem RV.le {ws : ByteArray} {q0 : Nat} {r : Tp.Res} {g : List UInt8} (h : RV ws q0 r g) : g.length + q0 ≤ ws.size := by
  match r, h with
  | .ok (a, q), h => have h : g = Tp.enc a ∧ g.length + q0 ≤ q ∧ q ≤ ws.size := h
                     omega
  | .error _, h => exact h
def REnds (w : World) (rb : Nat) (ws : ByteArray) (op q0 : Nat) (r : Tp.Res) (e : Ending) : Prop :=
  ∃ g, e = .returned (.string (S g)) ∧ RV ws q0 r g ∧ RS w rb ws op r
theorem RfOk.setOp {w : World} {rb : Nat} {ws : ByteArray} {q op : Nat} (h : RfOk w rb ws q op) {x : Int} (k : Nat) (hx : x = k) : RfOk (w.setCell ⟨rb, 2, none⟩ (.int .i64 x)) rb ws q k := by
  obtain ⟨a, y, h1, h2⟩ := h
  exact ⟨a, y, Rf.setOp h1 k hx, h2⟩
theorem RfBad.setOp {w : World} {rb : Nat} {ws : ByteArray} {op e p : Nat} (h : RfBad w rb ws op e p) {x : Int} (k : Nat) (hx : x = k) : RfBad (w.setCell ⟨rb, 2, none⟩ (.int .i64 x)) rb ws k e p := by
  obtain ⟨a, h1, h2⟩ := h
  exact ⟨a, Rf.setOp h1 k hx, h2⟩
theorem RS.setOp {w : World} {rb : Nat} {ws : ByteArray} {op : Nat} {r : Tp.Res} (h : RS w rb ws op r) {x : Int} (k : Nat) (hx : x = k) : RS (w.setCell ⟨rb, 2, none⟩ (.int .i64 x)) rb ws k r := by
  match r, h with
  | .ok (_, q), h => exact h.elim (fun h => .inl (h.setOp k hx)) (fun h => .inr ⟨h.1, h.2.1, h.2.2.setOp k hx⟩)
  | .error (e, p), h => exact RfBad.setOp h k hx
theorem RS.cells {w : World} {rb : Nat} {ws : ByteArray} {op : Nat} {r : Tp.Res} (h : RS w rb ws op r) : w.cell? ⟨rb, 2, none⟩ = some (.int .i64 op) ∧ ∀ o, w.frozen? ⟨rb, o, none⟩ = false := by
  match r, h with
  | .ok (_, q), .inl h => exact ⟨h.bd.2.1, h.bd.2.2.2⟩
  | .ok (_, q), .inr h => exact ⟨h.2.2.bd.2.2.1, h.2.2.bd.2.2.2.1⟩
  | .error (e, p), h => exact ⟨(RfBad.bd h).2.2.1, (RfBad.bd h).2.2.2.1⟩
/-- What now hands back behind a reading. -/
def more (ws : ByteArray) : Tp.Res → List UInt8
  | .ok (_, q) => Tp.tk ws.data.toList q
  | .error _ => []
/-- Behind a reading that can't go on. -/
def Stuck (ws : ByteArray) (r : Tp.Res) (e p : Nat) : Prop := r = .error (e, p) ∨ ∃ a q, r = .ok (a, q) ∧ Byte ws q ∧ e = 11 ∧ p = q
theorem now_rs (w : World) (rb : Nat) (ws : ByteArray) (op : Nat) (r : Tp.Res) (h : RS w rb ws op r) (hs : ws.size ≤ 2147483647) :
    Calls Try.prog 20 #[.pointer (some ⟨rb, 0, none⟩)] w fun e' w' => (∃ x : Nat, e' = .returned (.tuple #[.string (S (more ws r)), .int .i64 x])) ∧ ((∃ a q, r = .ok (a, q) ∧ ¬ Byte ws q ∧ RfOk w' rb ws q op) ∨ (more ws r = [] ∧ ∃ e p, Stuck ws r e p ∧ RfBad w' rb ws op e p)) ∧ w.grownBy w' (some rb) := by
  match r, h with
  | .error (e, p), h =>
    refine (now_bad w rb ws op e p h hs).mono ?_
    rintro e' w' ⟨⟨x, rfl⟩, h1, g⟩
    exact ⟨⟨x, rfl⟩, .inr ⟨rfl, e, p, .inl rfl, h1⟩, g⟩
  | .ok (a, q), .inr ⟨hb, _, h⟩ =>
    refine (now_bad w rb ws op 11 q h hs).mono ?_
    rintro e' w' ⟨⟨x, rfl⟩, h1, g⟩
    have hm : more ws (.ok (a, q)) = [] := hb.1
    rw [hm]
    exact ⟨⟨x, rfl⟩, .inr ⟨rfl, 11, q, .inr ⟨a, q, rfl, hb, rfl, rfl⟩, h1⟩, g⟩
  | .ok (a, q), .inl h =>
    by_cases hb : Byte ws q
    · refine (now_byte w rb ws q op h hs hb).mono ?_
      rintro e' w' ⟨rfl, h1, g⟩
      have hm : more ws (.ok (a, q)) = [] := hb.1
      rw [hm]
      exact ⟨⟨q, rfl⟩, .inr ⟨rfl, 11, q, .inr ⟨a, q, rfl, hb, rfl, rfl⟩, h1⟩, g⟩
    · refine (now_ok w rb ws q op h hs hb).mono ?_
      rintro e' w' ⟨rfl, h1, g⟩
      exact ⟨⟨q, rfl⟩, .inl ⟨a, q, rfl, hb, h1⟩, g⟩

set_option maxHeartbeats 2000000 in
theorem rarm_bad (w : World) (rb : Nat) (ws : ByteArray) (op e p : Nat) (h : RfBad w rb ws op e p) (hs : ws.size ≤ 2147483647) :
    Calls Try.prog 35 #[.pointer (some ⟨rb, 0, none⟩)] w fun e' w' => e' = .returned (.string ⟨#[]⟩) ∧ RfBad w' rb ws op e p ∧ w.grownBy w' (some rb) := by
  go_enter Try.func35, Try.ntmps35
  go_wp2_with fail
  refine (now_bad w rb ws op e p h hs).mono ?_
  rintro e' w1 ⟨⟨x, rfl⟩, h1, g1⟩
  obtain ⟨c3, -, -, -, he⟩ := h1.bd
  go_wp2_with fail
  go_ret
  exact ⟨rfl, h1, g1⟩
set_option maxHeartbeats 2000000 in
theorem rone_bad (w : World) (rb : Nat) (ws : ByteArray) (op e p : Nat) (h : RfBad w rb ws op e p) (hs : ws.size ≤ 2147483647) :
    Calls Try.prog 19 #[.pointer (some ⟨rb, 0, none⟩)] w fun e' w' => e' = .returned (.string ⟨#[]⟩) ∧ RfBad w' rb ws op e p ∧ w.grownBy w' (some rb) := by
  go_enter Try.func19, Try.ntmps19
  go_wp2_with fail
  refine (rarm_bad w rb ws op e p h hs).mono ?_
  rintro e' w1 ⟨rfl, h1, g1⟩
  go_wp2_with fail
  refine (now_bad w1 rb ws op e p h1 hs).mono ?_
  rintro e' w2 ⟨⟨x, rfl⟩, h2, g2⟩
  obtain ⟨c3, -, -, -, he⟩ := h2.bd
  go_wp2_with fail
  go_ret
  exact ⟨rfl, h2, grownBy_trans g1 g2⟩

/-- What the document's one, arm read where d more may be open. -/
def OneC (ws : ByteArray) (d : Nat) : Prop := ∀ (w : World) (rb q op : Nat), RfAt w rb ws q op → op + d = 64 →
  Calls Try.prog 19 #[.pointer (some ⟨rb, 0, none⟩)] w fun e w' => REnds w' rb ws op q ((Tp.pr ws.data.toList d).1 q) e ∧ w.grownBy w' (some rb)
def RArmC (ws : ByteArray) (d : Nat) : Prop := ∀ (w : World) (rb q op : Nat), RfAt w rb ws q op → op + d = 64 →
  Calls Try.prog 35 #[.pointer (some ⟨rb, 0, none⟩)] w fun e w' => REnds w' rb ws op q ((Tp.pr ws.data.toList d).2 q) e ∧ w.grownBy w' (some rb)

theorem nx_gt {ws : ByteArray} {q : Nat} (ht : Tp.tk ws.data.toList q ≠ []) (hq : q ≤ ws.size) : q + 1 ≤ Tp.nx ws.data.toList q ∧ Tp.nx ws.data.toList q ≤ ws.size ∧ q + Tp.tl ws.data.toList q ≤ Tp.nx ws.data.toList q := by
  have h1 := Tp.tk_len ws.data.toList q
  have h2 := List.length_pos_iff.2 ht
  have h3 := Tp.sk_ge ws.data.toList (q + Tp.tl ws.data.toList q)
  have h4 := Tp.nx_le (bs := ws.data.toList) (p := q) (by rw [str_len]; exact hq)
  rw [str_len] at h4
  unfold Tp.nx at h4 ⊢
  omega
theorem not_byte {ws : ByteArray} {q : Nat} (ht : Tp.tk ws.data.toList q ≠ []) : ¬ Byte ws q := fun h => ht h.1

set_option maxHeartbeats 2000000 in
theorem rarm_byte (ws : ByteArray) (hs : ws.size ≤ 2147483647) (d : Nat) (w : World) (rb q op : Nat) (h : RfAt w rb ws q op) (hb : Byte ws q) :
    Calls Try.prog 35 #[.pointer (some ⟨rb, 0, none⟩)] w fun e w' => REnds w' rb ws op q ((Tp.pr ws.data.toList d).2 q) e ∧ w.grownBy w' (some rb) := by
  have HA : Aside ((Tp.pr ws.data.toList d).2 q = .error (11, q)) := by
    show _ = _
    rw [Tp.pr_eq]
    show Tp.armF _ _ _ = _
    unfold Tp.armF
    rw [hb.1]
    have : Tp.bad ws.data.toList q = 11 := by unfold Tp.bad; rw [str_len]; exact if_pos hb
    rw [this]
    rfl
  have hN := now_rs w rb ws op (.ok (.ti, q)) h hs
  have hm : more ws (.ok (.ti, q)) = [] := hb.1
  rw [hm] at hN
  have hle := hb.2
  go_enter Try.func35, Try.ntmps35
  go_wp2_with fail
  refine hN.mono ?_
  rintro e' w1 ⟨⟨x, rfl⟩, h1, g1⟩
  have h2 : RfBad w1 rb ws op 11 q := by
    rcases h1 with ⟨a, q', he, hb', _⟩ | ⟨_, e, p, hst, h2⟩
    · cases he; exact absurd hb hb'
    · rcases hst with he | ⟨a, q', he, _, rfl, rfl⟩
      · cases he
      · cases he; exact h2
  clear h1
  obtain ⟨c3, -, -, -, he⟩ := h2.bd
  go_wp2_with fail
  go_ret
  rw [HA.out]
  exact ⟨⟨[], rfl, by show 0 + q ≤ ws.size; omega, h2⟩, g1⟩

set_option maxHeartbeats 2000000 in
theorem rarm_ti (ws : ByteArray) (hs : ws.size ≤ 2147483647) (d : Nat) (w : World) (rb q op : Nat) (h : RfOk w rb ws q op) (ht : Tp.tk ws.data.toList q = [105, 110, 116]) :
    Calls Try.prog 35 #[.pointer (some ⟨rb, 0, none⟩)] w fun e w' => REnds w' rb ws op q ((Tp.pr ws.data.toList d).2 q) e ∧ w.grownBy w' (some rb) := by
  have HT : Aside (Tp.tk ws.data.toList q = [105, 110, 116]) := ht
  have HA : Aside ((Tp.pr ws.data.toList d).2 q = .ok (.ti, Tp.nx ws.data.toList q)) := by
    show _ = _
    rw [Tp.pr_eq]
    show Tp.armF _ _ _ = _
    unfold Tp.armF
    rw [ht]
    rfl
  have hnb : ¬ Byte ws q := not_byte (by rw [ht]; simp)
  have hgt := nx_gt (ws := ws) (q := q) (by rw [ht]; simp) h.le
  have hN := now_ok w rb ws q op h hs hnb
  have hTk : ∀ w1, RfOk w1 rb ws q op → _ := fun w1 h1 => rtake_ok w1 rb ws q op h1 hs hnb _ rfl
  have f0 : ((S (Tp.tk ws.data.toList q)).toList == [105, 110, 116]) = true := by rw [toList_S, HT.out]; rfl
  have f1 : ((S (Tp.tk ws.data.toList q)).toList == [98, 111, 111, 108]) = false := by rw [toList_S, HT.out]; rfl
  have f2 : ((S (Tp.tk ws.data.toList q)).toList == [116, 101, 120, 116]) = false := by rw [toList_S, HT.out]; rfl
  have f3 : ((S (Tp.tk ws.data.toList q)).toList == [63]) = false := by rw [toList_S, HT.out]; rfl
  have f4 : ((S (Tp.tk ws.data.toList q)).toList == [40]) = false := by rw [toList_S, HT.out]; rfl
  have f5 : ((S (Tp.tk ws.data.toList q)).toList == [91]) = false := by rw [toList_S, HT.out]; rfl
  have f6 : ((S (Tp.tk ws.data.toList q)).toList == [98, 111, 120]) = false := by rw [toList_S, HT.out]; rfl
  have hx : (S (Tp.tk ws.data.toList q)).extract 0 1 = S [105] := by rw [HT.out]; exact S_first _ _
  have hz : (1 : Int) ≤ ((S (Tp.tk ws.data.toList q)).size : Int) := by rw [S_size, HT.out]; decide
  clear ht
  generalize S (Tp.tk ws.data.toList q) = tok at *
  go_enter Try.func35, Try.ntmps35
  go_wp2_with fail
  refine hN.mono ?_
  rintro e' w1 ⟨rfl, h1, g1⟩
  obtain ⟨c3, -, -, -⟩ := h1.bd
  have hT := hTk w1 h1
  clear hTk hN
  go_wp2_with (go_at_call 37; refine hT.mono ?_; rintro e' w2 ⟨rfl, h2, g2⟩)
  go_ret
  rw [HA.out]
  exact ⟨⟨[105], by rw [← hx]; rfl, ⟨rfl, by show 1 + q ≤ _; omega, hgt.2.1⟩, .inl h2⟩, grownBy_trans g1 g2⟩

set_option maxHeartbeats 2000000 in
theorem rarm_tb (ws : ByteArray) (hs : ws.size ≤ 2147483647) (d : Nat) (w : World) (rb q op : Nat) (h : RfOk w rb ws q op) (ht : Tp.tk ws.data.toList q = [98, 111, 111, 108]) :
    Calls Try.prog 35 #[.pointer (some ⟨rb, 0, none⟩)] w fun e w' => REnds w' rb ws op q ((Tp.pr ws.data.toList d).2 q) e ∧ w.grownBy w' (some rb) := by
  have HT : Aside (Tp.tk ws.data.toList q = [98, 111, 111, 108]) := ht
  have HA : Aside ((Tp.pr ws.data.toList d).2 q = .ok (.tb, Tp.nx ws.data.toList q)) := by
    show _ = _
    rw [Tp.pr_eq]
    show Tp.armF _ _ _ = _
    unfold Tp.armF
    rw [ht]
    rfl
  have hnb : ¬ Byte ws q := not_byte (by rw [ht]; simp)
  have hgt := nx_gt (ws := ws) (q := q) (by rw [ht]; simp) h.le
  have hN := now_ok w rb ws q op h hs hnb
  have hTk : ∀ w1, RfOk w1 rb ws q op → _ := fun w1 h1 => rtake_ok w1 rb ws q op h1 hs hnb _ rfl
  have f0 : ((S (Tp.tk ws.data.toList q)).toList == [105, 110, 116]) = false := by rw [toList_S, HT.out]; rfl
  have f1 : ((S (Tp.tk ws.data.toList q)).toList == [98, 111, 111, 108]) = true := by rw [toList_S, HT.out]; rfl
  have f2 : ((S (Tp.tk ws.data.toList q)).toList == [116, 101, 120, 116]) = false := by rw [toList_S, HT.out]; rfl
  have f3 : ((S (Tp.tk ws.data.toList q)).toList == [63]) = false := by rw [toList_S, HT.out]; rfl
  have f4 : ((S (Tp.tk ws.data.toList q)).toList == [40]) = false := by rw [toList_S, HT.out]; rfl
  have f5 : ((S (Tp.tk ws.data.toList q)).toList == [91]) = false := by rw [toList_S, HT.out]; rfl
  have f6 : ((S (Tp.tk ws.data.toList q)).toList == [98, 111, 120]) = false := by rw [toList_S, HT.out]; rfl
  have hx : (S (Tp.tk ws.data.toList q)).extract 0 1 = S [98] := by rw [HT.out]; exact S_first _ _
  have hz : (1 : Int) ≤ ((S (Tp.tk ws.data.toList q)).size : Int) := by rw [S_size, HT.out]; decide
  clear ht
  generalize S (Tp.tk ws.data.toList q) = tok at *
  go_enter Try.func35, Try.ntmps35
  go_wp2_with fail
  refine hN.mono ?_
  rintro e' w1 ⟨rfl, h1, g1⟩
  obtain ⟨c3, -, -, -⟩ := h1.bd
  have hT := hTk w1 h1
  clear hTk hN
  go_wp2_with (go_at_call 37; refine hT.mono ?_; rintro e' w2 ⟨rfl, h2, g2⟩)
  go_ret
  rw [HA.out]
  exact ⟨⟨[98], by rw [← hx]; rfl, ⟨rfl, by show 1 + q ≤ _; omega, hgt.2.1⟩, .inl h2⟩, grownBy_trans g1 g2⟩

set_option maxHeartbeats 2000000 in
theorem rarm_tt (ws : ByteArray) (hs : ws.size ≤ 2147483647) (d : Nat) (w : World) (rb q op : Nat) (h : RfOk w rb ws q op) (ht : Tp.tk ws.data.toList q = [116, 101, 120, 116]) :
    Calls Try.prog 35 #[.pointer (some ⟨rb, 0, none⟩)] w fun e w' => REnds w' rb ws op q ((Tp.pr ws.data.toList d).2 q) e ∧ w.grownBy w' (some rb) := by
  have HT : Aside (Tp.tk ws.data.toList q = [116, 101, 120, 116]) := ht
  have HA : Aside ((Tp.pr ws.data.toList d).2 q = .ok (.tt, Tp.nx ws.data.toList q)) := by
    show _ = _
    rw [Tp.pr_eq]
    show Tp.armF _ _ _ = _
    unfold Tp.armF
    rw [ht]
    rfl
  have hnb : ¬ Byte ws q := not_byte (by rw [ht]; simp)
  have hgt := nx_gt (ws := ws) (q := q) (by rw [ht]; simp) h.le
  have hN := now_ok w rb ws q op h hs hnb
  have hTk : ∀ w1, RfOk w1 rb ws q op → _ := fun w1 h1 => rtake_ok w1 rb ws q op h1 hs hnb _ rfl
  have f0 : ((S (Tp.tk ws.data.toList q)).toList == [105, 110, 116]) = false := by rw [toList_S, HT.out]; rfl
  have f1 : ((S (Tp.tk ws.data.toList q)).toList == [98, 111, 111, 108]) = false := by rw [toList_S, HT.out]; rfl
  have f2 : ((S (Tp.tk ws.data.toList q)).toList == [116, 101, 120, 116]) = true := by rw [toList_S, HT.out]; rfl
  have f3 : ((S (Tp.tk ws.data.toList q)).toList == [63]) = false := by rw [toList_S, HT.out]; rfl
  have f4 : ((S (Tp.tk ws.data.toList q)).toList == [40]) = false := by rw [toList_S, HT.out]; rfl
  have f5 : ((S (Tp.tk ws.data.toList q)).toList == [91]) = false := by rw [toList_S, HT.out]; rfl
  have f6 : ((S (Tp.tk ws.data.toList q)).toList == [98, 111, 120]) = false := by rw [toList_S, HT.out]; rfl
  have hx : (S (Tp.tk ws.data.toList q)).extract 0 1 = S [116] := by rw [HT.out]; exact S_first _ _
  have hz : (1 : Int) ≤ ((S (Tp.tk ws.data.toList q)).size : Int) := by rw [S_size, HT.out]; decide
  clear ht
  generalize S (Tp.tk ws.data.toList q) = tok at *
  go_enter Try.func35, Try.ntmps35
  go_wp2_with fail
  refine hN.mono ?_
  rintro e' w1 ⟨rfl, h1, g1⟩
  obtain ⟨c3, -, -, -⟩ := h1.bd
  have hT := hTk w1 h1
  clear hTk hN
  go_wp2_with (go_at_call 37; refine hT.mono ?_; rintro e' w2 ⟨rfl, h2, g2⟩)
  go_ret
  rw [HA.out]
  exact ⟨⟨[116], by rw [← hx]; rfl, ⟨rfl, by show 1 + q ≤ _; omega, hgt.2.1⟩, .inl h2⟩, grownBy_trans g1 g2⟩

set_option maxHeartbeats 2000000 in
theorem rarm_tq (ws : ByteArray) (hs : ws.size ≤ 2147483647) (d : Nat) (w : World) (rb q op : Nat) (h : RfOk w rb ws q op) (ht : Tp.tk ws.data.toList q = [63]) :
    Calls Try.prog 35 #[.pointer (some ⟨rb, 0, none⟩)] w fun e w' => REnds w' rb ws op q ((Tp.pr ws.data.toList d).2 q) e ∧ w.grownBy w' (some rb) := by
  have HT : Aside (Tp.tk ws.data.toList q = [63]) := ht
  have HA : Aside ((Tp.pr ws.data.toList d).2 q = .ok (.tq, Tp.nx ws.data.toList q)) := by
    show _ = _
    rw [Tp.pr_eq]
    show Tp.armF _ _ _ = _
    unfold Tp.armF
    rw [ht]
    rfl
  have hnb : ¬ Byte ws q := not_byte (by rw [ht]; simp)
  have hgt := nx_gt (ws := ws) (q := q) (by rw [ht]; simp) h.le
  have hN := now_ok w rb ws q op h hs hnb
  have hTk : ∀ w1, RfOk w1 rb ws q op → _ := fun w1 h1 => rtake_ok w1 rb ws q op h1 hs hnb _ rfl
  have f0 : ((S (Tp.tk ws.data.toList q)).toList == [105, 110, 116]) = false := by rw [toList_S, HT.out]; rfl
  have f1 : ((S (Tp.tk ws.data.toList q)).toList == [98, 111, 111, 108]) = false := by rw [toList_S, HT.out]; rfl
  have f2 : ((S (Tp.tk ws.data.toList q)).toList == [116, 101, 120, 116]) = false := by rw [toList_S, HT.out]; rfl
  have f3 : ((S (Tp.tk ws.data.toList q)).toList == [63]) = true := by rw [toList_S, HT.out]; rfl
  have f4 : ((S (Tp.tk ws.data.toList q)).toList == [40]) = false := by rw [toList_S, HT.out]; rfl
  have f5 : ((S (Tp.tk ws.data.toList q)).toList == [91]) = false := by rw [toList_S, HT.out]; rfl
  have f6 : ((S (Tp.tk ws.data.toList q)).toList == [98, 111, 120]) = false := by rw [toList_S, HT.out]; rfl
  have hx : (S (Tp.tk ws.data.toList q)).extract 0 1 = S [63] := by rw [HT.out]; exact S_first _ _
  have hz : (1 : Int) ≤ ((S (Tp.tk ws.data.toList q)).size : Int) := by rw [S_size, HT.out]; decide
  clear ht
  generalize S (Tp.tk ws.data.toList q) = tok at *
  go_enter Try.func35, Try.ntmps35
  go_wp2_with fail
  refine hN.mono ?_
  rintro e' w1 ⟨rfl, h1, g1⟩
  obtain ⟨c3, -, -, -⟩ := h1.bd
  have hT := hTk w1 h1
  clear hTk hN
  go_wp2_with (go_at_call 37; refine hT.mono ?_; rintro e' w2 ⟨rfl, h2, g2⟩)
  go_ret
  rw [HA.out]
  exact ⟨⟨[63], by rw [← hx]; rfl, ⟨rfl, by show 1 + q ≤ _; omega, hgt.2.1⟩, .inl h2⟩, grownBy_trans g1 g2⟩

set_option maxHeartbeats 2000000 in
theorem rarm_else (ws : ByteArray) (hs : ws.size ≤ 2147483647) (d : Nat) (w : World) (rb q op : Nat) (h : RfOk w rb ws q op) (hnb : ¬ Byte ws q)
    (n0 : Tp.tk ws.data.toList q ≠ [105, 110, 116]) (n1 : Tp.tk ws.data.toList q ≠ [98, 111, 111, 108]) (n2 : Tp.tk ws.data.toList q ≠ [116, 101, 120, 116]) (n3 : Tp.tk ws.data.toList q ≠ [63]) (n4 : Tp.tk ws.data.toList q ≠ [40]) (n5 : Tp.tk ws.data.toList q ≠ [91]) (n6 : Tp.tk ws.data.toList q ≠ [98, 111, 120]) :
    Calls Try.prog 35 #[.pointer (some ⟨rb, 0, none⟩)] w fun e w' => REnds w' rb ws op q ((Tp.pr ws.data.toList d).2 q) e ∧ w.grownBy w' (some rb) := by
  have HA : Aside ((Tp.pr ws.data.toList d).2 q = .error (15, q)) := by
    show _ = _
    rw [Tp.pr_eq]
    show Tp.armF _ _ _ = _
    unfold Tp.armF
    rw [if_neg n0, if_neg n1, if_neg n2, if_neg n3, if_neg n4, if_neg n5, if_neg n6]
    have : Tp.bad ws.data.toList q = 15 := by unfold Tp.bad; rw [str_len]; exact if_neg hnb
    rw [this]
  have hle := h.le
  have hN := now_ok w rb ws q op h hs hnb
  have f0 : ((S (Tp.tk ws.data.toList q)).toList == [105, 110, 116]) = false := by rw [toList_S]; simpa using n0
  have f1 : ((S (Tp.tk ws.data.toList q)).toList == [98, 111, 111, 108]) = false := by rw [toList_S]; simpa using n1
  have f2 : ((S (Tp.tk ws.data.toList q)).toList == [116, 101, 120, 116]) = false := by rw [toList_S]; simpa using n2
  have f3 : ((S (Tp.tk ws.data.toList q)).toList == [63]) = false := by rw [toList_S]; simpa using n3
  have f4 : ((S (Tp.tk ws.data.toList q)).toList == [40]) = false := by rw [toList_S]; simpa using n4
  have f5 : ((S (Tp.tk ws.data.toList q)).toList == [91]) = false := by rw [toList_S]; simpa using n5
  have f6 : ((S (Tp.tk ws.data.toList q)).toList == [98, 111, 120]) = false := by rw [toList_S]; simpa using n6
  clear n0 n1 n2 n3 n4 n5 n6
  generalize S (Tp.tk ws.data.toList q) = tok at *
  go_enter Try.func35, Try.ntmps35
  go_wp2_with fail
  refine hN.mono ?_
  rintro e' w1 ⟨rfl, h1, g1⟩
  obtain ⟨c3, -, -, -⟩ := h1.bd
  have hWr := wrong_ok w1 rb ws q op h1 15 q (by decide)
  clear hN
  go_wp2_with (go_at_call 21; refine hWr.mono ?_; rintro e' w2 ⟨rfl, h2, g2⟩)
  go_ret
  rw [HA.out]
  exact ⟨⟨[], rfl, by show 0 + q ≤ ws.size; omega, h2⟩, grownBy_trans g1 g2⟩
end Go.Proofs.Ytncnkojbpdemdaa
