/- What the document's take and opens do to its reader. -/
import Derived.Test.YtncnkojbpdemdaaRef
import Derived.Test.YtncnkojbpdemdaaArm
namespace Go.Proofs.Ytncnkojbpdemdaa
open Go.RowKit

/-- It stands ahead of the token at q; nothing is wrong. -/
def RfOk (w : World) (rb : Nat) (ws : ByteArray) (q op : Nat) : Prop := ∃ at_ tp_, Rf w rb ws at_ op 0 tp_ ∧ at_ ≤ ws.size ∧ Tp.sk ws.data.toList at_ = q
/-- It has met a fault. -/
def RfBad (w : World) (rb : Nat) (ws : ByteArray) (op e p : Nat) : Prop := ∃ at_, Rf w rb ws at_ op e p ∧ at_ ≤ ws.size ∧ e ≠ 0
/-- It stands at q; that no token begins there may have been seen. -/
def RfAt (w : World) (rb : Nat) (ws : ByteArray) (q op : Nat) : Prop := RfOk w rb ws q op ∨ (Byte ws q ∧ q ≤ ws.size ∧ RfBad w rb ws op 11 q)

theorem RfOk.le {w : World} {rb : Nat} {ws : ByteArray} {q op : Nat} (h : RfOk w rb ws q op) : q ≤ ws.size := by
  obtain ⟨a, _, _, h2, rfl⟩ := h
  have := Tp.sk_le (bs := ws.data.toList) (k := a) (by rw [str_len]; exact h2)
  rw [str_len] at this
  exact this
theorem RfAt.le {w : World} {rb : Nat} {ws : ByteArray} {q op : Nat} (h : RfAt w rb ws q op) : q ≤ ws.size := h.elim (fun h => h.le) (fun h => h.2.1)

/-- now, at a token or at the end. -/
theorem now_ok (w : World) (rb : Nat) (ws : ByteArray) (q op : Nat) (h : RfOk w rb ws q op) (hs : ws.size ≤ 2147483647) (hb : ¬ Byte ws q) :
    Calls Try.prog 20 #[.pointer (some ⟨rb, 0, none⟩)] w fun e w' => e = .returned (.tuple #[.string (S (Tp.tk ws.data.toList q)), .int .i64 q]) ∧ RfOk w' rb ws q op ∧ w.grownBy w' (some rb) := by
  obtain ⟨a, tp_, h1, h2, rfl⟩ := h
  refine (now_any w rb ws a op 0 tp_ h1 hs h2).mono ?_
  rintro e w' ⟨rfl, hst, g⟩
  rw [nowT_ok]
  rcases hst with ⟨_, hb', _⟩ | ⟨_, h3⟩
  · exact absurd hb' hb
  · exact ⟨rfl, ⟨a, tp_, h3, h2, rfl⟩, g⟩
theorem now_byte (w : World) (rb : Nat) (ws : ByteArray) (q op : Nat) (h : RfOk w rb ws q op) (hs : ws.size ≤ 2147483647) (hb : Byte ws q) :
    Calls Try.prog 20 #[.pointer (some ⟨rb, 0, none⟩)] w fun e w' => e = .returned (.tuple #[.string ⟨#[]⟩, .int .i64 q]) ∧ RfBad w' rb ws op 11 q ∧ w.grownBy w' (some rb) := by
  obtain ⟨a, tp_, h1, h2, rfl⟩ := h
  refine (now_any w rb ws a op 0 tp_ h1 hs h2).mono ?_
  rintro e w' ⟨rfl, hst, g⟩
  rw [nowT_ok, hb.1]
  rcases hst with ⟨_, _, h3⟩ | ⟨hn, _⟩
  · exact ⟨rfl, ⟨a, h3, h2, by decide⟩, g⟩
  · exact absurd ⟨rfl, hb⟩ hn
theorem now_bad (w : World) (rb : Nat) (ws : ByteArray) (op e p : Nat) (h : RfBad w rb ws op e p) (hs : ws.size ≤ 2147483647) :
    Calls Try.prog 20 #[.pointer (some ⟨rb, 0, none⟩)] w fun e' w' => (∃ x : Nat, e' = .returned (.tuple #[.string ⟨#[]⟩, .int .i64 x])) ∧ RfBad w' rb ws op e p ∧ w.grownBy w' (some rb) := by
  obtain ⟨a, h1, h2, h3⟩ := h
  refine (now_any w rb ws a op e p h1 hs h2).mono ?_
  rintro e' w' ⟨rfl, hst, g⟩
  rw [nowT_bad ws _ h3]
  rcases hst with ⟨h0, _⟩ | ⟨_, h4⟩
  · exact absurd h0 h3
  · exact ⟨⟨_, rfl⟩, ⟨a, h4, h2, h3⟩, g⟩

theorem RfOk.bd {w : World} {rb : Nat} {ws : ByteArray} {q op : Nat} (h : RfOk w rb ws q op) : w.cell? ⟨rb, 3, none⟩ = some (.int .i64 0) ∧ w.cell? ⟨rb, 2, none⟩ = some (.int .i64 op) ∧ (∃ x : Nat, w.cell? ⟨rb, 1, none⟩ = some (.int .i64 x)) ∧ ∀ o, w.frozen? ⟨rb, o, none⟩ = false := by
  obtain ⟨a, tp_, h1, _⟩ := h
  exact ⟨h1.c.2.2.2.1, h1.c.2.2.1, ⟨a, h1.c.2.1⟩, h1.f⟩
theorem RfBad.bd {w : World} {rb : Nat} {ws : ByteArray} {op e p : Nat} (h : RfBad w rb ws op e p) : w.cell? ⟨rb, 3, none⟩ = some (.int .i64 e) ∧ w.cell? ⟨rb, 4, none⟩ = some (.int .i64 p) ∧ w.cell? ⟨rb, 2, none⟩ = some (.int .i64 op) ∧ (∀ o, w.frozen? ⟨rb, o, none⟩ = false) ∧ ((e : Int) != 0) = true := by
  obtain ⟨a, h1, _, h3⟩ := h
  exact ⟨h1.c.2.2.2.1, h1.c.2.2.2.2, h1.c.2.2.1, h1.f, by simpa using h3⟩
theorem wrong_ok (w : World) (rb : Nat) (ws : ByteArray) (q op : Nat) (h : RfOk w rb ws q op) (x y : Nat) (hx : x ≠ 0) :
    Calls Try.prog 21 #[.pointer (some ⟨rb, 0, none⟩), .int .i64 x, .int .i64 y] w fun e w' => e = .returned (.tuple #[]) ∧ RfBad w' rb ws op x y ∧ w.grownBy w' (some rb) := by
  obtain ⟨a, tp_, h1, h2, _⟩ := h
  refine (wrong_yes w rb ws a op tp_ h1 x y).mono ?_
  rintro e w' ⟨rfl, h3, g⟩
  exact ⟨rfl, ⟨a, h3, h2, hx⟩, g⟩
theorem wrong_bad (w : World) (rb : Nat) (ws : ByteArray) (op e p : Nat) (h : RfBad w rb ws op e p) (x y : Int) :
    Calls Try.prog 21 #[.pointer (some ⟨rb, 0, none⟩), .int .i64 x, .int .i64 y] w fun e' w' => e' = .returned (.tuple #[]) ∧ w' = w := by
  obtain ⟨a, h1, _, h3⟩ := h
  exact wrong_no w rb ws a op e p h1 h3 x y

set_option maxHeartbeats 2000000 in
theorem rtake_bad (w : World) (rb : Nat) (ws : ByteArray) (op e p : Nat) (h : RfBad w rb ws op e p) (hs : ws.size ≤ 2147483647) (t : ByteArray) (ht : t.toList.isEmpty = false) :
    Calls Try.prog 37 #[.pointer (some ⟨rb, 0, none⟩), .string t] w fun e' w' => e' = .returned (.tuple #[]) ∧ RfBad w' rb ws op e p ∧ w.grownBy w' (some rb) := by
  go_enter Try.func37, Try.ntmps37
  go_wp2_with fail
  refine (now_bad w rb ws op e p h hs).mono ?_
  rintro e' w1 ⟨⟨x, rfl⟩, h1, g1⟩
  have hWr := wrong_bad w1 rb ws op e p h1
  go_wp2_with fail
  refine (hWr _ _).mono ?_
  rintro e' w2 ⟨rfl, hw⟩
  replace hw := hw.symm
  subst hw
  go_wp2_with fail
  refine bodyPost_ret (v := .tuple #[]) (by simp [results, Try.results37, go_sem]) rfl ?_
  exact ⟨rfl, h1, g1⟩
set_option maxHeartbeats 2000000 in
theorem rtake_byte (w : World) (rb : Nat) (ws : ByteArray) (q op : Nat) (h : RfOk w rb ws q op) (hs : ws.size ≤ 2147483647) (hb : Byte ws q) (t : ByteArray) (ht : t.toList.isEmpty = false) :
    Calls Try.prog 37 #[.pointer (some ⟨rb, 0, none⟩), .string t] w fun e' w' => e' = .returned (.tuple #[]) ∧ RfBad w' rb ws op 11 q ∧ w.grownBy w' (some rb) := by
  go_enter Try.func37, Try.ntmps37
  go_wp2_with fail
  refine (now_byte w rb ws q op h hs hb).mono ?_
  rintro e' w1 ⟨rfl, h1, g1⟩
  have hWr := wrong_bad w1 rb ws op 11 q h1
  go_wp2_with fail
  refine (hWr _ _).mono ?_
  rintro e' w2 ⟨rfl, hw⟩
  replace hw := hw.symm
  subst hw
  go_wp2_with fail
  refine bodyPost_ret (v := .tuple #[]) (by simp [results, Try.results37, go_sem]) rfl ?_
  exact ⟨rfl, h1, g1⟩
set_option maxHeartbeats 2000000 in
theorem rtake_no (w : World) (rb : Nat) (ws : ByteArray) (q op : Nat) (h : RfOk w rb ws q op) (hs : ws.size ≤ 2147483647) (hb : ¬ Byte ws q) (t : ByteArray) (ht : S (Tp.tk ws.data.toList q) ≠ t) :
    Calls Try.prog 37 #[.pointer (some ⟨rb, 0, none⟩), .string t] w fun e' w' => e' = .returned (.tuple #[]) ∧ RfBad w' rb ws op 15 q ∧ w.grownBy w' (some rb) := by
  have hN := now_ok w rb ws q op h hs hb
  have hne := toList_ne ht
  generalize S (Tp.tk ws.data.toList q) = tok at *
  go_enter Try.func37, Try.ntmps37
  go_wp2_with fail
  refine hN.mono ?_
  rintro e' w1 ⟨rfl, h1, g1⟩
  have hWr := wrong_ok w1 rb ws q op h1 15 q (by decide)
  go_wp2_with fail
  refine hWr.mono ?_
  rintro e' w2 ⟨rfl, h2, g2⟩
  go_wp2_with fail
  refine bodyPost_ret (v := .tuple #[]) (by simp [results, Try.results37, go_sem]) rfl ?_
  exact ⟨rfl, h2, grownBy_trans g1 g2⟩
set_option maxHeartbeats 2000000 in
theorem rtake_ok (w : World) (rb : Nat) (ws : ByteArray) (q op : Nat) (h : RfOk w rb ws q op) (hs : ws.size ≤ 2147483647) (hb : ¬ Byte ws q) (t : ByteArray) (ht : S (Tp.tk ws.data.toList q) = t) :
    Calls Try.prog 37 #[.pointer (some ⟨rb, 0, none⟩), .string t] w fun e' w' => e' = .returned (.tuple #[]) ∧ RfOk w' rb ws (Tp.nx ws.data.toList q) op ∧ w.grownBy w' (some rb) := by
  have hN := now_ok w rb ws q op h hs hb
  have hle := h.le
  have hz : q + t.size ≤ ws.size := by rw [← ht]; exact RdAt.nextOf hle
  have HZ : Aside (t.size = Tp.tl ws.data.toList q) := by show _ = _; rw [← ht, S_size, Tp.tk_len]
  rw [ht] at hN
  go_enter Try.func37, Try.ntmps37
  go_wp2_with fail
  refine hN.mono ?_
  rintro e' w1 ⟨rfl, h1, g1⟩
  obtain ⟨c3, -, ⟨x, c1⟩, ff⟩ := h1.bd
  have f1 := ff 1
  go_wp2_with fail
  go_end0
  obtain ⟨a, y, h2, h3, h4⟩ := h1
  refine ⟨rfl, ⟨q + t.size, y, Rf.setAt h2 _ (by omega), hz, ?_⟩, grownBy_set g1 _⟩
  rw [HZ.out]
  rfl

set_option maxHeartbeats 2000000 in
theorem ropens_ok (w : World) (rb : Nat) (ws : ByteArray) (q op : Nat) (h : RfOk w rb ws q op) (hs : ws.size ≤ 2147483647) (hb : ¬ Byte ws q) (hop : op < 64) :
    Calls Try.prog 36 #[.pointer (some ⟨rb, 0, none⟩)] w fun e' w' => e' = .returned (.tuple #[]) ∧ RfOk w' rb ws q (op + 1) ∧ w.grownBy w' (some rb) := by
  have hN := now_ok w rb ws q op h hs hb
  have hop' : decide ((64 : Int) < (op : Int) + 1) = false := by simp; omega
  generalize S (Tp.tk ws.data.toList q) = tok at *
  go_enter Try.func36, Try.ntmps36
  go_wp2_with fail
  refine hN.mono ?_
  rintro e' w1 ⟨rfl, h1, g1⟩
  obtain ⟨a, y, h2, h3, h4⟩ := h1
  have c2 := h2.c.2.2.1
  have f2 := h2.f 2
  have h5 := Rf.setOp h2 (x := (op : Int) + 1) (op + 1) (by omega)
  have d2 := h5.c.2.2.1
  go_wp2_with fail
  go_end0
  exact ⟨rfl, ⟨a, y, h5, h3, h4⟩, grownBy_set g1 _⟩
set_option maxHeartbeats 2000000 in
theorem ropens_deep (w : World) (rb : Nat) (ws : ByteArray) (q : Nat) (h : RfOk w rb ws q 64) (hs : ws.size ≤ 2147483647) (hb : ¬ Byte ws q) :
    Calls Try.prog 36 #[.pointer (some ⟨rb, 0, none⟩)] w fun e' w' => e' = .returned (.tuple #[]) ∧ RfBad w' rb ws 65 16 q ∧ w.grownBy w' (some rb) := by
  have hN := now_ok w rb ws q 64 h hs hb
  generalize S (Tp.tk ws.data.toList q) = tok at *
  go_enter Try.func36, Try.ntmps36
  go_wp2_with fail
  refine hN.mono ?_
  rintro e' w1 ⟨rfl, h1, g1⟩
  obtain ⟨a, y, h2, h3, h4⟩ := h1
  have c2 := h2.c.2.2.1
  have f2 := h2.f 2
  have h5 := Rf.setOp h2 (x := 65) 65 rfl
  have d2 := h5.c.2.2.1
  have hWr := wrong_ok _ rb ws q 65 ⟨a, y, h5, h3, h4⟩ 16 q (by decide)
  go_wp2_with fail
  refine hWr.mono ?_
  rintro e' w2 ⟨rfl, h6, g2⟩
  go_wp2_with fail
  go_end0
  exact ⟨rfl, h6, grownBy_trans (grownBy_set g1 _) g2⟩

/-- take, wherever it stands. -/
theorem rtake_at (w : World) (rb : Nat) (ws : ByteArray) (q op : Nat) (h : RfAt w rb ws q op) (hs : ws.size ≤ 2147483647) (t : List UInt8) (ht : t ≠ []) :
    Calls Try.prog 37 #[.pointer (some ⟨rb, 0, none⟩), .string (S t)] w fun e' w' => e' = .returned (.tuple #[]) ∧ ((Tp.tk ws.data.toList q = t ∧ RfOk w' rb ws (Tp.nx ws.data.toList q) op) ∨ (Tp.tk ws.data.toList q ≠ t ∧ RfBad w' rb ws op (Tp.bad ws.data.toList q) q)) ∧ w.grownBy w' (some rb) := by
  have he := S_isEmpty t ht
  have hbad : Byte ws q → Tp.bad ws.data.toList q = 11 ∧ Tp.tk ws.data.toList q ≠ t := fun hb => ⟨by unfold Tp.bad; rw [str_len]; exact if_pos hb, by rw [hb.1]; exact fun e => ht e.symm⟩
  rcases h with h | ⟨hb, _, h⟩
  · by_cases hb : Byte ws q
    · refine (rtake_byte w rb ws q op h hs hb _ he).mono ?_
      rintro e w' ⟨rfl, h1, g⟩
      exact ⟨rfl, .inr ⟨(hbad hb).2, by rw [(hbad hb).1]; exact h1⟩, g⟩
    · by_cases hk : Tp.tk ws.data.toList q = t
      · refine (rtake_ok w rb ws q op h hs hb _ (by rw [hk])).mono ?_
        rintro e w' ⟨rfl, h1, g⟩
        exact ⟨rfl, .inl ⟨hk, h1⟩, g⟩
      · refine (rtake_no w rb ws q op h hs hb _ (fun e => hk (S_inj e))).mono ?_
        rintro e w' ⟨rfl, h1, g⟩
        refine ⟨rfl, .inr ⟨hk, ?_⟩, g⟩
        have : Tp.bad ws.data.toList q = 15 := by unfold Tp.bad; rw [str_len]; exact if_neg hb
        rw [this]; exact h1
  · refine (rtake_bad w rb ws op 11 q h hs _ he).mono ?_
    rintro e w' ⟨rfl, h1, g⟩
    exact ⟨rfl, .inr ⟨(hbad hb).2, by rw [(hbad hb).1]; exact h1⟩, g⟩
end Go.Proofs.Ytncnkojbpdemdaa
