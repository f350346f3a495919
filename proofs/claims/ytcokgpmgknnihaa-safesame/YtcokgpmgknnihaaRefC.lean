/- What the document's Plus and Minus tell. -/
import Derived.Test.YtcokgpmgknnihaaRefB
import Derived.Test.YtcokgpmgknnihaaSafeB
namespace Go.Proofs.Ytcokgpmgknnihaa
open Go.RowKit
set_option maxRecDepth 100000

def PlusOk (n : Nat) : Prop := ∀ (a b : Tp.Ty) (w : World), Tp.sz a + Tp.sz b ≤ n → (Tp.enc a).length ≤ 64 → (Tp.enc b).length ≤ 64 →
  Calls Try.prog 7 #[.string (S (Tp.enc a)), .string (S (Tp.enc b))] w fun e w' => e = .returned (.bool (Tp.pls a b)) ∧ Below w.heap.size w w'
def MinusOk (n : Nat) : Prop := ∀ (a b : Tp.Ty) (w : World), Tp.sz a + Tp.sz b ≤ n → (Tp.enc a).length ≤ 64 → (Tp.enc b).length ≤ 64 →
  Calls Try.prog 8 #[.string (S (Tp.enc a)), .string (S (Tp.enc b))] w fun e w' => e = .returned (.bool (Tp.mns a b)) ∧ Below w.heap.size w w'

/-- The parts of a type, by their numbers. -/
def Prt (s : ByteArray) (ps : Int → ByteArray) (n : Int) : Prop := ∀ (i : Int) (w : World), 0 ≤ i ∧ i < n → Calls Try.prog 17 #[.string s, .int .i64 i] w fun e w' => e = .returned (.string (ps i)) ∧ w' = w
theorem prt1 {t k : Tp.Ty} (h : (Tp.enc t).length ≤ 64) (hk : Tp.kids t = [k]) : ∃ ps, Prt (S (Tp.enc t)) ps 1 ∧ ps 0 = S (Tp.enc k) := by
  have e : Tp.enc t = Tp.hd t :: (Tp.enc k ++ []) := by rw [Tp.enc_eq t, hk]; simp [Tp.encs]
  refine ⟨fun _ => S (Tp.enc k), fun i w hi => ?_, rfl⟩
  obtain rfl : i = 0 := by omega
  exact part0_any _ k (Tp.hd t) [] (by rw [e]) (by rw [← e]; exact h) w
theorem prt2 {t k m : Tp.Ty} (h : (Tp.enc t).length ≤ 64) (hk : Tp.kids t = [k, m]) : ∃ ps, Prt (S (Tp.enc t)) ps 2 ∧ ps 0 = S (Tp.enc k) ∧ ps 1 = S (Tp.enc m) := by
  have e : Tp.enc t = Tp.hd t :: (Tp.enc k ++ Tp.enc m) := by rw [Tp.enc_eq t, hk]; simp [Tp.encs]
  refine ⟨fun i => if i = 0 then S (Tp.enc k) else S (Tp.enc m), fun i w hi => ?_, rfl, rfl⟩
  by_cases h0 : i = 0
  · subst h0
    exact part0_any _ k (Tp.hd t) (Tp.enc m) (by rw [e]) (by rw [← e]; exact h) w
  · obtain rfl : i = 1 := by omega
    exact part1_any _ k m (Tp.hd t) (by rw [e]) (by rw [← e]; exact h) w
namespace Tp
theorem isq_hd (t : Ty) : (((hd t).toNat : Int) == 63) = isq t := by cases t <;> rfl
theorem pls_ne {a b : Ty} (hb : b ≠ .tq) (h : hd a ≠ hd b) : pls a b = false := by cases a <;> cases b <;> simp_all [pls, hd]
theorem pls_leaf {a b : Ty} (h : hd a = hd b) (hk : kids a = []) : pls a b = true := by cases a <;> cases b <;> simp_all [pls, hd, kids]
theorem mns_ne {a b : Ty} (h : hd a ≠ hd (up a b)) : mns a b = true := by
  by_cases ht : b = .tq
  · subst ht; exact absurd (hd_grT a).symm (by simpa [up] using h)
  · rw [up, if_neg ht] at h
    cases a <;> cases b <;> simp_all [hd, mns]
theorem mns_leaf {a b : Ty} (hk : kids a = []) : mns a b = true := by cases a <;> simp [kids] at hk <;> cases b <;> simp [mns]
theorem mns_l {k m b : Ty} (h : up (.tl k) b = .tl m) : mns (.tl k) b = mns k m := by cases b <;> simp [up, grT] at h <;> subst h <;> simp [mns]
theorem mns_x {k m b : Ty} (h : up (.tx k) b = .tx m) : mns (.tx k) b = (mns k m && pls m k) := by cases b <;> simp [up, grT] at h <;> subst h <;> simp [mns]
theorem mns_p {k k' m m' b : Ty} (h : up (.tp k k') b = .tp m m') : mns (.tp k k') b = (mns k m && mns k' m') := by cases b <;> simp [up, grT] at h <;> obtain ⟨rfl, rfl⟩ := h <;> simp [mns]
theorem mns_f {k k' m m' b : Ty} (h : up (.tf k k') b = .tf m m') : mns (.tf k k') b = (pls m k && mns k' m') := by cases b <;> simp [up, grT] at h <;> obtain ⟨rfl, rfl⟩ := h <;> simp [mns]
end Tp

set_option maxHeartbeats 4000000 in
theorem plus_step (n : Nat) (ihp : ∀ m, m < n → PlusOk m) (ihm : ∀ m, m < n → MinusOk m) : PlusOk n := by
  intro a b w hn ha hb
  obtain ⟨hpa, hia⟩ := S_head a
  have hia' := hia hpa
  have hpa' : (0 : Int) < ((S (Tp.enc a)).size : Int) := by omega
  clear hia
  obtain ⟨hpb, hib⟩ := S_head b
  have hib' := hib hpb
  have hpb' : (0 : Int) < ((S (Tp.enc b)).size : Int) := by omega
  clear hib
  generalize hsa : S (Tp.enc a) = s at *
  generalize hsb : S (Tp.enc b) = u at *
  by_cases hbq : b = .tq
  · subst hbq
    have hib2 : (u[0]'hpb).toNat = 63 := hib'
    clear hib'
    go_enter Try.func7, Try.ntmps7
    go_wp2_with fail
    go_ret
    rw [Tp.pls_q]
    exact ⟨rfl, Below.refl _ _⟩
  · have hb63 : (((Tp.hd b).toNat : Int) == 63) = false := by rw [Tp.isq_hd]; simp [Tp.isq, hbq]
    go_enter Try.func7, Try.ntmps7
    go_upto_region 3 with fail
    go_cut [12] (fun s12 wx => s12 = .bool (((Tp.hd a).toNat : Int) != ((Tp.hd b).toNat : Int)) ∧ Below w.heap.size w wx)
    case first =>
      go_quiet (fail)
      go_wp2_with fail
      go_meet
      exact ⟨rfl, ⟨rfl, rfl, rfl, Nat.le_refl _, fun _ _ => rfl⟩⟩
    case rest =>
      obtain ⟨rfl, hB⟩ := hcut
      by_cases hh : Tp.hd a = Tp.hd b
      · have hd0 : (((Tp.hd a).toNat : Int) != ((Tp.hd b).toNat : Int)) = false := by rw [hh]; simp
        rw [hd0]
        clear hd0 hb63
        have hul := hb
        have ek := fun c (h : c ∈ Tp.kids b) => Nat.le_of_lt (Tp.sz_kid h)
        have ea := fun c (h : c ∈ Tp.kids a) => Tp.sz_kid h
        have hzb : Tp.sz b ≤ 64 := hb
        have hza : Tp.sz a ≤ 64 := ha
        have HF : Aside (Tp.kids a = [] → Tp.pls a b = true) := fun hk => Tp.pls_leaf hh hk
        cases a with
        | ti =>
          have hia2 : (s[0]'hpa).toNat = 105 := hia'
          have HX : Aside (_ = _) := HF.out rfl
          clear hia' hh ek ea ihp ihm
          go_wp2_with fail
          go_ret
          rw [HX.out]
          exact ⟨rfl, hB⟩
        | tb =>
          have hia2 : (s[0]'hpa).toNat = 98 := hia'
          have HX : Aside (_ = _) := HF.out rfl
          clear hia' hh ek ea ihp ihm
          go_wp2_with fail
          go_ret
          rw [HX.out]
          exact ⟨rfl, hB⟩
        | tt =>
          have hia2 : (s[0]'hpa).toNat = 116 := hia'
          have HX : Aside (_ = _) := HF.out rfl
          clear hia' hh ek ea ihp ihm
          go_wp2_with fail
          go_ret
          rw [HX.out]
          exact ⟨rfl, hB⟩
        | tq =>
          have hia2 : (s[0]'hpa).toNat = 63 := hia'
          have HX : Aside (_ = _) := HF.out rfl
          clear hia' hh ek ea ihp ihm
          go_wp2_with fail
          go_ret
          rw [HX.out]
          exact ⟨rfl, hB⟩
        | tl k1 =>
          obtain ⟨m1, rfl⟩ : ∃ m1, b = .tl m1 := by cases b <;> simp [Tp.hd] at hh ⊢
          have hia2 : (s[0]'hpa).toNat = 108 := hia'
          obtain ⟨p1, hP1, q10⟩ := prt1 (t := .tl k1) ha rfl
          obtain ⟨p2, hP2, q20⟩ := prt1 (t := .tl m1) hul rfl
          have ek1 := ea k1 (by simp [Tp.kids])
          have em1 := ek m1 (by simp [Tp.kids])
          have c0 := fun w => ihp (Tp.sz k1 + Tp.sz m1) (by omega) k1 m1 w (Nat.le_refl _) (by unfold Tp.sz at *; omega) (by unfold Tp.sz at *; omega)
          have HX : Aside (Tp.pls (.tl k1) (.tl m1) = Tp.pls k1 m1) := by show _ = _; simp only [Tp.pls]
          rw [hsa] at hP1
          rw [hsb] at hP2
          generalize S (Tp.enc k1) = s1 at *
          generalize S (Tp.enc m1) = t1 at *
          clear hia' hh ek ea ihp ihm HF ek1 em1 hn ha hb hul hza hzb
          go_wp2_with (first | (go_at_call_of 17 s; refine (hP1 _ _ (by decide)).mono ?_; rintro e w' ⟨rfl, hw'⟩; replace hw' := hw'.symm; subst hw'; simp only [q10]) | (go_at_call_of 17 u; refine (hP2 _ _ (by decide)).mono ?_; rintro e w' ⟨rfl, hw'⟩; replace hw' := hw'.symm; subst hw'; simp only [q20]) | (go_at_call_of 7 s1; refine (c0 _).mono ?_; rintro e w4 ⟨rfl, B0⟩))
          go_ret
          rw [HX.out]
          exact ⟨rfl, hB.trans (B0.mono hB.size)⟩
        | tx k1 =>
          obtain ⟨m1, rfl⟩ : ∃ m1, b = .tx m1 := by cases b <;> simp [Tp.hd] at hh ⊢
          have hia2 : (s[0]'hpa).toNat = 120 := hia'
          obtain ⟨p1, hP1, q10⟩ := prt1 (t := .tx k1) ha rfl
          obtain ⟨p2, hP2, q20⟩ := prt1 (t := .tx m1) hul rfl
          have ek1 := ea k1 (by simp [Tp.kids])
          have em1 := ek m1 (by simp [Tp.kids])
          have c0 := fun w => ihp (Tp.sz k1 + Tp.sz m1) (by omega) k1 m1 w (Nat.le_refl _) (by unfold Tp.sz at *; omega) (by unfold Tp.sz at *; omega)
          have c1 := fun w => ihm (Tp.sz m1 + Tp.sz k1) (by omega) m1 k1 w (Nat.le_refl _) (by unfold Tp.sz at *; omega) (by unfold Tp.sz at *; omega)
          have HX : Aside (Tp.pls (.tx k1) (.tx m1) = (Tp.pls k1 m1 && Tp.mns m1 k1)) := by show _ = _; simp only [Tp.pls]
          rw [hsa] at hP1
          rw [hsb] at hP2
          generalize S (Tp.enc k1) = s1 at *
          generalize S (Tp.enc m1) = t1 at *
          clear hia' hh ek ea ihp ihm HF ek1 em1 hn ha hb hul hza hzb
          cases hv0 : Tp.pls k1 m1 with
          | true =>
            rw [hv0] at c0
            rw [hv0] at HX
            clear hv0
            go_wp2_with (first | (go_at_call_of 17 s; refine (hP1 _ _ (by decide)).mono ?_; rintro e w' ⟨rfl, hw'⟩; replace hw' := hw'.symm; subst hw'; simp only [q10]) | (go_at_call_of 17 u; refine (hP2 _ _ (by decide)).mono ?_; rintro e w' ⟨rfl, hw'⟩; replace hw' := hw'.symm; subst hw'; simp only [q20]) | (go_at_call_of 7 s1; refine (c0 _).mono ?_; rintro e w4 ⟨rfl, B0⟩) | (go_at_call_of 8 t1; refine (c1 _).mono ?_; rintro e w5 ⟨rfl, B1⟩))
            go_ret
            rw [HX.out]
            exact ⟨rfl, (hB.trans (B0.mono hB.size)).trans (B1.mono (Nat.le_trans hB.size B0.size))⟩
          | false =>
            rw [hv0] at c0
            rw [hv0] at HX
            clear hv0
            go_wp2_with (first | (go_at_call_of 17 s; refine (hP1 _ _ (by decide)).mono ?_; rintro e w' ⟨rfl, hw'⟩; replace hw' := hw'.symm; subst hw'; simp only [q10]) | (go_at_call_of 17 u; refine (hP2 _ _ (by decide)).mono ?_; rintro e w' ⟨rfl, hw'⟩; replace hw' := hw'.symm; subst hw'; simp only [q20]) | (go_at_call_of 7 s1; refine (c0 _).mono ?_; rintro e w4 ⟨rfl, B0⟩))
            go_ret
            rw [HX.out]
            exact ⟨rfl, hB.trans (B0.mono hB.size)⟩
        | tp k1 k2 =>
          obtain ⟨m1, m2, rfl⟩ : ∃ m1 m2, b = .tp m1 m2 := by cases b <;> simp [Tp.hd] at hh ⊢
          have hia2 : (s[0]'hpa).toNat = 44 := hia'
          obtain ⟨p1, hP1, q10, q11⟩ := prt2 (t := .tp k1 k2) ha rfl
          obtain ⟨p2, hP2, q20, q21⟩ := prt2 (t := .tp m1 m2) hul rfl
          have ek1 := ea k1 (by simp [Tp.kids])
          have ek2 := ea k2 (by simp [Tp.kids])
          have em1 := ek m1 (by simp [Tp.kids])
          have em2 := ek m2 (by simp [Tp.kids])
          have c0 := fun w => ihp (Tp.sz k1 + Tp.sz m1) (by omega) k1 m1 w (Nat.le_refl _) (by unfold Tp.sz at *; omega) (by unfold Tp.sz at *; omega)
          have c1 := fun w => ihp (Tp.sz k2 + Tp.sz m2) (by omega) k2 m2 w (Nat.le_refl _) (by unfold Tp.sz at *; omega) (by unfold Tp.sz at *; omega)
          have HX : Aside (Tp.pls (.tp k1 k2) (.tp m1 m2) = (Tp.pls k1 m1 && Tp.pls k2 m2)) := by show _ = _; simp only [Tp.pls]
          rw [hsa] at hP1
          rw [hsb] at hP2
          generalize S (Tp.enc k1) = s1 at *
          generalize S (Tp.enc k2) = s2 at *
          generalize S (Tp.enc m1) = t1 at *
          generalize S (Tp.enc m2) = t2 at *
          clear hia' hh ek ea ihp ihm HF ek1 ek2 em1 em2 hn ha hb hul hza hzb
          cases hv0 : Tp.pls k1 m1 with
          | true =>
            rw [hv0] at c0
            rw [hv0] at HX
            clear hv0
            go_wp2_with (first | (go_at_call_of 17 s; refine (hP1 _ _ (by decide)).mono ?_; rintro e w' ⟨rfl, hw'⟩; replace hw' := hw'.symm; subst hw'; simp only [q10, q11]) | (go_at_call_of 17 u; refine (hP2 _ _ (by decide)).mono ?_; rintro e w' ⟨rfl, hw'⟩; replace hw' := hw'.symm; subst hw'; simp only [q20, q21]) | (go_at_call_of 7 s1; refine (c0 _).mono ?_; rintro e w4 ⟨rfl, B0⟩) | (go_at_call_of 7 s2; refine (c1 _).mono ?_; rintro e w5 ⟨rfl, B1⟩))
            go_ret
            rw [HX.out]
            exact ⟨rfl, (hB.trans (B0.mono hB.size)).trans (B1.mono (Nat.le_trans hB.size B0.size))⟩
          | false =>
            rw [hv0] at c0
            rw [hv0] at HX
            clear hv0
            go_wp2_with (first | (go_at_call_of 17 s; refine (hP1 _ _ (by decide)).mono ?_; rintro e w' ⟨rfl, hw'⟩; replace hw' := hw'.symm; subst hw'; simp only [q10]) | (go_at_call_of 17 u; refine (hP2 _ _ (by decide)).mono ?_; rintro e w' ⟨rfl, hw'⟩; replace hw' := hw'.symm; subst hw'; simp only [q20]) | (go_at_call_of 7 s1; refine (c0 _).mono ?_; rintro e w4 ⟨rfl, B0⟩))
            go_ret
            rw [HX.out]
            exact ⟨rfl, hB.trans (B0.mono hB.size)⟩
        | tf k1 k2 =>
          obtain ⟨m1, m2, rfl⟩ : ∃ m1 m2, b = .tf m1 m2 := by cases b <;> simp [Tp.hd] at hh ⊢
          have hia2 : (s[0]'hpa).toNat = 62 := hia'
          obtain ⟨p1, hP1, q10, q11⟩ := prt2 (t := .tf k1 k2) ha rfl
          obtain ⟨p2, hP2, q20, q21⟩ := prt2 (t := .tf m1 m2) hul rfl
          have ek1 := ea k1 (by simp [Tp.kids])
          have ek2 := ea k2 (by simp [Tp.kids])
          have em1 := ek m1 (by simp [Tp.kids])
          have em2 := ek m2 (by simp [Tp.kids])
          have c0 := fun w => ihm (Tp.sz m1 + Tp.sz k1) (by omega) m1 k1 w (Nat.le_refl _) (by unfold Tp.sz at *; omega) (by unfold Tp.sz at *; omega)
          have c1 := fun w => ihp (Tp.sz k2 + Tp.sz m2) (by omega) k2 m2 w (Nat.le_refl _) (by unfold Tp.sz at *; omega) (by unfold Tp.sz at *; omega)
          have HX : Aside (Tp.pls (.tf k1 k2) (.tf m1 m2) = (Tp.mns m1 k1 && Tp.pls k2 m2)) := by show _ = _; simp only [Tp.pls]
          rw [hsa] at hP1
          rw [hsb] at hP2
          generalize S (Tp.enc k1) = s1 at *
          generalize S (Tp.enc k2) = s2 at *
          generalize S (Tp.enc m1) = t1 at *
          generalize S (Tp.enc m2) = t2 at *
          clear hia' hh ek ea ihp ihm HF ek1 ek2 em1 em2 hn ha hb hul hza hzb
          cases hv0 : Tp.mns m1 k1 with
          | true =>
            rw [hv0] at c0
            rw [hv0] at HX
            clear hv0
            go_wp2_with (first | (go_at_call_of 17 s; refine (hP1 _ _ (by decide)).mono ?_; rintro e w' ⟨rfl, hw'⟩; replace hw' := hw'.symm; subst hw'; simp only [q10, q11]) | (go_at_call_of 17 u; refine (hP2 _ _ (by decide)).mono ?_; rintro e w' ⟨rfl, hw'⟩; replace hw' := hw'.symm; subst hw'; simp only [q20, q21]) | (go_at_call_of 8 t1; refine (c0 _).mono ?_; rintro e w4 ⟨rfl, B0⟩) | (go_at_call_of 7 s2; refine (c1 _).mono ?_; rintro e w5 ⟨rfl, B1⟩))
            go_ret
            rw [HX.out]
            exact ⟨rfl, (hB.trans (B0.mono hB.size)).trans (B1.mono (Nat.le_trans hB.size B0.size))⟩
          | false =>
            rw [hv0] at c0
            rw [hv0] at HX
            clear hv0
            go_wp2_with (first | (go_at_call_of 17 s; refine (hP1 _ _ (by decide)).mono ?_; rintro e w' ⟨rfl, hw'⟩; replace hw' := hw'.symm; subst hw'; simp only [q10]) | (go_at_call_of 17 u; refine (hP2 _ _ (by decide)).mono ?_; rintro e w' ⟨rfl, hw'⟩; replace hw' := hw'.symm; subst hw'; simp only [q20]) | (go_at_call_of 8 t1; refine (c0 _).mono ?_; rintro e w4 ⟨rfl, B0⟩))
            go_ret
            rw [HX.out]
            exact ⟨rfl, hB.trans (B0.mono hB.size)⟩
      · have hd0 : (((Tp.hd a).toNat : Int) != ((Tp.hd b).toNat : Int)) = true := by
          simp only [bne_iff_ne, ne_eq]
          intro e
          exact hh (UInt8.toNat_inj.1 (by omega))
        rw [hd0]
        have HX := Tp.pls_ne hbq hh
        clear hd0
        go_wp2_with fail
        go_ret
        rw [HX]
        exact ⟨rfl, hB⟩

set_option maxHeartbeats 4000000 in
theorem minus_step (n : Nat) (ihp : ∀ m, m < n → PlusOk m) (ihm : ∀ m, m < n → MinusOk m) : MinusOk n := by
  intro a b w hn ha hb
  obtain ⟨hpa, hia⟩ := S_head a
  have hia' := hia hpa
  have hpa' : (0 : Int) < ((S (Tp.enc a)).size : Int) := by omega
  clear hia
  have hub := Tp.up_len ha hb
  obtain ⟨hpb, hib⟩ := S_head b
  have hib' := hib hpb
  have hpb' : (0 : Int) < ((S (Tp.enc b)).size : Int) := by omega
  clear hib
  obtain ⟨hpu, hiu⟩ := S_head (Tp.up a b)
  have hiu' := hiu hpu
  have hpu' : (0 : Int) < ((S (Tp.enc (Tp.up a b))).size : Int) := by omega
  clear hiu
  have HU : Aside (S (Tp.enc (Tp.up a b)) = if b = .tq then S (Tp.enc (Tp.grT a)) else S (Tp.enc b)) := by
    show _ = _
    unfold Tp.up
    split <;> rfl
  have hgr := rground_any a
  generalize hsa : S (Tp.enc a) = s at *
  generalize hsb : S (Tp.enc b) = t at *
  generalize hsu : S (Tp.enc (Tp.up a b)) = u at *
  generalize S (Tp.enc (Tp.grT a)) = g at *
  by_cases haq : a = .tq
  · subst haq
    have hia2 : (s[0]'hpa).toNat = 63 := hia'
    clear hia' hiu' hib'
    go_enter Try.func8, Try.ntmps8
    go_wp2_with fail
    go_ret
    rw [Tp.q_mns]
    exact ⟨rfl, Below.refl _ _⟩
  · have ha63 : (((Tp.hd a).toNat : Int) == 63) = false := by rw [Tp.isq_hd]; simp [Tp.isq, haq]
    go_enter Try.func8, Try.ntmps8
    go_upto_if 10 with fail
    go_cut [1] (fun s1 wx => s1 = .string u ∧ Below w.heap.size w wx)
    case first =>
      by_cases hbq : b = .tq
      · have hb63 : (((Tp.hd b).toNat : Int) == 63) = true := by rw [Tp.isq_hd]; simp [Tp.isq, hbq]
        have HU' : Aside (u = g) := by show _ = _; rw [HU.out, if_pos hbq]
        go_wp2_with (go_at_call 15; refine (hgr _).mono ?_; rintro e w2 ⟨rfl, hB2⟩)
        go_meet
        exact ⟨by rw [HU'.out], hB2⟩
      · have hb63 : (((Tp.hd b).toNat : Int) == 63) = false := by rw [Tp.isq_hd]; simp [Tp.isq, hbq]
        have HU' : Aside (u = t) := by show _ = _; rw [HU.out, if_neg hbq]
        go_wp2_with fail
        go_meet
        exact ⟨by rw [HU'.out], Below.refl _ _⟩
    case rest =>
      obtain ⟨rfl, hB⟩ := hcut
      clear ha63 hgr HU hib' hpb' hpb
      go_upto_region 5 with fail
      go_cut [18] (fun s18 wx => s18 = .bool (((Tp.hd a).toNat : Int) != ((Tp.hd (Tp.up a b)).toNat : Int)) ∧ Below w.heap.size w wx)
      case first =>
        go_quiet (fail)
        go_wp2_with fail
        go_meet
        exact ⟨rfl, ⟨hB.os, hB.tape, hB.output, hB.size, hB.block⟩⟩
      case rest =>
        clear hB
        obtain ⟨rfl, hB⟩ := hcut
        by_cases hh : Tp.hd a = Tp.hd (Tp.up a b)
        · have hd0 : (((Tp.hd a).toNat : Int) != ((Tp.hd (Tp.up a b)).toNat : Int)) = false := by rw [hh]; simp
          rw [hd0]
          clear hd0
          have hul := hub
          have ek := fun c (h : c ∈ Tp.kids (Tp.up a b)) => Tp.up_kid h
          have ea := fun c (h : c ∈ Tp.kids a) => Tp.sz_kid h
          have hzb : Tp.sz b ≤ 64 := hb
          have hza : Tp.sz a ≤ 64 := ha
          have HF : Aside (Tp.kids a = [] → Tp.mns a b = true) := fun hk => Tp.mns_leaf hk
          generalize hup : Tp.up a b = ub at *
          cases a with
          | ti =>
            have hia2 : (s[0]'hpa).toNat = 105 := hia'
            have HX : Aside (_ = _) := HF.out rfl
            clear hia' hh ek ea ihp ihm
            go_wp2_with fail
            go_ret
            rw [HX.out]
            exact ⟨rfl, hB⟩
          | tb =>
            have hia2 : (s[0]'hpa).toNat = 98 := hia'
            have HX : Aside (_ = _) := HF.out rfl
            clear hia' hh ek ea ihp ihm
            go_wp2_with fail
            go_ret
            rw [HX.out]
            exact ⟨rfl, hB⟩
          | tt =>
            have hia2 : (s[0]'hpa).toNat = 116 := hia'
            have HX : Aside (_ = _) := HF.out rfl
            clear hia' hh ek ea ihp ihm
            go_wp2_with fail
            go_ret
            rw [HX.out]
            exact ⟨rfl, hB⟩
          | tq =>
            have hia2 : (s[0]'hpa).toNat = 63 := hia'
            have HX : Aside (_ = _) := HF.out rfl
            clear hia' hh ek ea ihp ihm
            go_wp2_with fail
            go_ret
            rw [HX.out]
            exact ⟨rfl, hB⟩
          | tl k1 =>
            obtain ⟨m1, rfl⟩ : ∃ m1, ub = .tl m1 := by cases ub <;> simp [Tp.hd] at hh ⊢
            have hia2 : (s[0]'hpa).toNat = 108 := hia'
            obtain ⟨p1, hP1, q10⟩ := prt1 (t := .tl k1) ha rfl
            obtain ⟨p2, hP2, q20⟩ := prt1 (t := .tl m1) hul rfl
            have ek1 := ea k1 (by simp [Tp.kids])
            have em1 := ek m1 (by simp [Tp.kids])
            have c0 := fun w => ihm (Tp.sz k1 + Tp.sz m1) (by omega) k1 m1 w (Nat.le_refl _) (by unfold Tp.sz at *; omega) (by unfold Tp.sz at *; omega)
            have HX := Tp.mns_l hup
            have HX : Aside (_ = _) := HX
            rw [hsa] at hP1
            rw [hsu] at hP2
            generalize S (Tp.enc k1) = s1 at *
            generalize S (Tp.enc m1) = t1 at *
            clear hia' hh ek ea ihp ihm HF ek1 em1 hn ha hb hul hza hzb hub
            go_wp2_with (first | (go_at_call_of 17 s; refine (hP1 _ _ (by decide)).mono ?_; rintro e w' ⟨rfl, hw'⟩; replace hw' := hw'.symm; subst hw'; simp only [q10]) | (go_at_call_of 17 u; refine (hP2 _ _ (by decide)).mono ?_; rintro e w' ⟨rfl, hw'⟩; replace hw' := hw'.symm; subst hw'; simp only [q20]) | (go_at_call_of 8 s1; refine (c0 _).mono ?_; rintro e w4 ⟨rfl, B0⟩))
            go_ret
            rw [HX.out]
            exact ⟨rfl, hB.trans (B0.mono hB.size)⟩
          | tx k1 =>
            obtain ⟨m1, rfl⟩ : ∃ m1, ub = .tx m1 := by cases ub <;> simp [Tp.hd] at hh ⊢
            have hia2 : (s[0]'hpa).toNat = 120 := hia'
            obtain ⟨p1, hP1, q10⟩ := prt1 (t := .tx k1) ha rfl
            obtain ⟨p2, hP2, q20⟩ := prt1 (t := .tx m1) hul rfl
            have ek1 := ea k1 (by simp [Tp.kids])
            have em1 := ek m1 (by simp [Tp.kids])
            have c0 := fun w => ihm (Tp.sz k1 + Tp.sz m1) (by omega) k1 m1 w (Nat.le_refl _) (by unfold Tp.sz at *; omega) (by unfold Tp.sz at *; omega)
            have c1 := fun w => ihp (Tp.sz m1 + Tp.sz k1) (by omega) m1 k1 w (Nat.le_refl _) (by unfold Tp.sz at *; omega) (by unfold Tp.sz at *; omega)
            have HX := Tp.mns_x hup
            have HX : Aside (_ = _) := HX
            rw [hsa] at hP1
            rw [hsu] at hP2
            generalize S (Tp.enc k1) = s1 at *
            generalize S (Tp.enc m1) = t1 at *
            clear hia' hh ek ea ihp ihm HF ek1 em1 hn ha hb hul hza hzb hub
            cases hv0 : Tp.mns k1 m1 with
            | true =>
              rw [hv0] at c0
              rw [hv0] at HX
              clear hv0
              go_wp2_with (first | (go_at_call_of 17 s; refine (hP1 _ _ (by decide)).mono ?_; rintro e w' ⟨rfl, hw'⟩; replace hw' := hw'.symm; subst hw'; simp only [q10]) | (go_at_call_of 17 u; refine (hP2 _ _ (by decide)).mono ?_; rintro e w' ⟨rfl, hw'⟩; replace hw' := hw'.symm; subst hw'; simp only [q20]) | (go_at_call_of 8 s1; refine (c0 _).mono ?_; rintro e w4 ⟨rfl, B0⟩) | (go_at_call_of 7 t1; refine (c1 _).mono ?_; rintro e w5 ⟨rfl, B1⟩))
              go_ret
              rw [HX.out]
              exact ⟨rfl, (hB.trans (B0.mono hB.size)).trans (B1.mono (Nat.le_trans hB.size B0.size))⟩
            | false =>
              rw [hv0] at c0
              rw [hv0] at HX
              clear hv0
              go_wp2_with (first | (go_at_call_of 17 s; refine (hP1 _ _ (by decide)).mono ?_; rintro e w' ⟨rfl, hw'⟩; replace hw' := hw'.symm; subst hw'; simp only [q10]) | (go_at_call_of 17 u; refine (hP2 _ _ (by decide)).mono ?_; rintro e w' ⟨rfl, hw'⟩; replace hw' := hw'.symm; subst hw'; simp only [q20]) | (go_at_call_of 8 s1; refine (c0 _).mono ?_; rintro e w4 ⟨rfl, B0⟩))
              go_ret
              rw [HX.out]
              exact ⟨rfl, hB.trans (B0.mono hB.size)⟩
          | tp k1 k2 =>
            obtain ⟨m1, m2, rfl⟩ : ∃ m1 m2, ub = .tp m1 m2 := by cases ub <;> simp [Tp.hd] at hh ⊢
            have hia2 : (s[0]'hpa).toNat = 44 := hia'
            obtain ⟨p1, hP1, q10, q11⟩ := prt2 (t := .tp k1 k2) ha rfl
            obtain ⟨p2, hP2, q20, q21⟩ := prt2 (t := .tp m1 m2) hul rfl
            have ek1 := ea k1 (by simp [Tp.kids])
            have ek2 := ea k2 (by simp [Tp.kids])
            have em1 := ek m1 (by simp [Tp.kids])
            have em2 := ek m2 (by simp [Tp.kids])
            have c0 := fun w => ihm (Tp.sz k1 + Tp.sz m1) (by omega) k1 m1 w (Nat.le_refl _) (by unfold Tp.sz at *; omega) (by unfold Tp.sz at *; omega)
            have c1 := fun w => ihm (Tp.sz k2 + Tp.sz m2) (by omega) k2 m2 w (Nat.le_refl _) (by unfold Tp.sz at *; omega) (by unfold Tp.sz at *; omega)
            have HX := Tp.mns_p hup
            have HX : Aside (_ = _) := HX
            rw [hsa] at hP1
            rw [hsu] at hP2
            generalize S (Tp.enc k1) = s1 at *
            generalize S (Tp.enc k2) = s2 at *
            generalize S (Tp.enc m1) = t1 at *
            generalize S (Tp.enc m2) = t2 at *
            clear hia' hh ek ea ihp ihm HF ek1 ek2 em1 em2 hn ha hb hul hza hzb hub
            cases hv0 : Tp.mns k1 m1 with
            | true =>
              rw [hv0] at c0
              rw [hv0] at HX
              clear hv0
              go_wp2_with (first | (go_at_call_of 17 s; refine (hP1 _ _ (by decide)).mono ?_; rintro e w' ⟨rfl, hw'⟩; replace hw' := hw'.symm; subst hw'; simp only [q10, q11]) | (go_at_call_of 17 u; refine (hP2 _ _ (by decide)).mono ?_; rintro e w' ⟨rfl, hw'⟩; replace hw' := hw'.symm; subst hw'; simp only [q20, q21]) | (go_at_call_of 8 s1; refine (c0 _).mono ?_; rintro e w4 ⟨rfl, B0⟩) | (go_at_call_of 8 s2; refine (c1 _).mono ?_; rintro e w5 ⟨rfl, B1⟩))
              go_ret
              rw [HX.out]
              exact ⟨rfl, (hB.trans (B0.mono hB.size)).trans (B1.mono (Nat.le_trans hB.size B0.size))⟩
            | false =>
              rw [hv0] at c0
              rw [hv0] at HX
              clear hv0
              go_wp2_with (first | (go_at_call_of 17 s; refine (hP1 _ _ (by decide)).mono ?_; rintro e w' ⟨rfl, hw'⟩; replace hw' := hw'.symm; subst hw'; simp only [q10]) | (go_at_call_of 17 u; refine (hP2 _ _ (by decide)).mono ?_; rintro e w' ⟨rfl, hw'⟩; replace hw' := hw'.symm; subst hw'; simp only [q20]) | (go_at_call_of 8 s1; refine (c0 _).mono ?_; rintro e w4 ⟨rfl, B0⟩))
              go_ret
              rw [HX.out]
              exact ⟨rfl, hB.trans (B0.mono hB.size)⟩
          | tf k1 k2 =>
            obtain ⟨m1, m2, rfl⟩ : ∃ m1 m2, ub = .tf m1 m2 := by cases ub <;> simp [Tp.hd] at hh ⊢
            have hia2 : (s[0]'hpa).toNat = 62 := hia'
            obtain ⟨p1, hP1, q10, q11⟩ := prt2 (t := .tf k1 k2) ha rfl
            obtain ⟨p2, hP2, q20, q21⟩ := prt2 (t := .tf m1 m2) hul rfl
            have ek1 := ea k1 (by simp [Tp.kids])
            have ek2 := ea k2 (by simp [Tp.kids])
            have em1 := ek m1 (by simp [Tp.kids])
            have em2 := ek m2 (by simp [Tp.kids])
            have c0 := fun w => ihp (Tp.sz m1 + Tp.sz k1) (by omega) m1 k1 w (Nat.le_refl _) (by unfold Tp.sz at *; omega) (by unfold Tp.sz at *; omega)
            have c1 := fun w => ihm (Tp.sz k2 + Tp.sz m2) (by omega) k2 m2 w (Nat.le_refl _) (by unfold Tp.sz at *; omega) (by unfold Tp.sz at *; omega)
            have HX := Tp.mns_f hup
            have HX : Aside (_ = _) := HX
            rw [hsa] at hP1
            rw [hsu] at hP2
            generalize S (Tp.enc k1) = s1 at *
            generalize S (Tp.enc k2) = s2 at *
            generalize S (Tp.enc m1) = t1 at *
            generalize S (Tp.enc m2) = t2 at *
            clear hia' hh ek ea ihp ihm HF ek1 ek2 em1 em2 hn ha hb hul hza hzb hub
            cases hv0 : Tp.pls m1 k1 with
            | true =>
              rw [hv0] at c0
              rw [hv0] at HX
              clear hv0
              go_wp2_with (first | (go_at_call_of 17 s; refine (hP1 _ _ (by decide)).mono ?_; rintro e w' ⟨rfl, hw'⟩; replace hw' := hw'.symm; subst hw'; simp only [q10, q11]) | (go_at_call_of 17 u; refine (hP2 _ _ (by decide)).mono ?_; rintro e w' ⟨rfl, hw'⟩; replace hw' := hw'.symm; subst hw'; simp only [q20, q21]) | (go_at_call_of 7 t1; refine (c0 _).mono ?_; rintro e w4 ⟨rfl, B0⟩) | (go_at_call_of 8 s2; refine (c1 _).mono ?_; rintro e w5 ⟨rfl, B1⟩))
              go_ret
              rw [HX.out]
              exact ⟨rfl, (hB.trans (B0.mono hB.size)).trans (B1.mono (Nat.le_trans hB.size B0.size))⟩
            | false =>
              rw [hv0] at c0
              rw [hv0] at HX
              clear hv0
              go_wp2_with (first | (go_at_call_of 17 s; refine (hP1 _ _ (by decide)).mono ?_; rintro e w' ⟨rfl, hw'⟩; replace hw' := hw'.symm; subst hw'; simp only [q10]) | (go_at_call_of 17 u; refine (hP2 _ _ (by decide)).mono ?_; rintro e w' ⟨rfl, hw'⟩; replace hw' := hw'.symm; subst hw'; simp only [q20]) | (go_at_call_of 7 t1; refine (c0 _).mono ?_; rintro e w4 ⟨rfl, B0⟩))
              go_ret
              rw [HX.out]
              exact ⟨rfl, hB.trans (B0.mono hB.size)⟩
        · have hd0 : (((Tp.hd a).toNat : Int) != ((Tp.hd (Tp.up a b)).toNat : Int)) = true := by
            simp only [bne_iff_ne, ne_eq]
            intro e
            exact hh (UInt8.toNat_inj.1 (by omega))
          rw [hd0]
          have HX := Tp.mns_ne hh
          clear hd0
          go_wp2_with fail
          go_ret
          rw [HX]
          exact ⟨rfl, hB⟩

theorem both_ok (n : Nat) : PlusOk n ∧ MinusOk n := by
  induction n using Nat.strongRecOn with
  | _ n ih => exact ⟨plus_step n (fun m h => (ih m h).1) (fun m h => (ih m h).2), minus_step n (fun m h => (ih m h).1) (fun m h => (ih m h).2)⟩
theorem rplus_any (a b : Tp.Ty) (w : World) (ha : (Tp.enc a).length ≤ 64) (hb : (Tp.enc b).length ≤ 64) : Calls Try.prog 7 #[.string (S (Tp.enc a)), .string (S (Tp.enc b))] w fun e w' => e = .returned (.bool (Tp.pls a b)) ∧ Below w.heap.size w w' := (both_ok (Tp.sz a + Tp.sz b)).1 a b w (Nat.le_refl _) ha hb
theorem rminus_any (a b : Tp.Ty) (w : World) (ha : (Tp.enc a).length ≤ 64) (hb : (Tp.enc b).length ≤ 64) : Calls Try.prog 8 #[.string (S (Tp.enc a)), .string (S (Tp.enc b))] w fun e w' => e = .returned (.bool (Tp.mns a b)) ∧ Below w.heap.size w w' := (both_ok (Tp.sz a + Tp.sz b)).2 a b w (Nat.le_refl _) ha hb
end Go.Proofs.Ytcokgpmgknnihaa
