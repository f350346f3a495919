/- Package insert: cast of any kid, castEach, open. Package insert: casts. -/
import Derived.Test.YthdlfeejeboboaaGreatDoorUay
import Derived.Test.YthdlfeejeboboaaGreatDoorUaz
import Derived.Test.YthdlfeejeboboaaGreatDoorUbd
namespace Go.Proofs.YthdlfeejeboboaaGreatDoor
open Go.RowKit Go.Maps Ck
open T3.Tp (Ty enc cns met)
open Tr (T Nd nm flat flats)
set_option maxRecDepth 100000
set_option linter.unusedSimpArgs false
set_option linter.unusedVariables false
namespace In
structure Kd2 (l : List Nd) (ts : List Ty) (pl : List Nat) (tk : List Ty) (kx : List Nd) : Prop where
  len : tk.length = pl.length
  at' : ∀ (k p : Nat), pl[k]? = some p → ∃ y t, l[p]? = some y ∧ ts[p]? = some t ∧ tk[k]? = some t ∧ kx[k]? = some y
theorem Kd2.wish {l : List Nd} {ts : List Ty} {tk : List Ty} {kx : List Nd} {st : List PT × List Si} (h : Kd2 l ts (st.1.map PT.plc) tk kx) (x : Nd) {k : Nat} (hk : k < st.1.length) (T2 : Ty) (r : Int) : ∃ p y t, (st.1.map PT.plc)[k]? = some p ∧ l[p]? = some y ∧ ts[p]? = some t ∧ tk[k]? = some t ∧ In.wish x tk kx st (k, T2, r) = wsh x y t st (k, T2, r) := by
  obtain ⟨p, hp⟩ : ∃ p, (st.1.map PT.plc)[k]? = some p := ⟨_, List.getElem?_eq_getElem (by simpa using hk)⟩
  obtain ⟨y, t, h1, h2, h3, h4⟩ := h.at' k p hp
  exact ⟨p, y, t, hp, h1, h2, h3, wish_wsh (by rw [List.getD_eq_getElem?_getD, h3]; rfl) (by rw [List.getD_eq_getElem?_getD, h4]; rfl)⟩
structure Wk (st st' : List PT × List Si) (j : Nat) : Prop where
  plc : st'.1.map PT.plc = st.1.map PT.plc
  len : st'.1.length = st.1.length
  sites : st'.2.length ≤ st.2.length + j
  ah : ∀ m, AhB m st.1 → AhB (m + j) st'.1
theorem Wk.refl (st : List PT × List Si) : Wk st st 0 := ⟨rfl, rfl, Nat.le_refl _, fun _ h => h⟩
theorem Wk.trans {a b c : List PT × List Si} {i j : Nat} (h : Wk a b i) (k : Wk b c j) : Wk a c (i + j) := ⟨k.plc.trans h.plc, k.len.trans h.len, by have := h.sites; have := k.sites; omega, fun m hm => by rw [← Nat.add_assoc]; exact k.ah _ (h.ah m hm)⟩
theorem Wk.wsh (x y : Nd) (t : Ty) (st : List PT × List Si) (w : Nat × Ty × Int) : Wk st (In.wsh x y t st w) 1 := ⟨wsh_plc, wsh_len.1, wsh_len.2, fun m h => h.wsh⟩
theorem Wk.wish {l : List Nd} {ts : List Ty} {tk : List Ty} {kx : List Nd} {st : List PT × List Si} (h : Kd2 l ts (st.1.map PT.plc) tk kx) (x : Nd) {k : Nat} (hk : k < st.1.length) (T2 : Ty) (r : Int) : Wk st (In.wish x tk kx st (k, T2, r)) 1 := by
  obtain ⟨p, y, t, _, _, _, _, e⟩ := h.wish x hk T2 r
  rw [e]; exact Wk.wsh _ _ _ _ _
theorem Wk.each {l : List Nd} {ts : List Ty} {tk : List Ty} {kx : List Nd} {st : List PT × List Si} (h : Kd2 l ts (st.1.map PT.plc) tk kx) (x : Nd) (T2 : Ty) (r : Int) : ∀ j, j ≤ st.1.length → Wk st ((In.each j T2 r).foldl (In.wish x tk kx) st) j
  | 0, _ => Wk.refl st
  | j + 1, hj => by
    have hw := Wk.each h x T2 r j (by omega)
    have e : In.each (j + 1) T2 r = In.each j T2 r ++ [(j, T2, r)] := by unfold In.each; rw [List.range_succ, List.map_append]; rfl
    rw [e, List.foldl_append]
    refine hw.trans ?_
    exact Wk.wish (by rw [hw.plc]; exact h) x (by rw [hw.len]; omega) T2 r
end In

theorem cast_any (B ib fb i b at' kb mb lo hi m : Nat) (md : ByteArray) (nv tv va sv : Value) (l : List Nd) (ts : List Ty) (N : List (List UInt8)) (ah : List Nd) (bs : List Nat) (w : World) (st : List In.PT × List In.Si) (x : Nd) (tk : List Ty) (kx : List Nd) (hC : In.Cst B ib fb i b at' kb mb lo hi md nv tv va l ts N ah bs w st sv) (hK : In.Kd2 l ts (st.1.map In.PT.plc) tk kx) (hx : l[at']? = some x) (hl : l.length ≤ 100000) (k : Nat) (hk : k < st.1.length) (T2 : Ty) (r : Int) (hm : In.AhB m st.1) (hm2 : m ≤ 1000000) (hss : st.2.length ≤ 100000) :
    Calls Tryz.prog 121 #[.pointer (some ⟨ib, 0, none⟩), .pointer (some ⟨b, 0, none⟩), .int .i64 (k : Int), .string (S (enc T2)), .int .i64 r] w (In.CsEnd B ib fb i b at' kb mb lo hi md nv tv va l ts N ah bs w (In.wish x tk kx st (k, T2, r))) := by
  obtain ⟨p, y, t, h1, h2, h3, h4, e⟩ := hK.wish x hk T2 r
  rw [e]
  by_cases ht : t = T2
  · exact cast_same B ib fb i b at' kb mb lo hi k p m md nv tv va sv l ts N ah bs w st x y t T2 r hC h1 hx h2 h3 hm hm2 hl hss ht
  by_cases hr : r = 16
  · exact cast_as B ib fb i b at' kb mb lo hi k p m md nv tv va sv l ts N ah bs w st x y t T2 r hC h1 hx h2 h3 hm hm2 hl hss ht hr
  · exact cast_diff B ib fb i b at' kb mb lo hi k p m md nv tv va sv l ts N ah bs w st x y t T2 r hC h1 hx h2 h3 hm hm2 hl hss ht hr

set_option maxHeartbeats 4000000 in
theorem castEach_any (B ib fb i b at' kb mb lo hi m : Nat) (md : ByteArray) (nv tv va sv : Value) (l : List Nd) (ts : List Ty) (N : List (List UInt8)) (ah : List Nd) (bs : List Nat) (w : World) (st : List In.PT × List In.Si) (x : Nd) (tk : List Ty) (kx : List Nd) (hC : In.Cst B ib fb i b at' kb mb lo hi md nv tv va l ts N ah bs w st sv) (hK : In.Kd2 l ts (st.1.map In.PT.plc) tk kx) (hx : l[at']? = some x) (hl : l.length ≤ 100000) (T2 : Ty) (r : Int) (hm : In.AhB m st.1) (hm2 : m + st.1.length ≤ 1000000) (hss : st.2.length + st.1.length ≤ 100000) :
    Calls Tryz.prog 123 #[.pointer (some ⟨ib, 0, none⟩), .pointer (some ⟨b, 0, none⟩), .string (S (enc T2)), .int .i64 r] w (In.CsEnd B ib fb i b at' kb mb lo hi md nv tv va l ts N ah bs w ((In.each st.1.length T2 r).foldl (In.wish x tk kx) st)) := by
  obtain ⟨d0, d1, d2, d3, dz, -, -⟩ := hC.pn.cells
  have HW : Aside (∀ j, j ≤ st.1.length → In.Wk st ((In.each j T2 r).foldl (In.wish x tk kx) st) j) := In.Wk.each hK x T2 r
  have HCALL : Aside (∀ (j : Nat) (wr : World) (sv' : Value), j < st.1.length → In.Cst B ib fb i b at' kb mb lo hi md nv tv va l ts N ah bs wr ((In.each j T2 r).foldl (In.wish x tk kx) st) sv' → Calls Tryz.prog 121 #[.pointer (some ⟨ib, 0, none⟩), .pointer (some ⟨b, 0, none⟩), .int .i64 (j : Int), .string (S (enc T2)), .int .i64 r] wr (In.CsEnd B ib fb i b at' kb mb lo hi md nv tv va l ts N ah bs wr ((In.each (j + 1) T2 r).foldl (In.wish x tk kx) st))) := fun j wr sv' hj hC' => by
    have hw := HW.out j (by omega)
    have e : In.each (j + 1) T2 r = In.each j T2 r ++ [(j, T2, r)] := by unfold In.each; rw [List.range_succ, List.map_append]; rfl
    rw [e, List.foldl_append]
    have hs := hw.sites
    exact cast_any B ib fb i b at' kb mb lo hi (m + j) md nv tv va sv' l ts N ah bs wr _ x tk kx hC' (by rw [hw.plc]; exact hK) hx hl j (by rw [hw.len]; exact hj) T2 r (hw.ah m hm) (by omega) (by omega)
  have HC : Aside (In.Cst B ib fb i b at' kb mb lo hi md nv tv va l ts N ah bs w st sv) := hC
  have hn : st.1.length ≤ 100000 := by omega
  clear hC hK hm hx HW
  generalize hstn : st.1.length = n at *
  clear hstn
  generalize S (enc T2) = s2 at *
  go_enter Tryz.func123, Tryz.ntmps123
  go_wp2_with fail
  go_loopg [14] n (fun g tq wr => ∃ (j : Nat) (sv' : Value), j + g = n ∧ tq = .int .i64 (j : Int) ∧ In.Fy B ib lo hi w wr ∧ In.Cst B ib fb i b at' kb mb lo hi md nv tv va l ts N ah bs wr ((In.each j T2 r).foldl (In.wish x tk kx) st) sv')
  case atStart => exact ⟨0, sv, by omega, rfl, In.Fy.refl _ _ _ _ _, HC.out⟩
  case round =>
    obtain ⟨j, sv', hjg, rfl, hF, hC'⟩ := hrel
    clear d0 d1 d2 d3 dz
    by_cases hj : j < n
    · have hj' : (j : Int) < (n : Int) := by omega
      have hcall := HCALL.out j wr sv' hj hC'
      have HF : Aside (In.Fy B ib lo hi w wr) := hF
      clear hC' HC hF
      go_wp2_with fail
      refine hcall.mono ?_
      rintro e w2 ⟨rfl, hF2, sv2, hC2⟩
      go_wp2_with fail
      go_roundg (n - (j + 1))
      case measure => omega
      case rel => exact ⟨j + 1, sv2, by omega, by go_num, HF.out.trans hF2, hC2⟩
    · have hj' : ¬ (j : Int) < (n : Int) := by omega
      obtain rfl : j = n := by omega
      go_wp2_with fail
      go_end0
      exact ⟨rfl, hF, sv', hC'⟩
def OpEnd (B ib fb i b at' kb mb lo hi : Nat) (md : ByteArray) (nv tv va : Value) (l : List Nd) (ts : List Ty) (N : List (List UInt8)) (ah : List Nd) (bs : List Nat) (w : World) (st : List In.PT × List In.Si) (p0 : Ty) (e : Ending) (w' : World) : Prop :=
  ∃ g n c, e = .returned (.slice (some ⟨g, 0, none⟩) n c) ∧ 0 < n ∧ n ≤ c ∧ n ≤ 2 ∧ w'.cell? ⟨g, 0, none⟩ = some (.string (S (enc p0))) ∧ In.Fy B ib lo hi w w' ∧ ∃ sv, In.Cst B ib fb i b at' kb mb lo hi md nv tv va l ts N ah bs w' st sv

set_option maxHeartbeats 8000000 in
theorem open_any (B ib fb i b at' kb mb lo hi m : Nat) (md : ByteArray) (nv tv va sv : Value) (l : List Nd) (ts : List Ty) (N : List (List UInt8)) (ah : List Nd) (bs : List Nat) (w : World) (st : List In.PT × List In.Si) (x : Nd) (tk : List Ty) (kx : List Nd) (hC : In.Cst B ib fb i b at' kb mb lo hi md nv tv va l ts N ah bs w st sv) (hK : In.Kd2 l ts (st.1.map In.PT.plc) tk kx) (hx : l[at']? = some x) (hl : l.length ≤ 100000) (k : Nat) (hk : k < st.1.length) (h : UInt8) (hh : h = 62 ∨ h = 44 ∨ h = 108 ∨ h = 120) (r : Int) (t : Ty) (pp : Ty × Ty) (htk : tk[k]? = some t) (hmt : Ck.mt t h = some pp) (h64 : (enc t).length ≤ 64) (hm : In.AhB m st.1) (hm2 : m ≤ 1000000) (hss : st.2.length ≤ 100000) :
    Calls Tryz.prog 122 #[.pointer (some ⟨ib, 0, none⟩), .pointer (some ⟨b, 0, none⟩), .int .i64 (k : Int), .int .u8 (h.toNat : Int), .int .i64 r] w (OpEnd B ib fb i b at' kb mb lo hi md nv tv va l ts N ah bs w (In.wish x tk kx st (k, In.opn h t, r)) (In.par0 h t)) := by
  obtain ⟨c0, c1, c2, c3, c4, c5, cz⟩ := hC.is.cells
  obtain ⟨d0, d1, d2, d3, dz, dk, dkz⟩ := hC.pn.cells
  obtain ⟨p, y, t0, hp, hy, ht, htk2, -⟩ := hK.wish x hk (In.opn h t) r
  obtain rfl : t0 = t := by rw [htk] at htk2; exact (Option.some.inj htk2).symm
  have hkk : w.cell? ⟨kb, k, none⟩ = some (.int .i64 (p : Int)) := by rw [dk k]; simp only [In.icells, List.getElem?_map, hp, Option.map_some]
  clear dk
  obtain ⟨at1, ct, rfl⟩ := txs_form hC.is.ty
  obtain ⟨tb, to', rfl, htc, htb, hty⟩ := hC.is.type ht
  have hkt : p < ts.length := (List.getElem?_eq_some_iff.1 ht).1
  have hk' : (k : Int) < (st.1.length : Int) := by omega
  have hp' : (p : Int) < ((ts.map enc).length : Int) := by rw [List.length_map]; omega
  obtain ⟨o1, o2, rr, o3⟩ := In.open_parts hh hmt h64
  have hml : (T3.mtL t0 (h.toNat : Int)).length ≤ 2 := T3.mtL_len _ _
  have hml0 : 0 < (T3.mtL t0 (h.toNat : Int)).length := by rw [o3]; simp
  have HMA : Aside (∀ V, Calls Tryz.prog 160 #[.string (S (enc t0)), .int .u8 (h.toNat : Int)] V fun e w' => ∃ v, e = .returned (.tuple #[v, .bool (T3.mtB t0 h.toNat)]) ∧ w'.ownsRow V.heap.size 9 1 v (T3.mtL t0 h.toNat).length (tcells (T3.mtL t0 h.toNat)) ∧ Below V.heap.size V w') := fun V => T3.match_yes t0 h.toNat h64 V
  have HMK : Aside (∀ (V : World) (v : Value), T3.IsTexts V v (T3.mtL t0 h.toNat) → Calls Tryz.prog 139 #[.int .u8 (h.toNat : Int), v] V fun e w' => e = .returned (.tuple #[.string (S (enc (In.opn h t0))), .int .i64 0]) ∧ Below V.heap.size V w') := fun V v hv => by
    have hmk := T3.make_any h v _ V hv (by omega)
    rw [o1] at hmk
    exact hmk
  have HCC : Aside (∀ (V : World), Below w.heap.size w V → Calls Tryz.prog 121 #[.pointer (some ⟨ib, 0, none⟩), .pointer (some ⟨b, 0, none⟩), .int .i64 (k : Int), .string (S (enc (In.opn h t0))), .int .i64 r] V (In.CsEnd B ib fb i b at' kb mb lo hi md nv (.slice (some ⟨tb, to', none⟩) (ts.map enc).length ct) va l ts N ah bs V (In.wish x tk kx st (k, In.opn h t0, r)))) := fun V hV =>
    cast_any B ib fb i b at' kb mb lo hi m md nv _ va sv l ts N ah bs V st x tk kx (hC.keep (In.Kp.below hV) (hC.is.below hV) hV.size) hK hx hl k hk _ r hm hm2 hss
  have hhw := hC.lt.2.2.2.2.2.2
  have hBw := hC.is.lt
  have b4 := hC.lt
  have HO3 : Aside (∀ (V : World) (v : Value) (B0 : Nat), V.ownsRow B0 9 1 v (T3.mtL t0 h.toNat).length (tcells (T3.mtL t0 h.toNat)) → ∃ g cap cur, v = .slice (some ⟨g, 0, none⟩) (T3.mtL t0 h.toNat).length cap ∧ (T3.mtL t0 h.toNat).length ≤ cap ∧ B0 ≤ g ∧ V.heap[g]? = some (.cells cur 9 (0, 0)) ∧ V.cell? ⟨g, 0, none⟩ = some (.string (S (enc (In.par0 h t0))))) := fun V v B0 ho => by
    have ho2 := ho
    obtain ⟨q0, ⟨rfl, q1⟩ | ⟨g, cap, cur, rfl, q1, q2, q3, q4, q5, q6⟩⟩ := ho
    · omega
    · obtain ⟨g2, cap2, e, r2, r3, r4⟩ := own_cells ho2 hml0
      cases e
      refine ⟨_, _, cur, rfl, r2, r3, q2, ?_⟩
      rw [r4 0 (by omega), o3]; rfl
  have hibw : ib < w.heap.size := by omega
  have hbw : b < w.heap.size := by have := hC.types; omega
  have hkbw : kb < w.heap.size := by have := hC.types; omega
  clear hC hK hx hy ht htk htk2 hp hmt h64 o1 o2 o3 hm htc
  generalize (ts.map enc).length = tn at *
  generalize hst : st.1.length = n at *
  generalize hmtl : T3.mtL t0 (h.toNat : Int) = ps at *
  generalize S (enc t0) = s0 at *
  generalize S (enc (In.opn h t0)) = s1 at *
  generalize hs3 : S (enc (In.par0 h t0)) = s3 at *
  have HS3 : Aside (S (enc (In.par0 h t0)) = s3) := hs3
  clear hs3
  go_enter Tryz.func122, Tryz.ntmps122
  go_upto_region 1 with fail
  go_cut [11, 12] (fun s11 s12 wc => s12 = .bool (T3.mtB t0 h.toNat) ∧ wc.ownsRow w.heap.size 9 1 s11 ps.length (tcells ps) ∧ Below w.heap.size w wc)
  case first =>
    have HS : Aside (∀ w1, Below w.drew.heap.size w.drew w1 → w1.cell? ⟨ib, 2, none⟩ = some (.slice (some ⟨tb, to', none⟩) tn ct) ∧ w1.cell? ⟨b, 2, none⟩ = some (.slice (some ⟨kb, 0, none⟩) n n) ∧ w1.cell? ⟨kb, k, none⟩ = some (.int .i64 (p : Int)) ∧ w1.cell? ⟨tb, to' + p, none⟩ = some (.string s0)) := fun w1 h1 =>
      ⟨(h1.cell (p := ⟨ib, 2, none⟩) hibw).trans c2, (h1.cell (p := ⟨b, 2, none⟩) hbw).trans d2, (h1.cell (p := ⟨kb, k, none⟩) hkbw).trans hkk, (h1.cell (p := ⟨tb, to' + p, none⟩) htb).trans hty⟩
    generalize (h.toNat : Int) = hn at *
    go_region_held3 (fun W => W.cell? ⟨ib, 2, none⟩ = some (.slice (some ⟨tb, to', none⟩) tn ct) ∧ W.cell? ⟨b, 2, none⟩ = some (.slice (some ⟨kb, 0, none⟩) n n) ∧ W.cell? ⟨kb, k, none⟩ = some (.int .i64 (p : Int)) ∧ W.cell? ⟨tb, to' + p, none⟩ = some (.string s0)) (first | exact hS1 | exact ⟨c2, d2, hkk, hty⟩ | go_keep) (first | (go_at_call 160; refine (HMA.out _).mono ?_; rintro e w1 ⟨vv, rfl, ho, hB1⟩; have hS1 := HS.out _ hB1))
    all_goals
      go_wp2_with fail
      go_meet
      case rel => exact ⟨rfl, ho, ⟨hB1.os, hB1.tape, hB1.output, hB1.size, hB1.block⟩⟩
  case rest =>
    obtain ⟨rfl, ho, hBc⟩ := hcut
    obtain ⟨g, cap, cur, rfl, hcap, hg1, hg2, hg3⟩ := HO3.out _ _ _ ho
    have HT : Aside (T3.IsTexts wc (.slice (some ⟨g, 0, none⟩) ps.length cap) ps) := T3.IsTexts.own ho
    clear ho HMA HO3 c0 c1 c2 c3 c4 c5 cz d0 d1 d2 d3 dz dkz hkk hty
    go_wp2_with fail
    go_at_call 139
    refine (HMK.out _ _ HT.out).mono ?_
    rintro e w2 ⟨rfl, hB2⟩
    have HB2 : Aside (Below w.heap.size w w2) := hBc.trans (hB2.mono hBc.size)
    have HG2 : Aside (w2.heap[g]? = some (.cells cur 9 (0, 0))) := (hB2.block g (Array.getElem?_eq_some_iff.1 hg2).1).trans hg2
    have HG3 : Aside (w2.cell? ⟨g, 0, none⟩ = some (.string s3)) := (hB2.cell (p := ⟨g, 0, none⟩) (Array.getElem?_eq_some_iff.1 hg2).1).trans hg3
    clear hB2 hBc hg2 hg3 HT HMK
    go_wp2_with fail
    go_at_call 121
    refine (HCC.out w2 HB2.out).mono ?_
    rintro e w3 ⟨rfl, hF3, hC3⟩
    have HB3 := hF3.block g (Array.getElem?_eq_some_iff.1 HG2.out).1 (by omega) (.inr (by omega)) (.inr fun c e => by rw [HG2.out] at e; cases e)
    have HG4 : Aside (w3.cell? ⟨g, 0, none⟩ = some (.string s3)) := (World.cell?_of_block (a := ⟨g, 0, none⟩) HB3).trans HG3.out
    have HF : Aside (In.Fy B ib lo hi w w3) := (In.Fy.below HB2.out).trans hF3
    clear hF3 HB3
    go_wp2_with fail
    go_ret
    exact ⟨g, ps.length, cap, rfl, hml0, hcap, hml, (by rw [HS3.out]; exact HG4.out), HF.out, hC3⟩
end Go.Proofs.YthdlfeejeboboaaGreatDoor
namespace Go.Proofs.YthdlfeejeboboaaGreatDoor
open Go.RowKit Go.Maps Ck
open T3.Tp (Ty enc cns met)
open Tr (T Nd nm flat flats)
set_option maxRecDepth 100000
set_option linter.unusedSimpArgs false
set_option linter.unusedVariables false

theorem In.Kd2.mem {l : List Nd} {ts : List Ty} {pl : List Nat} {tk : List Ty} {kx : List Nd} (h : In.Kd2 l ts pl tk kx) {k : Nat} {t : Ty} (ht : tk[k]? = some t) : t ∈ ts := by
  have hk : k < pl.length := by rw [← h.len]; exact (List.getElem?_eq_some_iff.1 ht).1
  obtain ⟨y, t2, h1, h2, h3, h4⟩ := h.at' k pl[k] (List.getElem?_eq_getElem hk)
  rw [ht] at h3
  cases h3
  exact List.mem_of_getElem? h2
theorem Cst.drewN {B ib fb i b at' kb mb lo hi : Nat} {md : ByteArray} {nv tv va sv : Value} {l : List Nd} {ts : List Ty} {N : List (List UInt8)} {ah : List Nd} {bs : List Nat} {w : World} {st : List In.PT × List In.Si} (h : In.Cst B ib fb i b at' kb mb lo hi md nv tv va l ts N ah bs w st sv) (n : Nat) : In.Cst B ib fb i b at' kb mb lo hi md nv tv va l ts N ah bs (w.drewN n) st sv :=
  have hB : Below w.heap.size w (w.drewN n) := ⟨rfl, rfl, rfl, Nat.le_refl _, fun _ _ => rfl⟩
  h.keep (In.Kp.below hB) (h.is.below hB) hB.size
end Go.Proofs.YthdlfeejeboboaaGreatDoor
