/- Package insert: casts. Package insert: part. -/
import Derived.Test.YthdlfeejeboboaaGreatDoorUbk
import Derived.Test.YthdlfeejeboboaaGreatDoorUbl
import Derived.Test.YthdlfeejeboboaaGreatDoorUbm
import Derived.Test.YthdlfeejeboboaaGreatDoorUbn
import Derived.Test.YthdlfeejeboboaaGreatDoorUbo
import Derived.Test.YthdlfeejeboboaaGreatDoorUbp
import Derived.Test.YthdlfeejeboboaaGreatDoorUbq
import Derived.Test.YthdlfeejeboboaaGreatDoorUbd
import Derived.Test.YthdlfeejeboboaaGreatDoorUbf
import Derived.Test.YthdlfeejeboboaaGreatDoorUbh
import Derived.Deep.RegionHeld3
namespace Go.Proofs.YthdlfeejeboboaaGreatDoor
open Go.RowKit Go.Maps Ck
open T3.Tp (Ty enc cns met)
open Tr (T Nd nm flat flats)
set_option maxRecDepth 100000
set_option linter.unusedSimpArgs false
set_option linter.unusedVariables false

theorem casts_any (B ib fb i b at' kb mb lo hi m : Nat) (md : ByteArray) (nv tv va sv : Value) (l : List Nd) (ts : List Ty) (N : List (List UInt8)) (ah : List Nd) (bs : List Nat) (w : World) (st : List In.PT × List In.Si) (x : Nd) (τ : Ty) (tk : List Ty) (kx : List Nd) (hC : In.Cst B ib fb i b at' kb mb lo hi md nv tv va l ts N ah bs w st sv) (hK : In.Kd2 l ts (st.1.map In.PT.plc) tk kx) (hx : l[at']? = some x) (hl : l.length ≤ 100000) (hτ : ts[at']? = some τ) (h64 : ∀ t ∈ ts, (enc t).length ≤ 64) (hG : In.GdN x τ tk) (hm : In.AhB m st.1) (hm2 : m + st.1.length + 5 ≤ 1000000) (hss : st.2.length + st.1.length + 5 ≤ 100000) (κ : Nat) (hN : Nod x κ) :
    Calls Tryz.prog 64 #[.pointer (some ⟨ib, 0, none⟩), .pointer (some ⟨b, 0, none⟩)] w (In.CsEnd B ib fb i b at' kb mb lo hi md nv tv va l ts N ah bs w ((In.wishes x τ tk).foldl (In.wish x tk kx) st)) := by
  have h1 := hN.lo
  have h2 := hN.hi
  have h3 : κ = 1 ∨ κ = 2 ∨ κ = 3 ∨ κ = 4 ∨ κ = 5 ∨ κ = 6 ∨ κ = 7 ∨ κ = 8 ∨ κ = 9 ∨ κ = 10 ∨ κ = 11 ∨ κ = 12 ∨ κ = 13 ∨ κ = 14 ∨ κ = 15 ∨ κ = 16 ∨ κ = 17 ∨ κ = 18 ∨ κ = 19 ∨ κ = 20 ∨ κ = 21 ∨ κ = 22 ∨ κ = 23 ∨ κ = 24 ∨ κ = 25 ∨ κ = 26 ∨ κ = 27 ∨ κ = 28 ∨ κ = 29 := by omega
  rcases h3 with rfl | rfl | rfl | rfl | rfl | rfl | rfl | rfl | rfl | rfl | rfl | rfl | rfl | rfl | rfl | rfl | rfl | rfl | rfl | rfl | rfl | rfl | rfl | rfl | rfl | rfl | rfl | rfl | rfl
  · exact casts_1 B ib fb i b at' kb mb lo hi m md nv tv va sv l ts N ah bs w st x τ tk kx hC hK hx hl hτ h64 hG hm hm2 hss hN
  · exact casts_2 B ib fb i b at' kb mb lo hi m md nv tv va sv l ts N ah bs w st x τ tk kx hC hK hx hl hτ h64 hG hm hm2 hss hN
  · exact casts_3 B ib fb i b at' kb mb lo hi m md nv tv va sv l ts N ah bs w st x τ tk kx hC hK hx hl hτ h64 hG hm hm2 hss hN
  · exact casts_4 B ib fb i b at' kb mb lo hi m md nv tv va sv l ts N ah bs w st x τ tk kx hC hK hx hl hτ h64 hG hm hm2 hss hN
  · exact casts_5 B ib fb i b at' kb mb lo hi m md nv tv va sv l ts N ah bs w st x τ tk kx hC hK hx hl hτ h64 hG hm hm2 hss hN
  · exact casts_6 B ib fb i b at' kb mb lo hi m md nv tv va sv l ts N ah bs w st x τ tk kx hC hK hx hl hτ h64 hG hm hm2 hss hN
  · exact casts_7 B ib fb i b at' kb mb lo hi m md nv tv va sv l ts N ah bs w st x τ tk kx hC hK hx hl hτ h64 hG hm hm2 hss hN
  · exact casts_8 B ib fb i b at' kb mb lo hi m md nv tv va sv l ts N ah bs w st x τ tk kx hC hK hx hl hτ h64 hG hm hm2 hss hN
  · exact casts_9 B ib fb i b at' kb mb lo hi m md nv tv va sv l ts N ah bs w st x τ tk kx hC hK hx hl hτ h64 hG hm hm2 hss hN
  · exact casts_10 B ib fb i b at' kb mb lo hi m md nv tv va sv l ts N ah bs w st x τ tk kx hC hK hx hl hτ h64 hG hm hm2 hss hN
  · exact casts_11 B ib fb i b at' kb mb lo hi m md nv tv va sv l ts N ah bs w st x τ tk kx hC hK hx hl hτ h64 hG hm hm2 hss hN
  · exact casts_12 B ib fb i b at' kb mb lo hi m md nv tv va sv l ts N ah bs w st x τ tk kx hC hK hx hl hτ h64 hG hm hm2 hss hN
  · exact casts_13 B ib fb i b at' kb mb lo hi m md nv tv va sv l ts N ah bs w st x τ tk kx hC hK hx hl hτ h64 hG hm hm2 hss hN
  · exact casts_14 B ib fb i b at' kb mb lo hi m md nv tv va sv l ts N ah bs w st x τ tk kx hC hK hx hl hτ h64 hG hm hm2 hss hN
  · exact casts_15 B ib fb i b at' kb mb lo hi m md nv tv va sv l ts N ah bs w st x τ tk kx hC hK hx hl hτ h64 hG hm hm2 hss hN
  · exact casts_16 B ib fb i b at' kb mb lo hi m md nv tv va sv l ts N ah bs w st x τ tk kx hC hK hx hl hτ h64 hG hm hm2 hss hN
  · exact casts_17 B ib fb i b at' kb mb lo hi m md nv tv va sv l ts N ah bs w st x τ tk kx hC hK hx hl hτ h64 hG hm hm2 hss hN
  · exact casts_18 B ib fb i b at' kb mb lo hi m md nv tv va sv l ts N ah bs w st x τ tk kx hC hK hx hl hτ h64 hG hm hm2 hss hN
  · exact casts_19 B ib fb i b at' kb mb lo hi m md nv tv va sv l ts N ah bs w st x τ tk kx hC hK hx hl hτ h64 hG hm hm2 hss hN
  · exact casts_20 B ib fb i b at' kb mb lo hi m md nv tv va sv l ts N ah bs w st x τ tk kx hC hK hx hl hτ h64 hG hm hm2 hss hN
  · exact casts_21 B ib fb i b at' kb mb lo hi m md nv tv va sv l ts N ah bs w st x τ tk kx hC hK hx hl hτ h64 hG hm hm2 hss hN
  · exact casts_22 B ib fb i b at' kb mb lo hi m md nv tv va sv l ts N ah bs w st x τ tk kx hC hK hx hl hτ h64 hG hm hm2 hss hN
  · exact casts_23 B ib fb i b at' kb mb lo hi m md nv tv va sv l ts N ah bs w st x τ tk kx hC hK hx hl hτ h64 hG hm hm2 hss hN
  · exact casts_24 B ib fb i b at' kb mb lo hi m md nv tv va sv l ts N ah bs w st x τ tk kx hC hK hx hl hτ h64 hG hm hm2 hss hN
  · exact casts_25 B ib fb i b at' kb mb lo hi m md nv tv va sv l ts N ah bs w st x τ tk kx hC hK hx hl hτ h64 hG hm hm2 hss hN
  · exact casts_26 B ib fb i b at' kb mb lo hi m md nv tv va sv l ts N ah bs w st x τ tk kx hC hK hx hl hτ h64 hG hm hm2 hss hN
  · exact casts_27 B ib fb i b at' kb mb lo hi m md nv tv va sv l ts N ah bs w st x τ tk kx hC hK hx hl hτ h64 hG hm hm2 hss hN
  · exact casts_28 B ib fb i b at' kb mb lo hi m md nv tv va sv l ts N ah bs w st x τ tk kx hC hK hx hl hτ h64 hG hm hm2 hss hN
  · exact casts_29 B ib fb i b at' kb mb lo hi m md nv tv va sv l ts N ah bs w st x τ tk kx hC hK hx hl hτ h64 hG hm hm2 hss hN
end Go.Proofs.YthdlfeejeboboaaGreatDoor
namespace Go.Proofs.YthdlfeejeboboaaGreatDoor
open Go.RowKit Go.Maps Ck
open T3.Tp (Ty enc cns met)
open Tr (T Nd nm flat flats)
set_option maxRecDepth 100000
set_option linter.unusedSimpArgs false
set_option linter.unusedVariables false
namespace In
def PtEnd (B ib fb : Nat) (md : ByteArray) (nv tv : Value) (l : List Nd) (ts : List Ty) (N : List (List UInt8)) (w : World) (i : Nat) (q : PT × List Si) (e : Ending) (w' : World) : Prop :=
  ∃ b sv, e = .returned (.pointer (some ⟨b, 0, none⟩)) ∧ IsPT w' q.1 w.heap.size w'.heap.size b ∧ Is B w' ib sv md nv tv l ts N fb i q.2 ∧ Fz B ib w.heap.size w w'
abbrev zeros (n : Nat) : List Value := (madeCells #[.int .i64 0] n).toList
structure Pm (w0 w : World) (b i n : Nat) (ah : List Nd) : Prop where
  ex : ∃ va kb mb, Pn w b i va kb mb n (zeros n) [] [] ∧ w.ownsRow 0 72 8 va ah.length (nrow ah) ∧ w0.heap.size ≤ b ∧ b < w.heap.size ∧ w0.heap.size ≤ kb ∧ kb < w.heap.size ∧ w0.heap.size ≤ mb ∧ mb < w.heap.size
  bl : Below w0.heap.size w0 w
end In
theorem In.PMp.empty {w : World} {mb : Nat} (h : w.heap[mb]? = some (.map #[] 0)) : In.PMp w mb [] [] := by
  obtain ⟨D, n, ⟨es, clock, hb, F, h3, rfl⟩, h4⟩ := In.PMp.made w
  rw [heap_alloc_new] at hb
  cases hb
  exact ⟨_, n, ⟨#[], 0, h, F, h3, rfl⟩, h4⟩
theorem pm_mk {W0 W : World} {b i n kb mb : Nat} {va : Value} {ah : List Nd} (hB : Below W0.heap.size W0 W) (ho : W.ownsRow 0 72 8 va ah.length (nrow ah)) (hk : W.heap[kb]? = some (.cells (madeCells #[.int .i64 0] n) 3 (0, 0))) (hm : W.heap[mb]? = some (.map #[] 0)) (hkl : W0.heap.size ≤ kb) (hml : W0.heap.size ≤ mb) (hb : b = W.heap.size) :
    In.Pm W0 (W.alloc (.cells #[.int .i64 (i : Int), va, .slice (some ⟨kb, 0, none⟩) n n, .map (some mb)] 116)) b i n ah := by
  subst hb
  have lt : ∀ {k o}, W.heap[k]? = some o → k < W.heap.size := fun h => (Array.getElem?_eq_some_iff.1 h).1
  have e : ∀ {k}, k < W.heap.size → ∀ o, (W.alloc o).heap[k]? = W.heap[k]? := fun h o => Below.heap_alloc _ _ _ h
  refine ⟨⟨va, kb, mb, ⟨heap_alloc_new _ _, ?_, In.PMp.empty ((e (lt hm) _).trans hm)⟩, ho.alloc _, hB.size, by simp, hkl, by have := lt hk; simp; omega, hml, by have := lt hm; simp; omega⟩, hB.alloc hB.size _⟩
  rw [e (lt hk), hk]
theorem run_makePm (n : Int) (w : World) : (Instr.makeMap 114 (some (.int .i64 n))).run Tryz.prog w = .ok (.map (some w.heap.size)) (w.alloc (.map #[] 0)) := by
  simp [Instr.makeMap, run_underlying In.tyPm, asInt, newObj]
  rfl
theorem infoI3 : (Tryz.prog.info? 3).map (fun i => (i.zero, i.size, i.bytes)) = some (some (.int .i64 0), 1, 8) := by kernel_rfl
theorem tyI65 : Tryz.prog.underlying 113 = some (.slice 3) := by kernel_rfl

def In.PrtC (B ib fb : Nat) (md : ByteArray) (nv tv : Value) (l : List Nd) (ts : List Ty) (N : List (List UInt8)) (n : Nat) : Prop :=
    ∀ (t : T) (i : Nat) (rest : List Nd) (L : List (List UInt8)) (w : World) (v sv : Value) (ss : List In.Si), (flat t).length ≤ n → Tr.wf t → l.drop i = flat t ++ rest → In.Gd ts t i → L.length ≤ 2 * i → ss.length ≤ 4 * i → In.Is B w ib sv md nv tv l ts N fb i ss → IsAr w v L →
    Calls Tryz.prog 26 #[.pointer (some ⟨ib, 0, none⟩), v] w (In.PtEnd B ib fb md nv tv l ts N w (i + (flat t).length) (In.inT N ts L t i ss))

set_option maxHeartbeats 16000000 in
theorem ipart_step (B ib fb : Nat) (md : ByteArray) (nv tv : Value) (l : List Nd) (ts : List Ty) (N : List (List UInt8)) (hmay : ∀ x ∈ l, Tr.mayB x = true) (hsz : ∀ x ∈ l, x.s.size ≤ maxLen) (hl : l.length ≤ 2000) (h64 : ∀ t ∈ ts, (enc t).length ≤ 64) (hN : N.length ≤ 1000) (n : Nat) (IH : In.PrtC B ib fb md nv tv l ts N n) : In.PrtC B ib fb md nv tv l ts N (n + 1) := by
    rintro ⟨x, ks⟩ i rest L w v sv ss hn hw hd hg hL hss hI hv
    have HIH : Aside (In.PrtC B ib fb md nv tv l ts N n) := IH
    clear IH
    have hx : l[i]? = some x := by
      have h := congrArg (fun m => m[0]?) hd
      simp only [List.getElem?_drop, flat, List.cons_append, Nat.add_zero, List.getElem?_cons_zero] at h
      exact h
    have hd1 : l.drop (i + 1) = flats ks ++ rest := by
      have h := congrArg (List.drop 1) hd
      rw [List.drop_drop] at h
      simpa [flat] using h
    have hil : i < l.length := (List.getElem?_eq_some_iff.1 hx).1
    have hxm : x ∈ l := List.mem_of_getElem? hx
    obtain ⟨κ, hN0⟩ := nod_of (hmay x hxm)
    have hgg := hg
    rw [In.Gd] at hgg
    obtain ⟨⟨τ, hτ, hGN⟩, hGL⟩ := hgg
    have hlen := congrArg List.length hd1
    simp only [List.length_drop, List.length_append] at hlen
    have hkl : ks.length ≤ (flats ks).length := by
      clear hn hw hd hd1 hg hGN hGL hlen
      induction ks with
      | nil => simp
      | cons a r ih => simp only [flats, List.length_append, List.length_cons]; have := Tr.flat_pos a; omega
    have hkz : ks.length ≤ 2000 := by omega
    have hNk : x.kids = (ks.length : Int) := hw.1
    obtain ⟨c0, c1, c2, c3, c4, c5, cz⟩ := hI.cells
    obtain ⟨an, cn, rfl⟩ := hI.no.form
    obtain ⟨nb, no, rfl, hcn, hnb, hnd⟩ := hI.no.at hx
    have q0 := hnd 0 _ rfl
    rw [Nat.add_zero] at q0
    have q1 := hnd 1 _ rfl
    have q2 := hnd 2 _ rfl
    have q3 := hnd 3 _ rfl
    have q4 := hnd 4 _ rfl
    have q5 := hnd 5 _ rfl
    have q6 := hnd 6 _ rfl
    have q7 := hnd 7 _ rfl
    have hat' : (i : Int) < (l.length : Int) := by omega
    have hat0 : (0 : Int) ≤ (i : Int) := by omega
    have hibz : ib < w.heap.size := by have := hI.lt; omega
    obtain ⟨W0, hW0⟩ : ∃ W0, W0 = (w.alloc (.cells #[.int .i8 x.kind, .int .i64 x.kids, .int .i64 x.n, .string x.s, .string x.t, .string x.u, .int .i64 x.ln, .int .i64 x.co] 72)).drew := ⟨_, rfl⟩
    have B0 : Below w.heap.size w W0 := by rw [hW0]; exact below_drew ((Below.refl _ _).alloc (Nat.le_refl _) _)
    have z0 : W0.heap.size = w.heap.size + 1 := by rw [hW0]; exact (by simp : (w.alloc _).heap.size = w.heap.size + 1)
    have b0 : W0.heap[w.heap.size]? = some (.cells #[.int .i8 x.kind, .int .i64 x.kids, .int .i64 x.n, .string x.s, .string x.t, .string x.u, .int .i64 x.ln, .int .i64 x.co] 72 (0, 0)) := by rw [hW0]; exact heap_alloc_new w _
    have x1 := (block_cells b0).1 1
    simp only [List.getElem?_toArray, List.getElem?_cons_zero, List.getElem?_cons_succ] at x1
    replace x1 := x1.trans (congrArg (fun z => some (Value.int .i64 z)) hNk)
    have hI0 := hI.below B0
    have hv0 := hv.below B0
    obtain ⟨ah, hah⟩ : ∃ ah, ah = In.nodeP N L τ x := ⟨_, rfl⟩
    have hib0 : ib < W0.heap.size := by omega
    have hw0 : w.heap.size < W0.heap.size := by omega
    obtain ⟨_, _, _, _, c4', _, _⟩ := hI0.cells
    have HND : Aside (∀ V, Below W0.heap.size W0 V → Calls Tryz.prog 62 #[.pointer (some ⟨ib, 0, none⟩), .int .i64 (i : Int), v] V fun e w' => ∃ va, e = .returned va ∧ w'.ownsRow 0 72 8 va ah.length (nrow ah) ∧ Below V.heap.size V w' ∧ Below W0.heap.size W0 w' ∧ w'.cell? ⟨ib, 4, none⟩ = some (.int .i64 (i : Int)) ∧ w'.cell? ⟨w.heap.size, 1, none⟩ = some (.int .i64 (ks.length : Int)) ∧ w.heap.size < w'.heap.size ∧ ib < w'.heap.size) := fun V hV => by
      rw [hah]
      refine (node_any B ib fb i i sv _ tv v md l ts N L ss x τ V (hI0.below hV) hx hτ (h64 τ (List.mem_of_getElem? hτ)) (by omega) (hsz x hxm) hN (by omega) (hv0.below hV) hGN.list).mono ?_
      rintro e w1 ⟨va, rfl, ho, hB⟩
      have hB2 : Below W0.heap.size W0 w1 := hV.trans (hB.mono hV.size)
      exact ⟨va, rfl, own_low ho (Nat.zero_le _), hB, hB2, (hB2.cell (p := ⟨ib, 4, none⟩) hib0).trans c4', (hB2.cell (p := ⟨w.heap.size, 1, none⟩) hw0).trans x1, Nat.lt_of_lt_of_le hw0 hB2.size, Nat.lt_of_lt_of_le hib0 hB2.size⟩
    have hmk := run_make_row' (P := Tryz.prog) 113 3 (.int .i64 0) 8 tyI65 infoI3 rfl .i64 .i64 ks.length (by omega) (by omega)
    have hmm := run_makePm
    have HZ0 : Aside (W0.heap.size = w.heap.size + 1) := z0
    have HI : Aside (In.Is B w ib sv md (.slice (some ⟨nb, no, none⟩) l.length cn) tv l ts N fb i ss) := hI
    have HV : Aside (IsAr w v L) := hv
    have HNK : Aside (x.kids = (ks.length : Int)) := hNk
    have HAH : Aside (ah = In.nodeP N L τ x) := hah
    have HX : Aside (l[i]? = some x) := hx
    have HT : Aside (ts[i]? = some τ) := hτ
    clear z0 hNk hah hI hI0 hv hv0 hx hτ hnd
    go_enter Tryz.func26, Tryz.ntmps26
    go_wp2_with fail
    go_region
    rw [← hW0]
    clear hW0 q0 q1 q2 q3 q4 q5 q6 q7 c0 c1 c2 c3 c4 c5 cz
    go_upto_region 2 with fail
    go_cut [6] (fun s6 wc => ∃ b, s6 = .pointer (some ⟨b, 0, none⟩) ∧ In.Pm W0 wc b i ks.length ah)
    case first =>
      have hBd : Below W0.heap.size W0 W0.drew := ⟨rfl, rfl, rfl, Nat.le_refl _, fun _ _ => rfl⟩
      go_region_held3 (fun W => W.cell? ⟨ib, 4, none⟩ = some (.int .i64 (i : Int)) ∧ W.cell? ⟨w.heap.size, 1, none⟩ = some (.int .i64 (ks.length : Int))) (first | exact ⟨hs1, hs2⟩ | go_keep) (first | (go_at_call 62; refine (HND.out _ (by first | exact hBd | exact hBd.alloc (by simp) _ | exact (hBd.alloc (by simp) _).alloc (by simp) _ | exact below_drew ((Below.refl _ _).alloc (Nat.le_refl _) _) | exact below_drew (((Below.refl _ _).alloc (Nat.le_refl _) _).alloc (by simp) _))).mono ?_; rintro e w1 ⟨va, rfl, ho1, hB1, hBB, hs1, hs2, hs3, hs4⟩; obtain ⟨vaa, vac, rfl⟩ := own_len ho1))
      all_goals
        have hsz1 := hBB.size
        go_wp2_with fail
        go_meet
        case rel => exact ⟨_, rfl, pm_mk (by first | exact hBB | exact hBB.alloc hBB.size _ | exact (hBB.alloc hBB.size _).alloc (by simp; omega) _) (by first | exact ho1 | exact ho1.alloc _ | exact (ho1.alloc _).alloc _) (by (first | exact heap_alloc_new _ _ | exact heap_two _ _ _ | exact (Below.heap_alloc _ _ _ (by simp)).trans (heap_alloc_new _ _) | exact (Below.heap_alloc _ _ _ (by have h := hB1.size; simp at h; omega)).trans ((hB1.block W0.heap.size (by simp <;> omega)).trans (heap_alloc_new W0 _)) | exact (hB1.block W0.heap.size (by simp <;> omega)).trans (heap_alloc_new W0 _) | exact (hB1.block W0.heap.size (by simp <;> omega)).trans ((Below.heap_alloc _ _ _ (by simp)).trans (heap_alloc_new W0 _)) | exact (hB1.block (W0.heap.size + 1) (by simp <;> omega)).trans (heap_two W0 _ _))) (by (first | exact heap_alloc_new _ _ | exact heap_two _ _ _ | exact (Below.heap_alloc _ _ _ (by simp)).trans (heap_alloc_new _ _) | exact (Below.heap_alloc _ _ _ (by have h := hB1.size; simp at h; omega)).trans ((hB1.block W0.heap.size (by simp <;> omega)).trans (heap_alloc_new W0 _)) | exact (hB1.block W0.heap.size (by simp <;> omega)).trans (heap_alloc_new W0 _) | exact (hB1.block W0.heap.size (by simp <;> omega)).trans ((Below.heap_alloc _ _ _ (by simp)).trans (heap_alloc_new W0 _)) | exact (hB1.block (W0.heap.size + 1) (by simp <;> omega)).trans (heap_two W0 _ _))) (by omega) (by omega) (by simp)⟩
    case rest =>
      obtain ⟨b, rfl, hPm⟩ := hcut
      obtain ⟨⟨va, kb, mb, hPn, hOw, e1, e2, e3, e4, e5, e6⟩, hB2⟩ := hPm
      clear hmk hmm x1 c4' HND
      have hz := HZ0.out
      have hI2 := (HI.out.below B0).below hB2
      have hv2 := (HV.out.below B0).below hB2
      obtain ⟨d0, d1, d2, d3, d4, d5, dz⟩ := hI2.cells
      obtain ⟨p0, p1, p2, p3, pz, -, -⟩ := hPn.cells
      have g0 := (hB2.block _ hw0).trans b0
      obtain ⟨W3, hW3⟩ : ∃ W3, W3 = wc.setCell ⟨ib, 4, none⟩ (.int .i64 ((i : Int) + 1)) := ⟨_, rfl⟩
      have hwi : IntKind.i64.wrap ((i : Int) + 1) = (i : Int) + 1 := IntWalk.i64_in _ (by omega)
      have hib : ib ≠ b := by omega
      have F3 : In.Fz B ib w.heap.size w W3 := by
        rw [hW3]
        exact (In.Fz.below (B0.trans (hB2.mono B0.size)) (Nat.le_refl _)).trans (In.Fz.setI _ _ _ _ _ _)
      have K3 : In.Kp w.heap.size wc.heap.size wc W3 := by
        rw [hW3]
        exact (In.Fz.setI B ib wc.heap.size wc 4 _).kp hI2.blk _ _
      have I3 : In.Is B W3 ib sv md (.slice (some ⟨nb, no, none⟩) l.length cn) tv l ts N fb (i + 1) ss := by
        rw [hW3]
        refine hI2.move (In.Fz.setI _ _ _ _ _ _) ?_ (own_keepG hI2.own fun g cur hg _ => In.setc_ne (by have := (hI2.own.lt g hg).1; have := hI2.lt.1; omega))
        rw [In.setc hI2.blk]
        rfl
      have P3 : In.Pn W3 b i va kb mb ks.length (In.zeros ks.length) [] [] := hPn.keep K3 (by omega) e2 (by omega) e4 (by omega) e6
      have O3 : W3.ownsRow 0 72 8 va ah.length (nrow ah) := own_keepG hOw (fun g cur _ hc => K3.nd g cur hc)
      have V3 : IsAr W3 v L := hv2.kept fun g cur hc => by rw [hW3]; exact In.setc_ne (by rintro rfl; rw [hI2.blk] at hc; cases hc)
      have S3 : W3.heap.size = wc.heap.size := by rw [hW3]; simp [World.setCell]
      have G3 : W3.heap[w.heap.size]? = some (.cells #[.int .i8 x.kind, .int .i64 x.kids, .int .i64 x.n, .string x.s, .string x.t, .string x.u, .int .i64 x.ln, .int .i64 x.co] 72 (0, 0)) := by rw [hW3, In.setc_ne (by omega)]; exact g0
      clear K3 hPn hOw hv2 g0
      have hwt := within_any x (hsz x hxm) L (by omega) v W3 V3
      have y0 := (block_cells G3).1 0
      have y1 := (block_cells G3).1 1
      have y2 := (block_cells G3).1 2
      have y3 := (block_cells G3).1 3
      have y4 := (block_cells G3).1 4
      have y5 := (block_cells G3).1 5
      have y6 := (block_cells G3).1 6
      have y7 := (block_cells G3).1 7
      simp only [List.getElem?_toArray, List.getElem?_cons_zero, List.getElem?_cons_succ] at y0 y1 y2 y3 y4 y5 y6 y7
      go_upto_region 4 with fail
      rw [← hW3]
      clear hW3 d0 d1 d2 d3 d4 d5 dz p0 p1 p2 p3 pz hI2
      go_wp2_with fail
      go_at_call 63
      refine hwt.mono ?_
      rintro e w4 ⟨iv, rfl, hiv, hB4⟩
      have P4 : In.Pn w4 b i va kb mb ks.length (In.zeros ks.length) [] [] := P3.keep (lo := 0) (m := wc.heap.size) (In.Kp.below hB4) (Nat.zero_le _) e2 (Nat.zero_le _) e4 (Nat.zero_le _) e6
      have hLq0 : In.Lq B ib fb i b kb mb w4.heap.size ks.length w.heap.size md (.slice (some ⟨nb, no, none⟩) l.length cn) tv va l ts N ah #[.int .i8 x.kind, .int .i64 x.kids, .int .i64 x.n, .string x.s, .string x.t, .string x.u, .int .i64 x.ln, .int .i64 x.co] w v iv L (In.within x L) (i + 1) [] ss [] sv w4 := by
        have hs4 := hB4.size
        have hiB := I3.lt
        have hiB2 := HI.out.lt
        refine ⟨I3.below hB4, ⟨In.zeros ks.length, by simp [In.zeros, size_madeCells], fun k hk => by simp at hk, P4⟩, own_keepG O3 (fun g cur _ hc => hB4.block g (Array.getElem?_eq_some_iff.1 hc).1), by rw [In.IsPTs]; exact ⟨rfl, Nat.le_refl _⟩, V3.below hB4, hiv, (hB4.block _ (by omega)).trans G3, F3.trans (In.Fz.below hB4 (by omega)), fun q hq => by simp at hq, ⟨hiB2.2.2, by omega, by omega, by omega, by omega, by omega, by omega, Nat.le_refl _⟩⟩
      obtain ⟨_, _, p2, _⟩ := P4.cells
      clear P3 O3 V3 G3 F3 I3 P4 hiv hB4 hwt y0 y1 y2 y3 y4 y5 y6 y7 hB2 b0 B0
      obtain ⟨lo, hlo⟩ : ∃ lo, lo = w4.heap.size := ⟨_, rfl⟩
      rw [← hlo] at hLq0
      have HWF : Aside (Tr.wfs ks) := hw.2
      have HKZ : Aside ((flat (T.nd x ks)).length = (flats ks).length + 1) := by show _ = _; rw [flat]; simp
      have hfl : (flats ks).length ≤ n := by have := HKZ.out; omega
      clear hlo hz S3 hd hn hg hw hib0 hw0 hwi hib e1 e2 e3 e4 e5 e6 hnb hat' hat0 hibz
      have HKZ2 : Aside ((flats ks).length + (i + 1) ≤ 2000) := by show _ ≤ _; omega
      have HD1 : Aside (l.drop (i + 1) = flats ks ++ rest) := hd1
      have HLN : Aside (ks.length ≤ 2000) := hkz
      clear hlen hd1 hkl
      go_wp2_with fail
      go_loopg [54] ks.length (fun gq tq wr => ∃ (j p : Nat) (dn : List In.PT) (sj : List In.Si) (bs : List Nat) (svj : Value), j + gq = ks.length ∧ tq = .int .i64 (j : Int) ∧ dn.length = j ∧ In.Lq B ib fb i b kb mb lo ks.length w.heap.size md (.slice (some ⟨nb, no, none⟩) l.length cn) tv va l ts N ah #[.int .i8 x.kind, .int .i64 x.kids, .int .i64 x.n, .string x.s, .string x.t, .string x.u, .int .i64 x.ln, .int .i64 x.co] w v iv L (In.within x L) p dn sj bs svj wr ∧ Aside (In.inL N ts L x 0 ks (i + 1) ss = (dn ++ (In.inL N ts L x j (ks.drop j) p sj).1, (In.inL N ts L x j (ks.drop j) p sj).2)) ∧ Aside (l.drop p = flats (ks.drop j) ++ rest) ∧ Aside (In.GdL ts (ks.drop j) p) ∧ Aside (Tr.wfs (ks.drop j)) ∧ i + 1 ≤ p ∧ sj.length ≤ 4 * p ∧ Aside (p + (flats (ks.drop j)).length = i + 1 + (flats ks).length))
      case atStart => exact ⟨0, i + 1, [], ss, [], sv, by omega, rfl, rfl, hLq0, rfl, HD1.out, hGL, HWF.out, Nat.le_refl _, by omega, rfl⟩
      case round =>
        clear hLq0 p2
        obtain ⟨j, p, dn, sj, bs, svj, hjg, rfl, hdn, hLq, HR, HD, HGL, HWS, hip, hsj, HP⟩ := hrel
        by_cases hj : j < ks.length
        · have hj' : (j : Int) < (ks.length : Int) := by omega
          have hj0 : (0 : Int) ≤ (j : Int) := by omega
          obtain ⟨tj, htj⟩ : ∃ tj, ks[j]? = some tj := ⟨_, List.getElem?_eq_getElem hj⟩
          have hdj : ks.drop j = tj :: ks.drop (j + 1) := by
            rw [List.drop_eq_getElem_cons hj, (List.getElem?_eq_some_iff.1 htj).2]
          have hpos := Tr.flat_pos tj
          have hDj := HD.out
          rw [hdj] at hDj
          simp only [flats, List.append_assoc] at hDj
          have hPj := HP.out
          rw [hdj] at hPj
          simp only [flats, List.length_append] at hPj
          have hwj := HWS.out
          rw [hdj, Tr.wfs] at hwj
          have hGj := HGL.out
          rw [hdj, In.GdL] at hGj
          have hpl : p < 1000000 := by have := HKZ2.out; omega
          have hD2 : l.drop (p + (flat tj).length) = flats (ks.drop (j + 1)) ++ rest := by
            have h := congrArg (List.drop (flat tj).length) hDj
            rwa [List.drop_drop, List.drop_left] at h
          obtain ⟨c0, c1, c2, c3, c4, c5, cz⟩ := hLq.is.cells
          obtain ⟨cur, hcu1, hcu2, hpn⟩ := hLq.pn
          obtain ⟨p0, p1, p2, p3, pz, pk, pkz⟩ := hpn.cells
          obtain ⟨uj, huj⟩ : ∃ uj, cur[j]? = some uj := ⟨_, List.getElem?_eq_getElem (by omega)⟩
          have pkj : wr.cell? ⟨kb, j, none⟩ = some uj := (pk j).trans huj
          have a0 := (block_cells hLq.nd).1 0
          simp only [List.getElem?_toArray, List.getElem?_cons_zero] at a0
          obtain ⟨w1, hw1, hI1, hv1, hiv1, hs1, hb3, hA1, hupd⟩ := hLq.store (by omega)
          rw [hdn] at hw1
          obtain ⟨V1, hV1⟩ : ∃ V1, V1 = wr.setCell ⟨kb, j, none⟩ (.int .i64 (p : Int)) := ⟨_, rfl⟩
          have hw1' : w1 = V1.drew := by rw [hw1, hV1]
          have hb3' : V1.cell? ⟨b, 3, none⟩ = some (.map (some mb)) := by rw [hw1'] at hb3; exact hb3
          have a0' : V1.cell? ⟨w.heap.size, 0, none⟩ = some (.int .i8 x.kind) := by
            rw [hw1'] at hA1
            exact (block_cells (w := V1) hA1).1 0
          have hlt := hLq.lt
          have HIN : Aside (∀ (sv2 : Value) (vv : Value), IsAr w1 vv (In.inn x j L) → Calls Tryz.prog 26 #[.pointer (some ⟨ib, 0, none⟩), vv] V1.drew (In.PtEnd B ib fb md (.slice (some ⟨nb, no, none⟩) l.length cn) tv l ts N V1.drew (p + (flat tj).length) (In.inT N ts (In.inn x j L) tj p sj))) := fun _ vv hvv => by
            rw [← hw1']
            refine HIH.out tj p (flats (ks.drop (j + 1)) ++ rest) (In.inn x j L) w1 vv svj sj (by omega) hwj.1 hDj hGj.1 ?_ hsj hI1 hvv
            unfold In.inn
            split
            · omega
            · have := In.within_len x L; omega
          have HUP : Aside (∀ (w2 : World) (bq : Nat) (sv2 : Value), In.IsPT w2 (In.inT N ts (In.inn x j L) tj p sj).1 V1.drew.heap.size w2.heap.size bq → In.Is B w2 ib sv2 md (.slice (some ⟨nb, no, none⟩) l.length cn) tv l ts N fb (p + (flat tj).length) (In.inT N ts (In.inn x j L) tj p sj).2 → In.Fz B ib V1.drew.heap.size V1.drew w2 → ∃ w3, (Instr.mapUpdate 114 (.map (some mb)) (.int .i64 (p : Int)) (.pointer (some ⟨bq, 0, none⟩))).run Tryz.prog w2 = .ok () w3 ∧ w2.cell? ⟨b, 3, none⟩ = some (.map (some mb)) ∧ w3.cell? ⟨b, 3, none⟩ = some (.map (some mb)) ∧ In.Lq B ib fb i b kb mb lo ks.length w.heap.size md (.slice (some ⟨nb, no, none⟩) l.length cn) tv va l ts N ah #[.int .i8 x.kind, .int .i64 x.kids, .int .i64 x.n, .string x.s, .string x.t, .string x.u, .int .i64 x.ln, .int .i64 x.co] w v iv L (In.within x L) (p + (flat tj).length) (dn ++ [(In.inT N ts (In.inn x j L) tj p sj).1]) (In.inT N ts (In.inn x j L) tj p sj).2 (bs ++ [bq]) sv2 w3) := fun w2 bq sv2 h1 h2 h3 => by
            rw [← hw1'] at h1 h3
            exact hupd w2 bq sv2 _ _ h1 (In.inT_form N ts tj _ p sj).1 h2 h3 (by omega) hpl (by have := HLN.out; omega)
          have HRN : Aside (In.inL N ts L x 0 ks (i + 1) ss = ((dn ++ [(In.inT N ts (In.inn x j L) tj p sj).1]) ++ (In.inL N ts L x (j + 1) (ks.drop (j + 1)) (p + (flat tj).length) (In.inT N ts (In.inn x j L) tj p sj).2).1, (In.inL N ts L x (j + 1) (ks.drop (j + 1)) (p + (flat tj).length) (In.inT N ts (In.inn x j L) tj p sj).2).2)) := by
            show _ = _
            rw [HR.out, hdj, In.inL]
            simp
          have hsn := In.sites_T N ts tj (In.inn x j L) p sj
          have HSN : Aside ((In.inT N ts (In.inn x j L) tj p sj).2.length ≤ 4 * (p + (flat tj).length)) := by show _ ≤ _; omega
          have HDN : Aside ((dn ++ [(In.inT N ts (In.inn x j L) tj p sj).1]).length = j + 1) := by show _ = _; simp [hdn]
          have HD2 : Aside (l.drop (p + (flat tj).length) = flats (ks.drop (j + 1)) ++ rest) := hD2
          have HG2 : Aside (In.GdL ts (ks.drop (j + 1)) (p + (flat tj).length)) := hGj.2
          have HW2 : Aside (Tr.wfs (ks.drop (j + 1))) := hwj.2
          have HP2 : Aside (p + (flat tj).length + (flats (ks.drop (j + 1))).length = i + 1 + (flats ks).length) := by show _ = _; omega
          have HPP : Aside (i + 1 ≤ p + (flat tj).length) := by show _ ≤ _; omega
          clear hLq HR HD HGL HWS HP hdj hDj hPj hwj hGj hD2 hupd hpn pk huj hcu1 hcu2 hsn hsj hI1 hs1 hb3 hA1 hw1 hdn htj p0 p1 pz c0 c1 c2 c3 c5 cz hlt
          have hv1' : In.inn x j L = L → IsAr w1 v (In.inn x j L) := fun e => by rw [e]; exact hv1
          have hiv1' : In.inn x j L = In.within x L → IsAr w1 iv (In.inn x j L) := fun e => by rw [e]; exact hiv1
          generalize In.inT N ts (In.inn x j L) tj p sj = qq at *
          by_cases h8 : x.kind = 8 ∧ j = 0
          · obtain ⟨h8, rfl⟩ := h8
            have hcall := HIN.out sv v (hv1' (by unfold In.inn; rw [if_pos ⟨h8, rfl⟩]))
            replace a0' := a0'.trans (congrArg (fun z => some (Value.int .i8 z)) h8)
            clear h8
            clear HIN hv1' hiv1' hv1 hiv1 a0 hw1'
            go_upto_region 10 with fail
            rw [← hV1]
            clear hV1 p2 pkj pkz c4
            go_wp2_with fail
            go_region_held3 (fun W => W.cell? ⟨b, 3, none⟩ = some (.map (some mb))) (first | exact hs3 | exact hs2 | exact hb3' | go_keep) (first | (go_at_call 26; refine hcall.mono ?_; rintro e w2 ⟨bq, sv2, rfl, hPT, hI2, hF2⟩; obtain ⟨w3, hrun, hs2, hs3, hL3⟩ := HUP.out w2 bq sv2 hPT hI2 hF2; clear hPT hI2 hF2))
            all_goals
              go_wp2_with fail
              go_roundg (ks.length - (0 + 1))
              case measure => omega
              case rel => exact ⟨0 + 1, p + (flat tj).length, _, _, _, sv2, by omega, by go_num, HDN.out, hL3, HRN.out, HD2.out, HG2.out, HW2.out, HPP.out, HSN.out, HP2.out⟩
          · have hin : In.inn x j L = In.within x L := by unfold In.inn; rw [if_neg h8]
            have hcall := HIN.out sv iv (hiv1' hin)
            clear hin
            by_cases h8' : x.kind = 8
            · have hj9 : ¬ (j : Int) = 0 := by intro e; exact h8 ⟨h8', by omega⟩
              have hj9' : ((j : Int) == 0) = false := by simpa using hj9
              replace a0' := a0'.trans (congrArg (fun z => some (Value.int .i8 z)) h8')
              clear h8 h8' hj9
              clear HIN hv1' hiv1' hv1 hiv1 a0 hw1'
              go_upto_region 10 with fail
              rw [← hV1]
              clear hV1 p2 pkj pkz c4
              go_wp2_with fail
              go_region_held3 (fun W => W.cell? ⟨b, 3, none⟩ = some (.map (some mb))) (first | exact hs3 | exact hs2 | exact hb3' | go_keep) (first | (go_at_call 26; refine hcall.mono ?_; rintro e w2 ⟨bq, sv2, rfl, hPT, hI2, hF2⟩; obtain ⟨w3, hrun, hs2, hs3, hL3⟩ := HUP.out w2 bq sv2 hPT hI2 hF2; clear hPT hI2 hF2))
              all_goals
                go_wp2_with fail
                go_roundg (ks.length - (j + 1))
                case measure => omega
                case rel => exact ⟨j + 1, p + (flat tj).length, _, _, _, sv2, by omega, by go_num, HDN.out, hL3, HRN.out, HD2.out, HG2.out, HW2.out, HPP.out, HSN.out, HP2.out⟩
            · have e8 : (x.kind == 8) = false := by simpa using h8'
              clear h8 h8'
              clear HIN hv1' hiv1' hv1 hiv1 a0 hw1'
              go_upto_region 10 with fail
              rw [← hV1]
              clear hV1 p2 pkj pkz c4
              go_wp2_with fail
              go_region_held3 (fun W => W.cell? ⟨b, 3, none⟩ = some (.map (some mb))) (first | exact hs3 | exact hs2 | exact hb3' | go_keep) (first | (go_at_call 26; refine hcall.mono ?_; rintro e w2 ⟨bq, sv2, rfl, hPT, hI2, hF2⟩; obtain ⟨w3, hrun, hs2, hs3, hL3⟩ := HUP.out w2 bq sv2 hPT hI2 hF2; clear hPT hI2 hF2))
              all_goals
                go_wp2_with fail
                go_roundg (ks.length - (j + 1))
                case measure => omega
                case rel => exact ⟨j + 1, p + (flat tj).length, _, _, _, sv2, by omega, by go_num, HDN.out, hL3, HRN.out, HD2.out, HG2.out, HW2.out, HPP.out, HSN.out, HP2.out⟩
        · have hj' : ¬ (j : Int) < (ks.length : Int) := by omega
          obtain rfl : j = ks.length := by omega
          have hR := HR.out
          rw [List.drop_length, In.inL] at hR
          simp only [List.append_nil] at hR
          have hP := HP.out
          rw [List.drop_length] at hP
          simp only [flats, List.length_nil, Nat.add_zero] at hP
          have hplc := In.inL_plc N ts ks L x 0 (i + 1) ss
          rw [hR] at hplc
          obtain ⟨cur, hcu1, hcu2, hpn⟩ := hLq.pn
          obtain ⟨l1, l2, l3, l4, l5, l6, l7, l8⟩ := hLq.lt
          have hcur : cur = In.icells (dn.map In.PT.plc) := by
            apply List.ext_getElem?
            intro k
            by_cases hk : k < dn.length
            · exact hcu2 k hk
            · rw [List.getElem?_eq_none (by omega), List.getElem?_eq_none (by simp [In.icells]; omega)]
          rw [hcur, ← hdn] at hpn
          have hCs : In.Cst B ib fb p b i kb mb lo wr.heap.size md (.slice (some ⟨nb, no, none⟩) l.length cn) tv va l ts N ah bs wr (dn, sj) svj := ⟨hLq.is, hpn, hLq.ah, hLq.ks, ⟨by omega, l3, by omega, l5, by omega, l7, Nat.le_refl _⟩⟩
          have hKd : In.Kd2 l ts (dn.map In.PT.plc) ((In.plcs ks (i + 1)).map fun q => ts.getD q .tq) (ks.map In.rootN) := by
            have h := In.kd_of l ts ks (i + 1) rest HD1.out hGL
            rw [hplc.1]; exact h
          have hgd : ts.getD i .tq = τ := by rw [List.getD_eq_getElem?_getD, HT.out]; rfl
          have hcall := casts_any B ib fb p b i kb mb lo wr.heap.size 1 md _ tv va svj l ts N ah bs wr (dn, sj) x τ _ _ hCs hKd HX.out (by omega) HT.out h64 hGN hplc.2 (by have := HLN.out; simp only; omega) (by have := HLN.out; have := HKZ2.out; simp only; omega) κ hN0
          have HFIN : Aside (∀ (w5 : World) (sv5 : Value), In.Fy B ib lo wr.heap.size wr w5 → In.Cst B ib fb p b i kb mb lo wr.heap.size md (.slice (some ⟨nb, no, none⟩) l.length cn) tv va l ts N ah bs w5 ((In.wishes x τ ((In.plcs ks (i + 1)).map fun q => ts.getD q .tq)).foldl (In.wish x ((In.plcs ks (i + 1)).map fun q => ts.getD q .tq) (ks.map In.rootN)) (dn, sj)) sv5 → In.PtEnd B ib fb md (.slice (some ⟨nb, no, none⟩) l.length cn) tv l ts N w (i + (flat (T.nd x ks)).length) (In.inT N ts L (T.nd x ks) i ss) (.returned (.pointer (some ⟨b, 0, none⟩))) w5) := fun w5 sv5 hF hC => by
            have e1 : i + (flat (T.nd x ks)).length = p := by have := HKZ.out; omega
            rw [e1, In.inT]
            try simp only
            rw [hgd, hR, ← HAH.out]
            refine ⟨b, sv5, rfl, ?_, hC.is, hLq.fz.trans ((hF.fz l8).mono (by omega))⟩
            rw [In.IsPT]
            have hks := hC.ks
            have s5 := hF.size
            exact ⟨va, kb, mb, bs, lo, l2, l3, l4, l5, l6, l7, hC.pn, hC.ah, In.isPTs_up _ hks s5⟩
          clear hCs hKd hpn hLq HR HD HGL HWS HP hR hplc hcur
          go_wp2_with fail
          refine hcall.mono ?_
          rintro e w5 ⟨rfl, hF5, sv5, hC5⟩
          have HF5 : Aside (In.Fy B ib lo wr.heap.size wr w5) := hF5
          have HEN := HFIN.out w5 sv5 hF5 hC5
          clear hF5 hC5
          go_wp2_with fail
          go_ret
          exact HEN

theorem ipart_any (B ib fb : Nat) (md : ByteArray) (nv tv : Value) (l : List Nd) (ts : List Ty) (N : List (List UInt8)) (hmay : ∀ x ∈ l, Tr.mayB x = true) (hsz : ∀ x ∈ l, x.s.size ≤ maxLen) (hl : l.length ≤ 2000) (h64 : ∀ t ∈ ts, (enc t).length ≤ 64) (hN : N.length ≤ 1000) : ∀ n, In.PrtC B ib fb md nv tv l ts N n
  | 0 => by
    rintro ⟨x, ks⟩ i rest L w v sv ss hn
    simp [flat] at hn
  | n + 1 => ipart_step B ib fb md nv tv l ts N hmay hsz hl h64 hN n (ipart_any B ib fb md nv tv l ts N hmay hsz hl h64 hN n)
end Go.Proofs.YthdlfeejeboboaaGreatDoor
