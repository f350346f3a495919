/- The code of the bag's check from a region on, taken out of the translation by a function. The bag's check: do all marks stand? The bag's check: the lists are gone on with. The bag's check: its first two loops. -/
import Derived.Test.YtaaokecdmbmgbaaGreatDoorUbd
import Derived.StillTailTactics
namespace Go.Proofs.YtaaokecdmbmgbaaGreatDoor.Cq
open Go.RowKit
/-- The code from this region on. -/
def tailAt (n : Nat) : Code → Option Code
  | .seq (.region m ops d) b => if m = n then some (.seq (.region m ops d) b) else tailAt n b
  | .seq a b => match tailAt n a with
    | some c => some c
    | none => tailAt n b
  | _ => none
noncomputable def rest38 (n : Nat) : Code := match Tryz.f38.body.bind (tailAt n) with
  | some (.seq _ b) => b
  | _ => .skip
noncomputable def reg38 (n : Nat) : Code := match Tryz.f38.body.bind (tailAt n) with
  | some (.seq a _) => a
  | _ => .skip
/-- A loop's statement at this region, and what follows. -/
def forAt (n : Nat) : Code → Option (Code × Code × Code)
  | .seq (.seq (.region m ops d) c) b => if m = n then some (.region m ops d, c, b) else forAt n b
  | .seq _ b => forAt n b
  | _ => none
noncomputable def set20 : Code := ((Tryz.f38.body.bind (forAt 20)).getD (.skip, .skip, .skip)).1
noncomputable def loop20 : Code := ((Tryz.f38.body.bind (forAt 20)).getD (.skip, .skip, .skip)).2.1
noncomputable def end20 : Code := ((Tryz.f38.body.bind (forAt 20)).getD (.skip, .skip, .skip)).2.2
/-- A mark's cells, each by itself. -/
theorem MkAt.all {w : World} {b n i : Nat} (h : MkAt w b n i) : w.cell? ⟨b, i * 7, none⟩ = some (.int .i8 0) ∧ w.cell? ⟨b, i * 7 + 1, none⟩ = some (.int .i64 0) ∧ w.cell? ⟨b, i * 7 + 2, none⟩ = some (.bool false) ∧ w.cell? ⟨b, i * 7 + 3, none⟩ = some (.int .u8 0) ∧ w.cell? ⟨b, i * 7 + 4, none⟩ = some (.int .i64 (mk n i)) ∧ w.cell? ⟨b, i * 7 + 5, none⟩ = some (.int .u8 0) ∧ w.cell? ⟨b, i * 7 + 6, none⟩ = some (.int .u8 0) :=
  ⟨h 0 _ rfl, h 1 _ rfl, h 2 _ rfl, h 3 _ rfl, h 4 _ rfl, h 5 _ rfl, h 6 _ rfl⟩
theorem MkAt.below {w w' : World} {b n i : Nat} (h : MkAt w b n i) (hB : Below w.heap.size w w') : MkAt w' b n i :=
  fun k u hu => (hB.cell (p := ⟨b, i * 7 + k, none⟩) (mkAt_lt h)).trans (h k u hu)
theorem below_dN {b : Nat} {w w' : World} (h : Below b w w') (n : Nat) : Below b w (w'.drewN n) := ⟨h.os, h.tape, h.output, h.size, h.block⟩
theorem still_tail_drew {P : Program} {id : Nat} {Q : Exit → Act → World → Prop} {a : Act} {w : World} {l : List Oper} (n : Nat) (hm : P.follows .mixedOrders = true) (hB : Region.lexTailB .any l.toArray n = true)
    (h : wpStill P l.toArray w.drew (fun a' => wpList P l.toArray Q (l.drop n) a' w.drew) (l.take n) a) : (Code.region id l.toArray true).wp P Q a w :=
  wp_region_still_tail n hm hB h
end Go.Proofs.YtaaokecdmbmgbaaGreatDoor.Cq
namespace Go.Proofs.YtaaokecdmbmgbaaGreatDoor.Cq
open Go.RowKit
set_option linter.unusedSimpArgs false
set_option linter.unusedVariables false
set_option maxRecDepth 100000 in
set_option maxHeartbeats 10000000 in
theorem apart_c (w wc : World) (H B g N cT q oc mc : Nat) (oa ma : Option Addr) (vs os ms : List Value) (ow : Nat → Nat) (hG : Gro wc ow H B g N cT vs q os ms) (hK : Kp w wc H B) (_hNc : N ≤ cT) (hH : H ≤ w.heap.size) (hol : Aside (os.length = N)) (hml : Aside (ms.length = N)) (RO : Row wc ow H 22 1 2 (.slice oa N oc) N os) (RM : Row wc ow H 22 1 3 (.slice ma N mc) N ms) (K1 : Act → World → Prop) (hk1 : ∀ a w', Code.wp Tryz.prog end20 (bodyPost Tryz.prog Tryz.f38 fun e w' => e = .returned (.bool true) ∧ Kp w w' H B) a w' → K1 a w') (K : Act → World → Prop) (hk : ∀ a w', Code.wp Tryz.prog loop20 (Exit.then K1 (bodyPost Tryz.prog Tryz.f38 fun e w' => e = .returned (.bool true) ∧ Kp w w' H B)) a w' → K a w') (x1 x2 x3 x4 x7 x8 x9 x10 x11 x12 x13 x14 x15 x16 x17 x18 x19 x20 x21 x22 x23 x24 x25 x26 x27 x28 x29 x30 x31 x32 x33 x34 x35 x36 x37 x38 x39 x40 x41 x42 x43 x44 x45 x46 x47 x48 x49 x50 x51 x52 x53 x54 x55 x56 x57 x58 x59 x60 x61 x62 x63 x64 x65 x66 x67 x68 x69 x70 x71 x72 x73 x74 x75 x76 x77 x78 x79 x80 x81 x82 x83 x84 x85 x86 x87 x88 x89 x90 x91 x92 x93 x94 x95 x96 x97 x98 x99 x100 x101 x102 x103 x104 x105 x106 x107 x108 x109 x110 x111 x112 x113 x114 x115 x116 x117 x118 x119 x120 x121 x122 x123 x124 x125 x126 x127 x128 x129 x130 x131 x132 x133 x134 x135 x136 x137 x138 x139 x140 x141 x142 x143 x144 x145 x146 x147 x148 x149 x150 x151 x152 x153 x154 x155 x156 x157 x158 x159 x160 x161 x162 x163 x164 x165 x166 x167 x168 x169 x170 x171 x172 x173 x174 x175 x176 x177 x178 x179 x180 x181 x182 x183 x184 x185 x186 : Value) :
    Code.wp Tryz.prog set20 (Exit.then K (Exit.then K1 (bodyPost Tryz.prog Tryz.f38 fun e w' => e = .returned (.bool true) ∧ Kp w w' H B))) ⟨List.toArray (.pointer (some ⟨B, 0, none⟩) :: x1 :: x2 :: x3 :: x4 :: .slice oa N oc :: .slice ma N mc :: x7 :: x8 :: x9 :: x10 :: x11 :: x12 :: x13 :: x14 :: x15 :: x16 :: x17 :: x18 :: x19 :: x20 :: x21 :: x22 :: x23 :: x24 :: x25 :: x26 :: x27 :: x28 :: x29 :: x30 :: x31 :: x32 :: x33 :: x34 :: x35 :: x36 :: x37 :: x38 :: x39 :: x40 :: x41 :: x42 :: x43 :: x44 :: x45 :: x46 :: x47 :: x48 :: x49 :: x50 :: x51 :: x52 :: x53 :: x54 :: x55 :: x56 :: x57 :: x58 :: x59 :: x60 :: x61 :: x62 :: x63 :: x64 :: x65 :: x66 :: x67 :: x68 :: x69 :: x70 :: x71 :: x72 :: x73 :: x74 :: x75 :: x76 :: x77 :: x78 :: x79 :: x80 :: x81 :: x82 :: x83 :: x84 :: x85 :: x86 :: x87 :: x88 :: x89 :: x90 :: x91 :: x92 :: x93 :: x94 :: x95 :: x96 :: x97 :: x98 :: x99 :: x100 :: x101 :: x102 :: x103 :: x104 :: x105 :: x106 :: x107 :: x108 :: x109 :: x110 :: x111 :: x112 :: x113 :: x114 :: x115 :: x116 :: x117 :: x118 :: x119 :: x120 :: x121 :: x122 :: x123 :: x124 :: x125 :: x126 :: x127 :: x128 :: x129 :: x130 :: x131 :: x132 :: x133 :: x134 :: x135 :: x136 :: x137 :: x138 :: x139 :: x140 :: x141 :: x142 :: x143 :: x144 :: x145 :: x146 :: x147 :: x148 :: x149 :: x150 :: x151 :: x152 :: x153 :: x154 :: x155 :: x156 :: x157 :: x158 :: x159 :: x160 :: x161 :: x162 :: x163 :: x164 :: x165 :: x166 :: x167 :: x168 :: x169 :: x170 :: x171 :: x172 :: x173 :: x174 :: x175 :: x176 :: x177 :: x178 :: x179 :: x180 :: x181 :: x182 :: x183 :: x184 :: x185 :: x186 :: []), []⟩ wc := by
  conv => arg 2; whnf
  conv at hk => enter [a, w', 1, 2]; whnf
  conv at hk1 => enter [a, w', 1, 2]; whnf
  have hN := hG.few
  have hHl : H ≤ wc.heap.size := Nat.le_trans hH hK.below.size
  have hBl : B < wc.heap.size := World.block_lt_of_cell? wc _ hG.bag
  have hcur : Below wc.heap.size wc wc := Below.refl _ _
  go_wp2_with fail
  go_loopg [10] N (fun gh nv wr => ∃ n : Nat, n + gh = N ∧ nv = .int .i64 n ∧ Below wc.heap.size wc wr)
  case atStart => exact ⟨0, by omega, rfl, hcur⟩
  case round =>
    clear hcur
    obtain ⟨n, hng, rfl, hcur⟩ := hrel
    by_cases hn : n < N
    · have hn' : (n : Int) < (N : Int) := by omega
      have hn0 : (0 : Int) ≤ (n : Int) := by omega
      have hnm : n < ms.length := by rw [hml.out]; exact hn
      have hno : n < os.length := by rw [hol.out]; exact hn
      have hms := List.getElem?_eq_getElem hnm
      generalize ms[n] = mv at hms
      obtain ⟨la, L, lc, hv, b2, c2, rfl, hc2, -, hmc⟩ := hG.more n mv hms
      have hos := List.getElem?_eq_getElem hno
      generalize os[n] = ov at hos
      obtain ⟨la', L', lc', hv', b1, c1, rfl, hc1, -, hoc⟩ := hG.one n ov hos
      obtain ⟨rfl, rfl, rfl⟩ : la = la' ∧ L = L' ∧ lc = lc' := by rw [hv] at hv'; simpa using hv'
      obtain ⟨_, _, _, e', hL6, -, hrow⟩ := hG.row n _ hv
      obtain ⟨rfl, rfl, rfl⟩ := by simpa using e'
      obtain ⟨mb, mc', e1, -, hmcell⟩ := own_form RM.own (by omega)
      obtain ⟨rfl, rfl⟩ : ma = some ⟨mb, 0, none⟩ ∧ mc = mc' := by simpa using e1
      obtain ⟨ob, oc', e2, -, hocell⟩ := own_form RO.own (by omega)
      obtain ⟨rfl, rfl⟩ : oa = some ⟨ob, 0, none⟩ ∧ oc = oc' := by simpa using e2
      have hm1 := (hmcell n (by omega)).trans hms
      have ho1 := (hocell n (by omega)).trans hos
      have hg1 := hG.cell n _ hv
      have hb1 := hG.bag
      obtain ⟨-, hmN, -⟩ := row_cell RM hms
      obtain ⟨-, hoN, -⟩ := row_cell RO hos
      have HMC : Aside (∀ j, j < L + 70 → MkAt wc b2 n j) := hmc
      have HOC : Aside (MkAt wc b1 n L) := hoc
      have HRW : Aside (∀ j, j < L → ∃ b, la = some ⟨b, 0, none⟩ ∧ L ≤ lc ∧ MkAt wc b n j) := hrow
      clear hmcell hocell hms hos hv hv' e1 e2 e' hmc hoc hrow
      have hm1r := (hcur.cell (p := ⟨mb, n, none⟩) (World.block_lt_of_cell? _ _ hm1)).trans hm1
      go_wp2_with fail
      clear hm1r
      go_loopg [11] (L + 70) (fun gh iv wr => ∃ i : Nat, i + gh = L + 70 ∧ iv = .int .i64 i ∧ Below wc.heap.size wc wr)
      case atStart => exact ⟨0, by omega, rfl, hcur⟩
      case round =>
        clear hcur
        obtain ⟨i, hig, rfl, hcur⟩ := hrel
        have fm := (hcur.cell (p := ⟨mb, n, none⟩) (World.block_lt_of_cell? _ _ hm1)).trans hm1
        have fo := (hcur.cell (p := ⟨ob, n, none⟩) (World.block_lt_of_cell? _ _ ho1)).trans ho1
        have fg := (hcur.cell (p := ⟨g, n, none⟩) (World.block_lt_of_cell? _ _ hg1)).trans hg1
        have fb := (hcur.cell (p := ⟨B, 6, none⟩) (World.block_lt_of_cell? _ _ hb1)).trans hb1
        have lm := Nat.lt_of_lt_of_le (World.block_lt_of_cell? _ _ hm1) hcur.size
        have lo := Nat.lt_of_lt_of_le (World.block_lt_of_cell? _ _ ho1) hcur.size
        have lg := Nat.lt_of_lt_of_le (World.block_lt_of_cell? _ _ hg1) hcur.size
        have lb := Nat.lt_of_lt_of_le (World.block_lt_of_cell? _ _ hb1) hcur.size
        by_cases hi : i < L + 70
        · have hi' : (i : Int) < ((L + 70 : Nat) : Int) := by omega
          have hi'' : (i : Int) < (L : Int) + 70 := by omega
          have hi0 : (0 : Int) ≤ (i : Int) := by omega
          have hmi := (HMC.out i hi).below hcur
          have l2 := mkAt_lt hmi
          obtain ⟨p0, p1, p2, p3, p4, p5, p6⟩ := hmi.all
          have hX := text_any n i (by omega) (by omega)
          have HF : Aside (∀ (o : Obj) (a b : Nat) (u0 u1 u2 u3 u4 u5 u6 : Value), Below wc.heap.size wc ((((((((((wr.alloc o).drewN a).setCell ⟨wr.heap.size, 0, none⟩ u0).setCell ⟨wr.heap.size, 1, none⟩ u1).setCell ⟨wr.heap.size, 2, none⟩ u2).setCell ⟨wr.heap.size, 3, none⟩ u3).setCell ⟨wr.heap.size, 4, none⟩ u4).setCell ⟨wr.heap.size, 5, none⟩ u5).setCell ⟨wr.heap.size, 6, none⟩ u6).drewN b)) := fun o a b u0 u1 u2 u3 u4 u5 u6 => by
            have h0 := below_dN (hcur.alloc hcur.size o) a
            have hz := hcur.size
            exact below_dN ((((((((h0).setCell hz _).setCell hz _).setCell hz _).setCell hz _).setCell hz _).setCell hz _).setCell hz _) _
          clear hm1 ho1 hg1 hb1 hmi
          by_cases hiL : i < L
          · have hiL' : (i : Int) < (L : Int) := by omega
            have hne : ((i : Int) == (L : Int)) = false := by simp; omega
            obtain ⟨b0, rfl, hlc, hr⟩ := HRW.out i hiL
            have hr' := hr.below hcur
            have l0 := mkAt_lt hr'
            obtain ⟨r0, r1, r2, r3, r4, r5, r6⟩ := hr'.all
            clear hr hr'
            go_wp2_with fail
            go_quiet ((go_at_call 23; exact Calls.quiet_of_same (hX _)))
            go_wp2_with fail
            go_quiet ((go_at_call 23; exact Calls.quiet_of_same (hX _)))
            go_wp2_with fail
            go_roundg (gk - 1)
            case measure => omega
            case rel => exact ⟨i + 1, by omega, by go_num, by exact HF.out _ _ _ _ _ _ _ _ _ _⟩
          · have hiL' : decide ((i : Int) < (L : Int)) = false := by simp; omega
            by_cases hE : i = L
            · subst hE
              have hr' := HOC.out.below hcur
              have l0 := mkAt_lt hr'
              obtain ⟨r0, r1, r2, r3, r4, r5, r6⟩ := hr'.all
              have hi1 : (i : Int) < (i : Int) + 1 := by omega
              have hi2 : (i : Int) < ((i + 1 : Nat) : Int) := by omega
              clear hr'
              go_wp2_with fail
              go_quiet ((go_at_call 23; exact Calls.quiet_of_same (hX _)))
              go_wp2_with fail
              go_quiet ((go_at_call 23; exact Calls.quiet_of_same (hX _)))
              go_wp2_with fail
              go_roundg (gk - 1)
              case measure => omega
              case rel => exact ⟨i + 1, by omega, by go_num, by exact HF.out _ _ _ _ _ _ _ _ _ _⟩
            · have hne : ((i : Int) == (L : Int)) = false := by simp; omega
              go_wp2_with fail
              go_quiet ((go_at_call 23; exact Calls.quiet_of_same (hX _)))
              go_wp2_with fail
              go_quiet ((go_at_call 23; exact Calls.quiet_of_same (hX _)))
              go_wp2_with fail
              go_roundg (gk - 1)
              case measure => omega
              case rel => exact ⟨i + 1, by omega, by go_num, by exact HF.out _ _ _ _ _ _ _ _ _ _⟩
        · have hi' : decide ((i : Int) < ((L + 70 : Nat) : Int)) = false := by simp; omega
          have hi'' : decide ((i : Int) < (L : Int) + 70) = false := by simp; omega
          go_wp2_with fail
          go_roundg (N - (n + 1))
          case measure => omega
          case rel => exact ⟨n + 1, by omega, by go_num, hcur⟩
    · have hn' : decide ((n : Int) < (N : Int)) = false := by simp; omega
      go_wp2_with fail
      go_ret
      exact ⟨rfl, kp_below hK hcur hHl hBl⟩
end Go.Proofs.YtaaokecdmbmgbaaGreatDoor.Cq
namespace Go.Proofs.YtaaokecdmbmgbaaGreatDoor.Cq
open Go.RowKit
set_option linter.unusedSimpArgs false
set_option linter.unusedVariables false
set_option maxRecDepth 100000 in
set_option maxHeartbeats 10000000 in
theorem apart_b (w wc : World) (H B g N cT : Nat) (vs : List Value) (ow : Nat → Nat) (hG : Gro wc ow H B g N cT vs 0 [] []) (hK : Kp w wc H B) (hNc : N ≤ cT) (hH : H ≤ w.heap.size) (K : Act → World → Prop) (hk : ∀ a w', Code.wp Tryz.prog (rest38 8) (bodyPost Tryz.prog Tryz.f38 fun e w' => e = .returned (.bool true) ∧ Kp w w' H B) a w' → K a w') (x1 x2 x3 x4 x5 x6 x7 x8 x9 x10 x11 x12 x13 x14 x15 x16 x17 x18 x19 x20 x21 x22 x23 x24 x25 x26 x27 x28 x29 x30 x31 x32 x33 x34 x35 x36 x37 x38 x39 x40 x41 x42 x43 x44 x45 x46 x47 x48 x49 x50 x51 x52 x53 x54 x55 x56 x57 x58 x59 x60 x61 x62 x63 x64 x65 x66 x67 x68 x69 x70 x71 x72 x73 x74 x75 x76 x77 x78 x79 x80 x81 x82 x83 x84 x85 x86 x87 x88 x89 x90 x91 x92 x93 x94 x95 x96 x97 x98 x99 x100 x101 x102 x103 x104 x105 x106 x107 x108 x109 x110 x111 x112 x113 x114 x115 x116 x117 x118 x119 x120 x121 x122 x123 x124 x125 x126 x127 x128 x129 x130 x131 x132 x133 x134 x135 x136 x137 x138 x139 x140 x141 x142 x143 x144 x145 x146 x147 x148 x149 x150 x151 x152 x153 x154 x155 x156 x157 x158 x159 x160 x161 x162 x163 x164 x165 x166 x167 x168 x169 x170 x171 x172 x173 x174 x175 x176 x177 x178 x179 x180 x181 x182 x183 x184 x185 x186 : Value) :
    Code.wp Tryz.prog (reg38 8) (Exit.then K (bodyPost Tryz.prog Tryz.f38 fun e w' => e = .returned (.bool true) ∧ Kp w w' H B)) ⟨List.toArray (.pointer (some ⟨B, 0, none⟩) :: x1 :: x2 :: x3 :: x4 :: x5 :: x6 :: x7 :: x8 :: x9 :: x10 :: x11 :: x12 :: x13 :: x14 :: x15 :: x16 :: x17 :: x18 :: x19 :: x20 :: x21 :: x22 :: x23 :: x24 :: x25 :: x26 :: x27 :: x28 :: x29 :: x30 :: x31 :: x32 :: x33 :: x34 :: x35 :: x36 :: x37 :: x38 :: x39 :: x40 :: x41 :: x42 :: x43 :: x44 :: x45 :: x46 :: x47 :: x48 :: x49 :: x50 :: x51 :: x52 :: x53 :: x54 :: x55 :: x56 :: x57 :: x58 :: x59 :: x60 :: x61 :: x62 :: x63 :: x64 :: x65 :: x66 :: x67 :: x68 :: x69 :: x70 :: x71 :: x72 :: x73 :: x74 :: x75 :: x76 :: x77 :: x78 :: x79 :: x80 :: x81 :: x82 :: x83 :: x84 :: x85 :: x86 :: x87 :: x88 :: x89 :: x90 :: x91 :: x92 :: x93 :: x94 :: x95 :: x96 :: x97 :: x98 :: x99 :: x100 :: x101 :: x102 :: x103 :: x104 :: x105 :: x106 :: x107 :: x108 :: x109 :: x110 :: x111 :: x112 :: x113 :: x114 :: x115 :: x116 :: x117 :: x118 :: x119 :: x120 :: x121 :: x122 :: x123 :: x124 :: x125 :: x126 :: x127 :: x128 :: x129 :: x130 :: x131 :: x132 :: x133 :: x134 :: x135 :: x136 :: x137 :: x138 :: x139 :: x140 :: x141 :: x142 :: x143 :: x144 :: x145 :: x146 :: x147 :: x148 :: x149 :: x150 :: x151 :: x152 :: x153 :: x154 :: x155 :: x156 :: x157 :: x158 :: x159 :: x160 :: x161 :: x162 :: x163 :: x164 :: x165 :: x166 :: x167 :: x168 :: x169 :: x170 :: x171 :: x172 :: x173 :: x174 :: x175 :: x176 :: x177 :: x178 :: x179 :: x180 :: x181 :: x182 :: x183 :: x184 :: x185 :: x186 :: []), []⟩ wc := by
  conv => arg 2; whnf
  conv at hk => enter [a, w', 1, 2]; whnf
  have hN := hG.few
  obtain ⟨i9, hi9, h90, h91, h92⟩ := info_parts infoE
  obtain ⟨i26, hi26, h260, h261, h262⟩ := info_parts infoL
  go_wp2_with fail
  go_loopg [5, 6, 7] N (fun gh ov mv nv wr => ∃ (n : Nat) (ow : Nat → Nat) (os ms : List Value), n + gh = N ∧ nv = .int .i64 n ∧ Aside (os.length = n) ∧ Aside (ms.length = n) ∧ Row wr ow H 22 1 2 ov n os ∧ Row wr ow H 22 1 3 mv n ms ∧ Aside (Kp w wr H B) ∧ Aside (Gro wr ow H B g N cT vs n os ms))
  case atStart => exact ⟨0, ow, [], [], by omega, rfl, rfl, rfl, ⟨own_nil _ _ _ _, fun b h => by simp [Value.ownBlock] at h⟩, ⟨own_nil _ _ _ _, fun b h => by simp [Value.ownBlock] at h⟩, hK, hG⟩
  case round =>
    clear hK hG ow
    obtain ⟨n, ow, os, ms, hng, rfl, hol, hml, RO, RM, HK, HG⟩ := hrel
    have hbag := HG.out.bag
    by_cases hn : n < N
    · have hn' : (n : Int) < (N : Int) := by omega
      have hn0 : (0 : Int) ≤ (n : Int) := by omega
      have hnv : n < vs.length := by rw [HG.out.num]; exact hn
      have hv := List.getElem?_eq_getElem hnv
      generalize vs[n] = v at hv
      obtain ⟨la, L, lc, xs, rfl, hown, hxs⟩ := HG.out.own n v (Nat.le_refl _) hv
      obtain ⟨la', L', lc', e', hL6, htag, _⟩ := HG.out.row n _ hv
      obtain ⟨rfl, rfl, rfl⟩ : la = la' ∧ L = L' ∧ lc = lc' := by simpa using e'
      have hcg := HG.out.cell n _ hv
      have HV : Aside (vs[n]? = some (.slice la L lc)) := hv
      clear hv e'
      go_wp2_with fail
      go_loopg [5, 8, 9] 70 (fun gh ov lv iv wr => ∃ (i : Nat) (ow : Nat → Nat) (os xs : List Value), i + gh = L + 70 ∧ L ≤ i ∧ iv = .int .i64 i ∧ Row wr ow H 28 7 (10 + n) lv i xs ∧ Aside (∀ j, j < i → ∀ p u, (mkc n j)[p]? = some u → xs[j * 7 + p]? = some u) ∧ Aside (i = L ∧ os.length = n ∨ L < i ∧ os.length = n + 1) ∧ Row wr ow H 22 1 2 ov os.length os ∧ Row wr ow H 22 1 3 u6 ms.length ms ∧ Aside (Kp w wr H B) ∧ Aside (Gro wr ow H B g N cT vs (n + 1) os ms))
      case atStart => exact ⟨L, ow, os, xs, by omega, Nat.le_refl _, rfl, ⟨hown, fun b hb => (htag b hb).1⟩, hxs, .inl ⟨rfl, hol.out⟩, by rw [hol.out]; exact RO, by rw [hml.out]; exact RM, HK, HG.out.keep (stays_below (Below.refl _ _)) (τ := 2) (fun b e => by cases e) (by omega) (.inl rfl)⟩
      case round =>
        clear hbag hcg hown hxs htag RO RM HK HG hol
        obtain ⟨i, ow, os, xs, hig, hLi, rfl, RL, HX, HI, RO, RM, HK, HG⟩ := hrel
        have hbag := HG.out.bag
        have hcg := HG.out.cell n _ HV.out
        have hHr : H ≤ wr.heap.size := Nat.le_trans hH HK.out.below.size
        have hxl := RL.own.1
        obtain ⟨va, vc, rfl⟩ := own_len RL.own
        obtain ⟨oa, oc, rfl⟩ := own_len RO.own
        obtain ⟨ma, mc, rfl⟩ := own_len RM.own
        have hmb : ms.length ≤ 300 := by have := hml.out; omega
        have hob : os.length ≤ 301 := by rcases HI.out with ⟨_, h⟩ | ⟨_, h⟩ <;> omega
        have hX := text_any n i (by omega) (by omega)
        by_cases hi : i < L + 70
        · have hi' : (i : Int) < (L : Int) + 70 := by omega
          rcases HI.out with ⟨rfl, hol'⟩ | ⟨hLt, hol'⟩
          · have hol : Aside (os.length = n) := hol'
            have hmay : May vs os ms (n + 1) (i * 7) (10 + n) := .inr (.inr ⟨n, rfl, by omega, by have := hml.out; omega, fun a l c h => by
              rw [HV.out] at h
              obtain ⟨-, rfl, -⟩ : la = a ∧ i = l ∧ lc = c := by simpa using h
              exact ⟨by omega, fun h => by omega⟩⟩)
            clear hol'
            go_upto_region 17 with (first | (go_at_call 23; refine (hX _).mono ?_; rintro e w' ⟨rfl, hw'⟩; replace hw' := hw'.symm; subst hw') | (at_builtin; go_must (refine wpList_append_stays _ rfl _ _ 22 rfl H 28 i9 (.agg #[.int .i8 0, .int .i64 0, .bool false, .int .u8 0, .int .i64 0, .int .u8 0, .int .u8 0]) 7 40 tyL hi9 h90 h91 h92 rfl (by decide) (.slice va i vc) _ _ rfl (RL.own.alloc _) ⟨wr.heap.size, 0, none⟩ 1 (mkc n i) rfl rfl (cells_list_new _ (mkc n i) 28) (mkc_one n i) (by unfold maxLen; omega) (by omega) (by simp; omega) ?_); intro g2 cap w2 hown2 hst hloc; obtain ⟨G2, K2, R2, H2, O2⟩ := gro_step HG.out HK.out RL (below_alloc wr _) hst hown2 hloc hmay hHr; have hbag2 := G2.bag; have hcg2 := G2.cell n _ HV.out; have RO2 := O2 22 1 2 _ _ _ (by omega) RO; have RM2 := O2 22 1 3 _ _ _ (by omega) RM; clear hst hown2 hloc))
            go_wp2_with (first | (at_builtin; go_must (refine wpList_append_stays _ rfl _ _ 46 rfl H 22 i26 (.slice none 0 0) 1 24 tyLL hi26 h260 h261 h262 rfl (by decide) (.slice oa os.length oc) _ _ rfl (RO2.own.alloc _) ⟨w2.heap.size, 0, none⟩ 1 [.slice (some ⟨g2, 0, none⟩) (i + 1) cap] rfl rfl (cells_list_new _ [.slice (some ⟨g2, 0, none⟩) (i + 1) cap] 22) (by simp [Value.oneCell']) (by unfold maxLen; omega) (by omega) (by simp; omega) ?_); intro g4 cap4 w4 hown4 hst4 hloc4; obtain ⟨G4, K4, R4, H4, O4⟩ := gro_step G2 K2 RO2 (below_alloc w2 _) hst4 hown4 hloc4 (.inl rfl) H2))
            go_roundg (gk - 1)
            case measure => omega
            case rel =>
              have HX2 := marks_snoc hxl HX.out
              have R5 := O4 28 7 (10 + n) _ _ _ (by omega) R2
              have c2 := own_cap R5.own (by omega)
              have c1 := own_mk R5.own (by omega) (HX2 i (by omega))
              have G5 := gro_addOne (c' := cap) (b := g2) G4 (by rw [hol.out]; exact HV.out) c2 (by rw [hol.out]; exact R5.tag g2 rfl) (by rw [hol.out]; exact c1)
              refine ⟨i + 1, _, _, _, by omega, by omega, by go_num, R5, HX2, .inr ⟨by omega, by simp [hol.out]⟩, ?_, O4 22 1 3 _ _ _ (by omega) RM2, K4, G5⟩
              rw [List.length_append]
              exact R4
          · have hol : Aside (os.length = n + 1) := hol'
            have hne : ((i : Int) == (L : Int)) = false := by simp; omega
            have hmay : May vs os ms (n + 1) (i * 7) (10 + n) := .inr (.inr ⟨n, rfl, by omega, by have := hml.out; omega, fun a l c h => by
              rw [HV.out] at h
              obtain ⟨-, rfl, -⟩ : la = a ∧ L = l ∧ lc = c := by simpa using h
              exact ⟨by omega, fun h => by omega⟩⟩)
            clear hol'
            go_wp2_with (first | (go_at_call 23; refine (hX _).mono ?_; rintro e w' ⟨rfl, hw'⟩; replace hw' := hw'.symm; subst hw') | (at_builtin; go_must (refine wpList_append_stays _ rfl _ _ 22 rfl H 28 i9 (.agg #[.int .i8 0, .int .i64 0, .bool false, .int .u8 0, .int .i64 0, .int .u8 0, .int .u8 0]) 7 40 tyL hi9 h90 h91 h92 rfl (by decide) (.slice va i vc) _ _ rfl (RL.own.alloc _) ⟨wr.heap.size, 0, none⟩ 1 (mkc n i) rfl rfl (cells_list_new _ (mkc n i) 28) (mkc_one n i) (by unfold maxLen; omega) (by omega) (by simp; omega) ?_); intro g2 cap w2 hown2 hst hloc; obtain ⟨G2, K2, R2, H2, O2⟩ := gro_step HG.out HK.out RL (below_alloc wr _) hst hown2 hloc hmay hHr; have hbag2 := G2.bag; have hcg2 := G2.cell n _ HV.out; have RO2 := O2 22 1 2 _ _ _ (by omega) RO; have RM2 := O2 22 1 3 _ _ _ (by omega) RM; clear hst hown2 hloc))
            go_roundg (gk - 1)
            case measure => omega
            case rel =>
              have HX2 := marks_snoc hxl HX.out
              exact ⟨i + 1, _, _, _, by omega, by omega, by go_num, R2, HX2, .inr ⟨by omega, hol.out⟩, RO2, RM2, K2, G2⟩
        · have hi' : decide ((i : Int) < (L : Int) + 70) = false := by simp; omega
          have hiL : i = L + 70 := by omega
          obtain ⟨lb, lcap, e1, hlc, hlcell⟩ := own_form RL.own (by omega)
          obtain ⟨rfl, rfl⟩ : va = some ⟨lb, 0, none⟩ ∧ vc = lcap := by simpa using e1
          have hol : Aside (os.length = n + 1) := by
            show _ = _
            rcases HI.out with ⟨h, _⟩ | ⟨_, h⟩
            · omega
            · exact h
          have HIL : Aside (i = L + 70) := hiL
          clear hiL
          go_wp2_with (first | (at_builtin; go_must (refine wpList_append_stays _ rfl _ _ 46 rfl H 22 i26 (.slice none 0 0) 1 24 tyLL hi26 h260 h261 h262 rfl (by decide) (.slice ma ms.length mc) _ _ rfl (RM.own.alloc _) ⟨wr.heap.size, 0, none⟩ 1 [.slice (some ⟨lb, 0, none⟩) i vc] rfl rfl (cells_list_new _ [.slice (some ⟨lb, 0, none⟩) i vc] 22) (by simp [Value.oneCell']) (by unfold maxLen; omega) (by omega) (by simp; omega) ?_); intro g4 cap4 w4 hown4 hst4 hloc4; obtain ⟨G4, K4, R4, H4, O4⟩ := gro_step HG.out HK.out RM (below_alloc wr _) hst4 hown4 hloc4 (.inr (.inl rfl)) hHr))
          go_roundg (N - (n + 1))
          case measure => omega
          case rel =>
            have hiL := HIL.out
            subst hiL
            have R5 := O4 28 7 (10 + n) _ _ _ (by omega) RL
            have G5 := gro_addMore (c' := vc) (b := lb) G4 (by rw [hml.out]; exact HV.out) hlc (by rw [hml.out]; exact R5.tag lb rfl) (by
              intro j hj
              rw [hml.out]
              exact own_mk R5.own hj (HX.out j hj))
            exact ⟨n + 1, _, os, _, by omega, by go_num, hol, by show _ = _; simp [hml.out], by rw [show n + 1 = os.length by rw [hol.out]]; exact O4 22 1 2 _ _ _ (by omega) RO, by rw [show n + 1 = ms.length + 1 by rw [hml.out]]; exact R4, K4, G5⟩
    · have hn' : decide ((n : Int) < (N : Int)) = false := by simp; omega
      obtain rfl : n = N := by omega
      obtain ⟨oa, oc, rfl⟩ := own_len RO.own
      obtain ⟨ma, mc, rfl⟩ := own_len RM.own
      go_upto_region 20 with fail
      exact apart_c w _ H B g n cT _ oc mc oa ma vs os ms ow HG.out HK.out hNc hH hol hml RO RM _ (by assumption) _ (by assumption) _ _ _ _ _ _ _ _ _ _ _ _ _ _ _ _ _ _ _ _ _ _ _ _ _ _ _ _ _ _ _ _ _ _ _ _ _ _ _ _ _ _ _ _ _ _ _ _ _ _ _ _ _ _ _ _ _ _ _ _ _ _ _ _ _ _ _ _ _ _ _ _ _ _ _ _ _ _ _ _ _ _ _ _ _ _ _ _ _ _ _ _ _ _ _ _ _ _ _ _ _ _ _ _ _ _ _ _ _ _ _ _ _ _ _ _ _ _ _ _ _ _ _ _ _ _ _ _ _ _ _ _ _ _ _ _ _ _ _ _ _ _ _ _ _ _ _ _ _ _ _ _ _ _ _ _ _ _ _ _ _ _ _ _ _ _ _ _ _ _ _ _ _ _ _ _ _ _ _ _ _ _ _ _
end Go.Proofs.YtaaokecdmbmgbaaGreatDoor.Cq
namespace Go.Proofs.YtaaokecdmbmgbaaGreatDoor.Cq
open Go.RowKit
set_option linter.unusedSimpArgs false
set_option linter.unusedVariables false
theorem open_world {P : Program} {O : Array Oper} {Q : Exit → Act → World → Prop} {l : List Oper} {a : Act} {wr w1 : World} (h1 : w1 = wr.drewN 1)
    (h : ∀ wd : World, wd = wr.drewN 1 → (∀ p, wd.cell? p = wr.cell? p) → (∀ p, wd.frozen? p = wr.frozen? p) → wpList P O Q l a wd) : wpList P O Q l a w1 := by
  subst h1; exact h _ rfl (fun _ => rfl) (fun _ => rfl)
set_option maxRecDepth 100000 in
set_option maxHeartbeats 10000000 in
theorem apart_any (w : World) (H B g N cT : Nat) (vs : List Value) (hL : Lain w H B g N cT vs (fun _ => 0)) (hNc : N ≤ cT) (hH : H ≤ w.heap.size) :
    Calls Tryz.prog 38 #[.pointer (some ⟨B, 0, none⟩)] w fun e w' => e = .returned (.bool true) ∧ Kp w w' H B := by
  have hN := hL.few
  have hBl := hL.lB
  have hgl := hL.lg
  have HU0 : Aside (Upto w H B g N cT vs 0 0) := ⟨fun _ => 0, hL, fun k _ _ _ hk => by omega, rfl, fun _ _ => rfl⟩
  have hb0 := hL.bag
  clear hL
  go_enter Tryz.func38, Tryz.ntmps38
  go_wp2_with fail
  go_loopg [3] N (fun gh nv wr => ∃ n : Nat, n + gh = N ∧ nv = .int .i64 n ∧ Aside (Kp w wr H B) ∧ Aside (Upto wr H B g N cT vs n 0))
  case atStart => exact ⟨0, by omega, rfl, ⟨Below.refl _ _, rfl⟩, HU0.out⟩
  case round =>
    obtain ⟨n, hng, rfl, HK, HU⟩ := hrel
    have hbag : wr.cell? ⟨B, 6, none⟩ = some (.slice (some ⟨g, 0, none⟩) N cT) := by obtain ⟨m, h1, _⟩ := HU.out; exact h1.bag
    by_cases hn : n < N
    · have hn' : (n : Int) < (N : Int) := by omega
      obtain ⟨a, l, c, hv, hl6⟩ : ∃ a l c, Aside (vs[n]? = some (.slice a l c)) ∧ l ≤ 1000000 := by
        obtain ⟨m, h1, _⟩ := HU.out
        obtain ⟨a, l, c, h2, _, h3, _⟩ := lain_at h1 hn
        exact ⟨a, l, c, h2, h3⟩
      clear hb0
      go_wp2_with fail
      clear hbag
      go_loopg [4] l (fun gh iv wr => ∃ i : Nat, i + gh = l ∧ iv = .int .i64 i ∧ Aside (Kp w wr H B) ∧ Aside (Upto wr H B g N cT vs n i))
      case atStart => exact ⟨0, by omega, rfl, HK, HU⟩
      case round =>
        obtain ⟨i, hig, rfl, HK, HU⟩ := hrel
        obtain ⟨hbag, hcg, hat⟩ : wr.cell? ⟨B, 6, none⟩ = some (.slice (some ⟨g, 0, none⟩) N cT) ∧ wr.cell? ⟨g, n, none⟩ = some (.slice a l c) ∧ (i < l → ∃ b, a = some ⟨b, 0, none⟩ ∧ H ≤ b ∧ b ≠ B ∧ b ≠ g ∧ b < wr.heap.size ∧ l ≤ c ∧ (∀ k, k < 7 → ∃ u, wr.cell? ⟨b, i * 7 + k, none⟩ = some u) ∧ ∀ o, wr.frozen? ⟨b, o, none⟩ = false) := by
          obtain ⟨m, h1, _⟩ := HU.out
          obtain ⟨a', l', c', h2, h3, _, h4⟩ := lain_at h1 hn
          have h2' := h2
          rw [hv.out] at h2
          obtain ⟨rfl, rfl, rfl⟩ : a = a' ∧ l = l' ∧ c = c' := by simpa using h2
          exact ⟨h1.bag, h3, h4 i⟩
        have hn0 : (0 : Int) ≤ (n : Int) := by omega
        have hi0 : (0 : Int) ≤ (i : Int) := by omega
        have hsz := HK.out.below.size
        by_cases hi : i < l
        · have hi' : (i : Int) < (l : Int) := by omega
          obtain ⟨b, rfl, hHb, hbB, hbg, hbl, hlc, hus, hfu⟩ := hat hi
          obtain ⟨u0, hu0⟩ := hus 0 (by decide)
          obtain ⟨u1, hu1⟩ := hus 1 (by decide)
          obtain ⟨u2, hu2⟩ := hus 2 (by decide)
          obtain ⟨u3, hu3⟩ := hus 3 (by decide)
          obtain ⟨u4, hu4⟩ := hus 4 (by decide)
          obtain ⟨u5, hu5⟩ := hus 5 (by decide)
          obtain ⟨u6, hu6⟩ := hus 6 (by decide)
          have hf0 := hfu (i * 7)
          have hf1 := hfu (i * 7 + 1)
          have hf2 := hfu (i * 7 + 2)
          have hf3 := hfu (i * 7 + 3)
          have hf4 := hfu (i * 7 + 4)
          have hf5 := hfu (i * 7 + 5)
          have hf6 := hfu (i * 7 + 6)
          clear hus hfu
          have hBw : B < wr.heap.size := by omega
          have hgw : g < wr.heap.size := by omega
          have hX := text_any n i (by omega) (by omega)
          have HKP : Aside (∀ nq, Kp w (putL (wr.drewN nq) b (i * 7) (mkc n i)) H B) := fun nq => kp_put (kp_below HK.out (below_dN (Below.refl _ _) nq) (by omega) (by omega)) hHb (Ne.symm hbB) _ _
          have HUP : Aside (∀ nq, Upto (putL (wr.drewN nq) b (i * 7) (mkc n i)) H B g N cT vs n (i + 1)) := fun nq => upto_mark (upto_below HU.out (below_dN (Below.refl _ _) nq)) hv.out hi
          have hmix : Tryz.prog.follows .mixedOrders = true := by kernel_rfl
          go_wp2_with fail
          refine wp_region_still_tail 13 hmix (by kernel_rfl) ?_
          simp only [List.take_succ_cons, List.take_zero, List.drop_succ_cons, List.drop_zero]
          repeat still_step
          still_call (hX _)
          repeat still_step
          refine wpStill_nil ?_
          refine open_world (wr := wr) rfl ?_
          intro wd hwd hcl hfl
          have HKP : Aside (Kp w (putL wd b (i * 7) (mkc n i)) H B) := by subst hwd; exact HKP.out 1
          have HUP : Aside (Upto (putL wd b (i * 7) (mkc n i)) H B g N cT vs n (i + 1)) := by subst hwd; exact HUP.out 1
          have hu0 : wd.cell? ⟨b, i * 7, none⟩ = some u0 := (hcl ⟨b, i * 7, none⟩).trans hu0
          have hu1 := (hcl ⟨b, i * 7 + 1, none⟩).trans hu1
          have hu2 := (hcl ⟨b, i * 7 + 2, none⟩).trans hu2
          have hu3 := (hcl ⟨b, i * 7 + 3, none⟩).trans hu3
          have hu4 := (hcl ⟨b, i * 7 + 4, none⟩).trans hu4
          have hu5 := (hcl ⟨b, i * 7 + 5, none⟩).trans hu5
          have hu6 := (hcl ⟨b, i * 7 + 6, none⟩).trans hu6
          have hf0 := (hfl ⟨b, i * 7, none⟩).trans hf0
          have hf1 := (hfl ⟨b, i * 7 + 1, none⟩).trans hf1
          have hf2 := (hfl ⟨b, i * 7 + 2, none⟩).trans hf2
          have hf3 := (hfl ⟨b, i * 7 + 3, none⟩).trans hf3
          have hf4 := (hfl ⟨b, i * 7 + 4, none⟩).trans hf4
          have hf5 := (hfl ⟨b, i * 7 + 5, none⟩).trans hf5
          have hf6 := (hfl ⟨b, i * 7 + 6, none⟩).trans hf6
          clear hcl hfl hwd
          go_wp2_with fail
          go_roundg (gk - 1)
          case measure => omega
          case rel => exact ⟨i + 1, by omega, by go_num, HKP.out, HUP.out⟩
        · have hi' : decide ((i : Int) < (l : Int)) = false := by simp; omega
          obtain rfl : i = l := by omega
          go_wp2_with fail
          go_roundg (N - (n + 1))
          case measure => omega
          case rel => exact ⟨n + 1, by omega, by go_num, HK, upto_next HU.out hv.out⟩
    · have hn' : decide ((n : Int) < (N : Int)) = false := by simp; omega
      clear hb0
      obtain rfl : n = N := by omega
      obtain ⟨ow, hG⟩ := gro_start HU.out
      go_upto_region 8 with fail
      exact apart_b w _ H B g n cT vs ow hG HK.out hNc hH _ (by assumption) _ _ _ _ _ _ _ _ _ _ _ _ _ _ _ _ _ _ _ _ _ _ _ _ _ _ _ _ _ _ _ _ _ _ _ _ _ _ _ _ _ _ _ _ _ _ _ _ _ _ _ _ _ _ _ _ _ _ _ _ _ _ _ _ _ _ _ _ _ _ _ _ _ _ _ _ _ _ _ _ _ _ _ _ _ _ _ _ _ _ _ _ _ _ _ _ _ _ _ _ _ _ _ _ _ _ _ _ _ _ _ _ _ _ _ _ _ _ _ _ _ _ _ _ _ _ _ _ _ _ _ _ _ _ _ _ _ _ _ _ _ _ _ _ _ _ _ _ _ _ _ _ _ _ _ _ _ _ _ _ _ _ _ _ _ _ _ _ _ _ _ _ _ _ _ _ _ _ _ _ _ _ _ _ _ _
end Go.Proofs.YtaaokecdmbmgbaaGreatDoor.Cq
