/- What the listed package-level variables give a walk: the two errors of strconv hold interface values; and one start in which they lie so. A slice of bytes that came in, as the list of its bytes. -/
import Derived.Test.YtohjfikjbeafiaaGreatDoorGac
import Derived.Deep.Cut
import Derived.ProofKit
import Derived.LaidMore
import Derived.OpenShut
import Derived.Stop.Joined
import Derived.Stop.LaidErr
import Derived.ShutString
import Derived.ChangeOld
namespace Go.Proofs.YtohjfikjbeafiaaGreatDoor.T1
open Go.RowKit

/-- The cells of tokens that lie one behind the other. -/
def tkCells (bs : List UInt8) (l : List (Tx.Tk × Nat)) : List Value :=
  l.flatMap fun x => (tokCells x.1.kind x.1.n x.1.s ((Tx.lnTo bs x.2 : Int) + 1) ((x.2 : Int) - (Tx.stTo bs x.2 : Int) + 1)).toList
theorem tkCells_append (bs : List UInt8) (a b : List (Tx.Tk × Nat)) : tkCells bs (a ++ b) = tkCells bs a ++ tkCells bs b := by simp [tkCells]
theorem tkCells_length (bs : List UInt8) (l : List (Tx.Tk × Nat)) : (tkCells bs l).length = l.length * 5 := by
  induction l with
  | nil => rfl
  | cons x l ih => 
    have : tkCells bs (x :: l) = (tokCells x.1.kind x.1.n x.1.s ((Tx.lnTo bs x.2 : Int) + 1) ((x.2 : Int) - (Tx.stTo bs x.2 : Int) + 1)).toList ++ tkCells bs l := by simp [tkCells]
    rw [this, List.length_append, ih]
    simp
    omega

/-- How Tokens ends. -/
def TokensEnd (w w' : World) (bs : List UInt8) (r : Except (Int × Nat) (List (Tx.Tk × Nat))) (e : Ending) : Prop :=
  Below w.heap.size w w' ∧ match r with
    | .error (er, k) => e = .returned (.tuple #[.slice none 0 0, .int .i64 er, .agg #[.int .i64 ((Tx.lnTo bs k : Int) + 1), .int .i64 ((k : Int) - (Tx.stTo bs k : Int) + 1)]])
    | .ok l => ∃ v, e = .returned (.tuple #[v, .int .i64 0, .agg #[.int .i64 0, .int .i64 0]]) ∧ w'.ownsRow w.heap.size 194 5 v l.length (tkCells bs l)

theorem info40 : (Tryz.prog.info? 194).map (fun i => (i.zero, i.size, i.bytes)) = some (some (.agg #[.int .i8 0, .int .i64 0, .string ⟨#[]⟩, .int .i64 0, .int .i64 0]), 5, 48) := by kernel_rfl
theorem ty26 : Tryz.prog.underlying 116 = some (.slice 194) := by kernel_rfl

/-- What holds at the head of each round of Tokens: R the reader's block, behind it the token's and the place's. -/
structure TInv (w wr : World) (R b off cap : Nat) (bs : List UInt8) (k : Nat) (done : List (Tx.Tk × Nat)) (v : Value) : Prop where
  rdr : Rdr wr R b off cap (w.heap.size + 1) bs k (Tx.lnTo bs k) (Tx.stTo bs k)
  res : wr.heap[w.heap.size]? = some (.cells #[.int .i64 0, .int .i64 0] 28 (0, 0))
  tok : ∃ kind n s l c, wr.heap[R + 1]? = some (.cells (tokCells kind n s l c) 194 (0, 0))
  plc : ∃ p q, wr.heap[R + 2]? = some (.cells #[.int .i64 p, .int .i64 q] 28 (0, 0))
  own : wr.ownsRow (R + 3) 194 5 v done.length (tkCells bs done)
  below : Below w.heap.size w wr
  size : R + 3 ≤ wr.heap.size
  rlow : w.heap.size + 1 < R

theorem own_kept {W W' : World} {base e size n : Nat} {v : Value} {xs : List Value} {row : Option Nat} (h : W.ownsRow base e size v n xs) (hg : W.grownBy W' row) (hr : ∀ x, row = some x → x < base) : W'.ownsRow base e size v n xs :=
  h.kept hg (by
    cases hv : v.ownBlock with
    | none => exact Or.inl rfl
    | some x => right; have h1 := (h.lt x hv).1; intro e; have := hr x e.symm; omega)

theorem own_base {W : World} {base base' e size n : Nat} {v : Value} {xs : List Value} (h : W.ownsRow base' e size v n xs) (hb : base ≤ base') : W.ownsRow base e size v n xs := by
  obtain ⟨h1, h2⟩ := h
  refine ⟨h1, ?_⟩
  rcases h2 with h2 | ⟨g, cap, cur, hv, hg, r⟩
  · exact Or.inl h2
  · exact Or.inr ⟨g, cap, cur, hv, Nat.le_trans hb hg, r⟩
theorem grownBy_set2 (w : World) (g : Nat) (v0 v1 : Value) : w.grownBy ((w.setCell ⟨g, 0, none⟩ v0).setCell ⟨g, 1, none⟩ v1) (some g) := grownBy_set (grownBy_set (grownBy_refl w _) _) _

theorem set2_block {W : World} {g : Nat} {a c x y : Value} {t : TypeId} (h : W.heap[g]? = some (.cells #[a, c] t (0, 0))) : ((W.setCell ⟨g, 0, none⟩ x).setCell ⟨g, 1, none⟩ y).heap[g]? = some (.cells #[x, y] t (0, 0)) := by
  simp [World.setCell, Array.getElem?_modify, h]
theorem set5_block {W : World} {g : Nat} {a0 a1 a2 a3 a4 v0 v1 v2 v3 v4 : Value} {t : TypeId} (h : W.heap[g]? = some (.cells #[a0, a1, a2, a3, a4] t (0, 0))) :
    (((((W.setCell ⟨g, 0, none⟩ v0).setCell ⟨g, 1, none⟩ v1).setCell ⟨g, 2, none⟩ v2).setCell ⟨g, 3, none⟩ v3).setCell ⟨g, 4, none⟩ v4).heap[g]? = some (.cells #[v0, v1, v2, v3, v4] t (0, 0)) := by
  simp [World.setCell, Array.getElem?_modify, h]
theorem set34_block {W : World} {g : Nat} {a0 a1 a2 a3 a4 v3 v4 : Value} {t : TypeId} (h : W.heap[g]? = some (.cells #[a0, a1, a2, a3, a4] t (0, 0))) :
    ((W.setCell ⟨g, 3, none⟩ v3).setCell ⟨g, 4, none⟩ v4).heap[g]? = some (.cells #[a0, a1, a2, v3, v4] t (0, 0)) := by
  simp [World.setCell, Array.getElem?_modify, h]

theorem cells_five_new (w : World) (v0 v1 v2 v3 v4 : Value) (t : TypeId) : ∀ j u, [v0, v1, v2, v3, v4][j]? = some u → (w.alloc (.cells #[v0, v1, v2, v3, v4] t)).cell? ((⟨w.heap.size, 0, none⟩ : Addr).add j) = some u := by
  intro j u hj
  have hb := block_cells (heap_alloc_new w (.cells #[v0, v1, v2, v3, v4] t))
  match j, hj with
  | 0, hj => simp at hj; subst hj; simp [Addr.add, hb.1]
  | 1, hj => simp at hj; subst hj; simp [Addr.add, hb.1]
  | 2, hj => simp at hj; subst hj; simp [Addr.add, hb.1]
  | 3, hj => simp at hj; subst hj; simp [Addr.add, hb.1]
  | 4, hj => simp at hj; subst hj; simp [Addr.add, hb.1]
  | j + 5, hj => simp at hj
theorem five_one (k n : Int) (s : ByteArray) (l c : Int) : ∀ u ∈ [Value.int .i8 k, .int .i64 n, .string s, .int .i64 l, .int .i64 c], u.oneCell' = true := by
  intro u hu
  simp at hu
  rcases hu with rfl | rfl | rfl | rfl | rfl <;> rfl

/-- One token more. -/
theorem TInv.more {w wr W : World} {R b off cap : Nat} {bs : List UInt8} {k : Nat} {done : List (Tx.Tk × Nat)} {v v' : Value} {row : Option Nat} (h : TInv w wr R b off cap bs k done v) (hb : b < R) (hg : wr.grownBy W row) (hr : ∀ x, row = some x → R + 3 ≤ x) (x : Tx.Tk × Nat)
    (hown : W.ownsRow (R + 3) 194 5 v' (done ++ [x]).length (tkCells bs (done ++ [x]))) : TInv w W R b off cap bs k (done ++ [x]) v' := by
  have h1 := h.rlow
  have h2 := h.size
  obtain ⟨kd, nn, ss, ll, cc, ht⟩ := h.tok
  obtain ⟨p, q, hp⟩ := h.plc
  have no : ∀ y, y < R + 3 → some y ≠ row := fun y hy e => by have := hr y e.symm; omega
  refine ⟨?_, (hg.block _ (by omega) (no _ (by omega))).trans h.res, ⟨_, _, _, _, _, (hg.block _ (by omega) (no _ (by omega))).trans ht⟩, ⟨_, _, (hg.block _ (by omega) (no _ (by omega))).trans hp⟩, hown, h.below.grown hg (by omega) (fun x e => by have := hr x e; omega), Nat.le_trans h2 hg.size, h1⟩
  have hd := h.rdr
  refine ⟨?_, hd.words.kept hg (no _ (by omega)), hd.mne, hd.len, hd.cap, hd.ne, fun j hj => hg.cell (hd.cells j hj) (no b (by omega)), hd.vars.next hg (fun x e => by have := hr x e; have := hd.rge; omega), hd.rge⟩
  have e := hg.block R hd.rd.lt (no _ (by omega))
  have er := hd.rd
  unfold Rd at *
  rw [e, er]

/-- The reader goes on; all else stays. -/
theorem TInv.go {w wr W : World} {R b off cap : Nat} {bs : List UInt8} {k k' : Nat} {done : List (Tx.Tk × Nat)} {v : Value} (h : TInv w wr R b off cap bs k done v) (hg : wr.grownBy W (some R))
    (hR : Rd W R (.slice (some ⟨b, off, none⟩) bs.length cap) (.map (some (w.heap.size + 1))) k' (Tx.lnTo bs k') (Tx.stTo bs k')) : TInv w W R b off cap bs k' done v := by
  have h1 := h.rlow
  have h2 := h.size
  obtain ⟨kind, n, s, l, c, ht⟩ := h.tok
  obtain ⟨p, q, hp⟩ := h.plc
  exact ⟨h.rdr.next hg hR, (hg.block _ (by omega) (by simp; omega)).trans h.res, ⟨_, _, _, _, _, (hg.block _ (by omega) (by simp)).trans ht⟩, ⟨_, _, (hg.block _ (by omega) (by simp)).trans hp⟩,
    own_kept h.own hg (fun x e => by cases e; omega), h.below.grown hg (by omega) (fun x e => by cases e; omega), Nat.le_trans h2 hg.size, h1⟩

/-- A block that was new to the reader is written; the parts that are handed in say what became of the token's and the place's. -/
theorem TInv.beside {w wr W : World} {R b off cap : Nat} {bs : List UInt8} {k : Nat} {done : List (Tx.Tk × Nat)} {v : Value} {row : Option Nat} (h : TInv w wr R b off cap bs k done v) (hb : b < R) (hg : wr.grownBy W row) (hr : ∀ x, row = some x → R < x ∧ x < R + 3)
    (ht : ∃ kind n s l c, W.heap[R + 1]? = some (.cells (tokCells kind n s l c) 194 (0, 0))) (hp : ∃ p q, W.heap[R + 2]? = some (.cells #[.int .i64 p, .int .i64 q] 28 (0, 0))) : TInv w W R b off cap bs k done v := by
  have h1 := h.rlow
  have h2 := h.size
  have hr' : ∀ x, row = some x → R < x := fun x e => (hr x e).1
  refine ⟨?_, (hg.block _ (by omega) (by intro e; have := hr' _ e.symm; omega)).trans h.res, ht, hp, own_kept h.own hg (fun x e => (hr x e).2), h.below.grown hg (by omega) (fun x e => by have := hr' x e; omega), Nat.le_trans h2 hg.size, h1⟩
  have hd := h.rdr
  refine ⟨?_, hd.words.kept hg (by intro e; have := hr' _ e.symm; omega), hd.mne, hd.len, hd.cap, hd.ne, fun j hj => hg.cell (hd.cells j hj) (by intro e; have := hr' _ e.symm; simp at this; omega), hd.vars.next hg (fun x e => by have := hr' x e; have := hd.rge; omega), hd.rge⟩
  have e := hg.block R hd.rd.lt (by intro e; have := hr' _ e.symm; omega)
  have er := hd.rd
  unfold Rd at *
  rw [e, er]

/-- What holds ahead of the first round. -/
theorem TInv.start {w w1 : World} {b off cap : Nat} {bs : List UInt8} (hl : bs.length ≤ 65536) (hcap : bs.length ≤ cap) (hv : Vars w) (_h2 : 6 ≤ w.heap.size) (hb : b < w.heap.size) (hc : ∀ j, j < bs.length → w.cell? ⟨b, off + j, none⟩ = some (.int .u8 (Tx.B bs j)))
    (hW : WM (w.alloc (.cells #[.int .i64 0, .int .i64 0] 28)) w1 (w.heap.size + 1) 23 Tx.words) :
    TInv w (((w1.alloc (.cells #[.slice (some ⟨b, off, none⟩) bs.length cap, .map (some (w.heap.size + 1)), .int .i64 0, .int .i64 0, .int .i64 0] 192)).alloc (.cells (tokCells 0 0 [] 0 0) 194)).alloc (.cells #[.int .i64 0, .int .i64 0] 28)) w1.heap.size b off cap bs 0 [] (.slice none 0 0) := by
  obtain ⟨D, hD, _, hB⟩ := id hW
  have hWs := IsWords.of hW
  have hlt1 := hD.lt
  have hgw : w.grownBy w1 none := ⟨hB.os, hB.tape, hB.output, by omega, fun k hk _ => (hB.block k (by omega)).trans (Below.heap_alloc _ _ _ hk)⟩
  have h0 : Rdr (w1.alloc (.cells #[.slice (some ⟨b, off, none⟩) bs.length cap, .map (some (w.heap.size + 1)), .int .i64 0, .int .i64 0, .int .i64 0] 192)) w1.heap.size b off cap (w.heap.size + 1) bs 0 (Tx.lnTo bs 0) (Tx.stTo bs 0) := by
    refine ⟨heap_alloc_new _ _, hWs.kept (World.grownBy_alloc _ _ none) (by simp), by omega, hl, hcap, by omega, fun j hj => ?_, (hv.next hgw (fun k e => by cases e)).next (World.grownBy_alloc _ _ none) (fun k e => by cases e), by omega⟩
    exact (World.grownBy_alloc w1 _ none).cell (hgw.cell (hc j hj) (by simp)) (by simp)
  have hr1 : w1.heap[w.heap.size]? = some (.cells #[.int .i64 0, .int .i64 0] 28 (0, 0)) := (hB.block _ (by omega)).trans (heap_alloc_new _ _)
  refine ⟨(h0.alloc _).alloc _, ?_, ⟨0, 0, [], 0, 0, ?_⟩, ⟨0, 0, ?_⟩, World.ownsRow_nil _ _ _ _, ?_, by simp, by omega⟩
  · rw [Below.heap_alloc _ _ _ (by simp; omega), Below.heap_alloc _ _ _ (by simp; omega), Below.heap_alloc _ _ _ (by omega)]
    exact hr1
  · rw [Below.heap_alloc _ _ _ (by simp)]
    have e : (w1.alloc (.cells #[.slice (some ⟨b, off, none⟩) bs.length cap, .map (some (w.heap.size + 1)), .int .i64 0, .int .i64 0, .int .i64 0] 192)).heap.size = w1.heap.size + 1 := by simp
    rw [← e]
    exact heap_alloc_new _ _
  · have e : ((w1.alloc (.cells #[.slice (some ⟨b, off, none⟩) bs.length cap, .map (some (w.heap.size + 1)), .int .i64 0, .int .i64 0, .int .i64 0] 192)).alloc (.cells (tokCells 0 0 [] 0 0) 194)).heap.size = w1.heap.size + 2 := by simp
    rw [← e]
    exact heap_alloc_new _ _
  · have hb1 : Below w.heap.size w w1 := ⟨hgw.os, hgw.tape, hgw.output, hgw.size, fun k hk => hgw.block k hk (by simp)⟩
    exact ((hb1.alloc (by omega) _).alloc (by simp; omega) _).alloc (by simp; omega) _

set_option maxRecDepth 100000 in
set_option maxHeartbeats 2000000 in
theorem tokens_some (w : World) (b off cap : Nat) (bs : List UInt8) (hl : bs.length ≤ 65536) (hcap : bs.length ≤ cap) (hpos : 0 < bs.length) (hv : Vars w) (h2 : 6 ≤ w.heap.size) (hb : b < w.heap.size)
    (hc : ∀ j, j < bs.length → w.cell? ⟨b, off + j, none⟩ = some (.int .u8 (Tx.B bs j))) :
    Calls Tryz.prog 73 #[.slice (some ⟨b, off, none⟩) bs.length cap] w fun e w' => TokensEnd w w' bs (Tx.all bs) e := by
  have hd : decide ((65536 : Int) < (bs.length : Int)) = false := by simp; omega
  obtain ⟨i0, hi, hz0, hz1, hz2⟩ := info_parts info40
  go_enter Tryz.func73, Tryz.ntmps73
  go_wp2_with fail
  go_step3
  go_wp2_with fail
  refine (wordKinds_any _).mono ?_
  rintro e w1 ⟨rfl, hW⟩
  rw [show (w.alloc (.cells #[.int .i64 0, .int .i64 0] 28)).heap.size = w.heap.size + 1 from by simp] at hW
  have hI := TInv.start hl hcap hv h2 hb hc hW
  clear hW hv hc
  go_wp2_with fail
  go_step3
  go_wp2_with fail
  generalize w1.heap.size = R at *
  go_loopg [6, 9] (bs.length + 1) (fun g v s9 wr => ∃ (k : Nat) (done : List (Tx.Tk × Nat)), k ≤ bs.length ∧ bs.length - k < g ∧ done.length ≤ k ∧ s9 = .int .i64 0 ∧ TInv w wr R b off cap bs k done v ∧ Aside (Tx.ahead done (Tx.toks bs g k) = Tx.all bs))
  case atStart => exact ⟨0, [], by omega, by omega, by simp, rfl, hI, Tx.ahead_nil _⟩
  case round =>
    obtain ⟨k, done, hk, hkg, hdone, rfl, hT, HA⟩ := hrel
    clear hI
    have hlow := hT.rlow
    have hsz := hT.size
    obtain ⟨-, -, c2, -, -⟩ := hT.rdr.rd.c
    match gk, hkg, HA with
    | g + 1, hkg, HA =>
    by_cases hlt : k < bs.length
    · have cx := hT.rdr.cells k hlt
      have hlt' : (k : Int) < (bs.length : Int) := by omega
      have hk0 : (0 : Int) ≤ (k : Int) := by omega
      by_cases h35 : (Tx.B bs k == 35) = true
      · have HS : Aside (Tx.ahead done (Tx.toks bs g (Tx.upTo Tx.blankB bs (Tx.upTo Tx.notTen bs k))) = Tx.all bs) := by rw [← HA.out]; show _ = _; rw [Tx.toks_remark hlt h35]
        go_wp2_with fail
        refine (passRemark_any _ R b off cap bs _ k _ _ hT.rdr.rd hk hl hT.rdr.ne hT.rdr.cells).mono ?_
        rintro e w2 ⟨rfl, hR2, hg2⟩
        have hln := Tx.lnst_upto (Tx.upTo_le Tx.notTen bs k) (fun i a b => Tx.upTo_notTen_clean bs k i a b)
        rw [← hln.1, ← hln.2] at hR2
        have hT2 := hT.go hg2 hR2
        have e1 := Tx.upTo_len Tx.notTen hk
        have e2 := Tx.upTo_lt (p := Tx.notTen) hlt (by simp at h35; simp [Tx.notTen, h35])
        have e3 := Tx.upTo_len Tx.blankB e1
        have e4 := Tx.upTo_le Tx.blankB bs (Tx.upTo Tx.notTen bs k)
        clear hln hR2 hg2 hT c2 cx h35
        go_wp2_with fail
        refine (passBlanks_any _ R b off cap bs _ _ hT2.rdr.rd e1 hl hT2.rdr.ne hT2.rdr.cells).mono ?_
        rintro e w3 ⟨rfl, hR3, hg3⟩
        have hT3 := hT2.go hg3 hR3
        clear hR3 hg3 hT2
        go_wp2_with fail
        go_roundg g
        case measure => omega
        case rel => exact ⟨_, done, e3, by omega, by omega, rfl, hT3, HS.out⟩
      · have h35' : (Tx.B bs k == 35) = false := by simpa using h35
        clear h35
        by_cases hbl : Tx.blankB (Tx.B bs k) = true
        · have HS : Aside (Tx.ahead done (Tx.toks bs g (Tx.upTo Tx.blankB bs k)) = Tx.all bs) := by rw [← HA.out]; show _ = _; rw [Tx.toks_blank hlt h35' hbl]
          have e2 := Tx.upTo_lt (p := Tx.blankB) hlt hbl
          have e3 := Tx.upTo_len Tx.blankB hk
          go_wp2_with (go_at_call 122; refine (isBlank_any _ _).mono ?_; rintro e w' ⟨rfl, rfl⟩)
          refine (passBlanks_any _ R b off cap bs _ _ hT.rdr.rd hk hl hT.rdr.ne hT.rdr.cells).mono ?_
          rintro e w3 ⟨rfl, hR3, hg3⟩
          have hT3 := hT.go hg3 hR3
          clear hR3 hg3 hT c2 cx h35' hbl
          go_wp2_with fail
          go_roundg g
          case measure => omega
          case rel => exact ⟨_, done, e3, by omega, by omega, rfl, hT3, HS.out⟩
        · have hbl' : Tx.blankB (Tx.B bs k) = false := by simpa using hbl
          clear hbl
          have e1 := Tx.lnTo_le bs k
          have e2 := Tx.stTo_le bs k
          go_wp2_with (go_at_call 122; refine (isBlank_any _ _).mono ?_; rintro e w' ⟨rfl, rfl⟩)
          refine (place_any _ R _ _ k _ _ hT.rdr.rd (by omega) (by omega) e2).mono ?_
          rintro e w2 ⟨rfl, hg2⟩
          obtain ⟨kd, nn, ss, ll, cc, ht⟩ := hT.tok
          obtain ⟨p, q, hp⟩ := hT.plc
          have hp2 := (hg2.block _ (by omega) (by simp)).trans hp
          have hT2 := hT.beside (by omega) hg2 (fun x e => by cases e) ⟨_, _, _, _, _, (hg2.block _ (by omega) (by simp)).trans ht⟩ ⟨_, _, hp2⟩
          clear hT ht hp c2 cx
          have hn := block_cells hp2
          have d0 := hn.1 0
          have d1 := hn.1 1
          simp at d0 d1
          have d5 := hn.2
          clear hn
          go_wp2_with fail
          have hg3 := grownBy_set2 w2 (R + 2) (Value.int IntKind.i64 (↑(Tx.lnTo bs k) + 1)) (Value.int IntKind.i64 (↑k - ↑(Tx.stTo bs k) + 1))
          have hp3 := set2_block (x := Value.int IntKind.i64 (↑(Tx.lnTo bs k) + 1)) (y := Value.int IntKind.i64 (↑k - ↑(Tx.stTo bs k) + 1)) hp2
          have hT3 := hT2.beside (by omega) hg3 (fun x e => by cases e; omega) (by obtain ⟨a1, a2, a3, a4, a5, a6⟩ := hT2.tok; exact ⟨_, _, _, _, _, (hg3.block _ (by have := hT2.size; omega) (by simp)).trans a6⟩) ⟨_, _, hp3⟩
          clear hT2 hp2 d0 d1 d5 hg3 hg2
          generalize (w2.setCell { block := R + 2, off := 0 } (Value.int IntKind.i64 (↑(Tx.lnTo bs k) + 1))).setCell { block := R + 2, off := 1 } (Value.int IntKind.i64 (↑k - ↑(Tx.stTo bs k) + 1)) = w3 at *
          refine (token_any _ R b off cap _ bs k _ _ hT3.rdr hlt).mono ?_
          intro e w4 hTE
          cases hone : Tx.one bs k with
          | error er =>
            rw [hone] at hTE
            obtain ⟨hg4, rfl⟩ := hTE
            have HS : Aside (Tx.all bs = .error (er, k)) := by rw [← HA.out]; show _ = _; rw [Tx.toks_err hlt h35' hbl' hone]; rfl
            have her : (er != 0) = true := by rcases Tx.one_err hone with rfl | rfl | rfl | rfl <;> rfl
            have hp4 := (hg4.block _ (by have := hT3.size; omega) (by simp)).trans hp3
            have hsz3 := hT3.size
            have hr4 := (hg4.block _ (by omega) (by simp; omega)).trans hT3.res
            obtain ⟨kd', nn', ss', ll', cc', ht3⟩ := hT3.tok
            have ht4 := (hg4.block _ (by have := hT3.size; omega) (by simp)).trans ht3
            have hg4s := Nat.le_trans hT3.size hg4.size
            have hB4 := hT3.below.grown hg4 (by omega) (fun x e => by cases e; omega)
            clear hT3 hp3 hg4 hone ht3
            have hn := block_cells ht4
            have d0 := hn.1 0
            have d1 := hn.1 1
            have d2 := hn.1 2
            have d3 := hn.1 3
            have d4 := hn.1 4
            simp at d0 d1 d2 d3 d4
            have d5 := hn.2
            clear hn
            go_upto_region 20 with fail
            have hg5 := grownBy_set5 w4 (R + 1) (.int .i8 0) (.int .i64 0) (.string ⟨#[]⟩) (.int .i64 0) (.int .i64 0)
            have hr5 := (hg5.block _ (by have := hg4s; omega) (by simp; omega)).trans hr4
            have hp5 := (hg5.block (R + 2) (by have := hg4s; omega) (by simp)).trans hp4
            have hB5 := hB4.grown hg5 (by have := hg4s; omega) (fun x e => by cases e; omega)
            generalize (((((w4.setCell { block := R + 1, off := 0 } (Value.int IntKind.i8 0)).setCell { block := R + 1, off := 1 } (Value.int IntKind.i64 0)).setCell { block := R + 1, off := 2 } (Value.string { data := #[] })).setCell { block := R + 1, off := 3 } (Value.int IntKind.i64 0)).setCell { block := R + 1, off := 4 } (Value.int IntKind.i64 0)) = w5 at *
            clear hr4 hp4 hB4 hg5 d0 d1 d2 d3 d4 d5
            have hn := block_cells hr5
            have d0 := hn.1 0
            have d1 := hn.1 1
            simp at d0 d1
            have d5 := hn.2
            have hm := block_cells hp5
            have m0 := hm.1 0
            have m1 := hm.1 1
            simp at m0 m1
            clear hn hm
            go_region
            go_wp2_with fail
            show bodyPost Tryz.prog Tryz.f73 (fun e w' => TokensEnd w w' bs (Tx.all bs) e) Exit.ret _ _
            refine bodyPost_ret (v := .tuple #[.slice none 0 0, .int .i64 er, .agg #[.int .i64 (↑(Tx.lnTo bs k) + 1), .int .i64 (↑k - ↑(Tx.stTo bs k) + 1)]]) (by simp [results, Tryz.results73, go_sem, d0, d1]) rfl ?_
            rw [HS.out]
            exact ⟨(hB5.grown (grownBy_set2 w5 w.heap.size _ _) (by have := hB5.size; omega) (fun x e => by cases e; omega)).drew, rfl⟩
          | ok r =>
            obtain ⟨t, j⟩ := r
            rw [hone] at hTE
            obtain ⟨hg4, rfl, hR4⟩ := hTE
            have hj := Tx.one_ok hlt hone
            have HS : Aside (Tx.ahead (done ++ [(t, k)]) (Tx.toks bs g j) = Tx.all bs) := by rw [← HA.out]; show _ = _; rw [Tx.toks_ok done hlt h35' hbl' hone]
            have hln := Tx.lnst_upto (Nat.le_of_lt hj.1) hj.2.2
            have hR4' := hR4.rd
            rw [← hln.1, ← hln.2] at hR4'
            have hT4 := hT3.go hg4 hR4'
            have hp4 := (hg4.block _ (by have := hT3.size; omega) (by simp)).trans hp3
            obtain ⟨kd', nn', ss', ll', cc', ht4⟩ := hT4.tok
            clear hT3 hp3 hg4 hR4 hR4' hln hone
            have hn := block_cells ht4
            have d0 := hn.1 0
            have d1 := hn.1 1
            have d2 := hn.1 2
            have d3 := hn.1 3
            have d4 := hn.1 4
            simp at d0 d1 d2 d3 d4
            have d5 := hn.2
            have hm := block_cells hp4
            have m0 := hm.1 0
            have m1 := hm.1 1
            simp at m0 m1
            clear hn hm
            obtain ⟨tk, tn, ts⟩ := t
            go_upto_region 17 with fail
            have hg5 := grownBy_set5 w4 (R + 1) (.int .i8 tk) (.int .i64 tn) (.string ⟨ts.toArray⟩) (.int .i64 0) (.int .i64 0)
            have ht5 := set5_block (v0 := .int .i8 tk) (v1 := .int .i64 tn) (v2 := .string ⟨ts.toArray⟩) (v3 := .int .i64 0) (v4 := .int .i64 0) ht4
            have hp5 := (hg5.block (R + 2) (by have := hT4.size; omega) (by simp)).trans hp4
            have hT5 := hT4.beside (by omega) hg5 (fun x e => by cases e; omega) ⟨_, _, _, _, _, ht5⟩ ⟨_, _, hp5⟩
            generalize (((((w4.setCell { block := R + 1, off := 0 } (Value.int IntKind.i8 tk)).setCell { block := R + 1, off := 1 } (Value.int IntKind.i64 tn)).setCell { block := R + 1, off := 2 } (Value.string { data := ts.toArray })).setCell { block := R + 1, off := 3 } (Value.int IntKind.i64 0)).setCell { block := R + 1, off := 4 } (Value.int IntKind.i64 0)) = w5 at *
            clear hT4 ht4 hp4 hg5 d0 d1 d2 d3 d4 d5 m0 m1
            have hn := block_cells ht5
            have d0 := hn.1 0
            have d1 := hn.1 1
            have d2 := hn.1 2
            have d3 := hn.1 3
            have d4 := hn.1 4
            simp at d0 d1 d2 d3 d4
            have d5 := hn.2
            have hm := block_cells hp5
            have m0 := hm.1 0
            have m1 := hm.1 1
            simp at m0 m1
            clear hn hm
            go_upto_region 18 with fail
            have hg6 := grownBy_trans (grownBy_set (rb := R + 1) (o := 3) (grownBy_refl w5 _) (Value.int IntKind.i64 (↑(Tx.lnTo bs k) + 1))) (grownBy_set (rb := R + 1) (o := 4) (grownBy_refl _ _) (Value.int IntKind.i64 (↑k - ↑(Tx.stTo bs k) + 1)))
            have ht6 := set34_block (v3 := Value.int IntKind.i64 (↑(Tx.lnTo bs k) + 1)) (v4 := Value.int IntKind.i64 (↑k - ↑(Tx.stTo bs k) + 1)) ht5
            have hp6 := (hg6.block (R + 2) (by have := hT5.size; omega) (by simp)).trans hp5
            have hT6 := hT5.beside (by omega) hg6 (fun x e => by cases e; omega) ⟨_, _, _, _, _, ht6⟩ ⟨_, _, hp6⟩
            generalize ((w5.setCell { block := R + 1, off := 3 } (Value.int IntKind.i64 (↑(Tx.lnTo bs k) + 1))).setCell { block := R + 1, off := 4 } (Value.int IntKind.i64 (↑k - ↑(Tx.stTo bs k) + 1))) = w6 at *
            clear hT5 ht5 hp5 hg6 d0 d1 d2 d3 d4 d5 m0 m1 hp6
            have hn := block_cells ht6
            have d0 := hn.1 0
            have d1 := hn.1 1
            have d2 := hn.1 2
            have d3 := hn.1 3
            have d4 := hn.1 4
            simp at d0 d1 d2 d3 d4
            clear hn
            have hown6 := hT6.own
            have hsz6 := hT6.size
            go_wp2_with (at_builtin; go_must (refine wpList_append_own _ rfl _ _ 116 rfl (R + 3) 194 i0 (.agg #[.int .i8 0, .int .i64 0, .string ⟨#[]⟩, .int .i64 0, .int .i64 0]) 5 48 ty26 hi hz0 hz1 hz2 rfl (by decide) u6 _ _ rfl (hown6.alloc _) ⟨w6.heap.size, 0, none⟩ 1 1 (tokCells tk tn ts (↑(Tx.lnTo bs k) + 1) (↑k - ↑(Tx.stTo bs k) + 1)).toList rfl rfl (cells_five_new _ _ _ _ _ _ _) (five_one _ _ _ _ _) (by unfold maxLen; omega) (by omega) (by simp; omega) ?_); intro v7 w7 hown7 hg7 _)
            go_roundg g
            case measure => omega
            case rel =>
              refine ⟨j, done ++ [(⟨tk, tn, ts⟩, k)], hj.2.1, by omega, by simp; omega, rfl, hT6.more (by omega) (grownBy_alloc_pre hg7) (fun x e => (hown6.lt x e).1) _ ?_, HS⟩
              rw [tkCells_append, List.length_append]
              exact hown7
    · have hlt' : ¬ (k : Int) < (bs.length : Int) := by omega
      have HS : Aside (Tx.all bs = .ok done) := by rw [← HA.out]; show _ = _; rw [Tx.toks_end hlt]; simp [Tx.ahead]
      have hn := block_cells hT.res
      have d0 := hn.1 0
      have d1 := hn.1 1
      simp at d0 d1
      have d5 := hn.2
      clear hn
      go_wp2_with fail
      refine bodyPost_ret (v := .tuple #[u6, .int .i64 0, .agg #[.int .i64 0, .int .i64 0]]) (by simp [results, Tryz.results73, go_sem, d0, d1]) rfl ?_
      rw [HS.out]
      have hgs := grownBy_set2 wr w.heap.size (.int .i64 0) (.int .i64 0)
      exact ⟨hT.below.grown hgs (by omega) (fun x e => by cases e; omega), u6, rfl, own_base (own_kept hT.own hgs (fun x e => by cases e; omega)) (by omega)⟩
end Go.Proofs.YtohjfikjbeafiaaGreatDoor.T1
namespace Go.Proofs.YtohjfikjbeafiaaGreatDoor.T1
open Go.RowKit

set_option maxRecDepth 100000 in
set_option maxHeartbeats 1000000 in
theorem tokens_long (w : World) (a : Option Addr) (len cap : Nat) (hl : 65536 < len) :
    Calls Tryz.prog 73 #[.slice a len cap] w fun e w' => e = .returned (.tuple #[.slice none 0 0, .int .i64 10, .agg #[.int .i64 0, .int .i64 0]]) ∧ Below w.heap.size w w' := by
  have hd : (65536 : Int) < (len : Int) := by omega
  go_enter Tryz.func73, Tryz.ntmps73
  go_wp2_with fail
  go_step3
  go_wp2_with fail
  show bodyPost Tryz.prog Tryz.f73 (fun e w' => e = .returned (.tuple #[.slice none 0 0, .int .i64 10, .agg #[.int .i64 0, .int .i64 0]]) ∧ Below w.heap.size w w') Exit.ret _ _
  refine bodyPost_ret (v := .tuple #[.slice none 0 0, .int .i64 10, .agg #[.int .i64 0, .int .i64 0]]) (by simp [results, Tryz.results73, go_sem]) rfl ?_
  exact ⟨rfl, (Below.refl _ _).alloc (Nat.le_refl _) _⟩

set_option maxRecDepth 100000 in
set_option maxHeartbeats 1000000 in
theorem tokens_none (w : World) (a : Option Addr) (cap : Nat) :
    Calls Tryz.prog 73 #[.slice a 0 cap] w fun e w' => e = .returned (.tuple #[.slice none 0 0, .int .i64 0, .agg #[.int .i64 0, .int .i64 0]]) ∧ Below w.heap.size w w' := by
  go_enter Tryz.func73, Tryz.ntmps73
  go_wp2_with fail
  go_step3
  go_wp2_with fail
  refine (wordKinds_any _).mono ?_
  rintro e w1 ⟨rfl, hW⟩
  have hB : Below w.heap.size w w1 := by
    obtain ⟨D, hD, _, hB⟩ := hW
    exact ((Below.refl _ _).alloc (Nat.le_refl _) _).trans (hB.mono (by simp))
  have hr : w1.heap[w.heap.size]? = some (.cells #[.int .i64 0, .int .i64 0] 28 (0, 0)) := by
    obtain ⟨D, hD, _, hB⟩ := hW
    exact (hB.block _ (by simp)).trans (heap_alloc_new _ _)
  have hlt := (Array.getElem?_eq_some_iff.1 hr).1
  clear hW
  go_wp2_with fail
  go_step3
  go_wp2_with fail
  generalize hw2 : (((w1.alloc _).alloc _).alloc _) = w2
  have hB2 : Below w.heap.size w w2 := by rw [← hw2]; exact ((hB.alloc (by omega) _).alloc (by simp; omega) _).alloc (by simp; omega) _
  have hr2 : w2.heap[w.heap.size]? = some (.cells #[.int .i64 0, .int .i64 0] 28 (0, 0)) := by
    rw [← hw2, Below.heap_alloc _ _ _ (by simp; omega), Below.heap_alloc _ _ _ (by simp; omega), Below.heap_alloc _ _ _ (by omega)]
    exact hr
  have c2 : w2.cell? ⟨w1.heap.size, 2, none⟩ = some (.int .i64 0) := by
    rw [← hw2]
    exact (World.grownBy_alloc _ _ none).cell ((World.grownBy_alloc _ _ none).cell ((block_cells (heap_alloc_new w1 _)).1 2) (by simp)) (by simp)
  clear hw2 hr hB
  have hn := block_cells hr2
  have d0 := hn.1 0
  have d1 := hn.1 1
  simp at d0 d1
  have d5 := hn.2
  clear hn
  refine wp_loop_rounds 1 ?_
  rw [rounds_succ]
  go_wp2_with fail
  show bodyPost Tryz.prog Tryz.f73 (fun e w' => e = .returned (.tuple #[.slice none 0 0, .int .i64 0, .agg #[.int .i64 0, .int .i64 0]]) ∧ Below w.heap.size w w') Exit.ret _ _
  refine bodyPost_ret (v := .tuple #[.slice none 0 0, .int .i64 0, .agg #[.int .i64 0, .int .i64 0]]) (by simp [results, Tryz.results73, go_sem, d0, d1]) rfl ?_
  exact ⟨rfl, hB2.grown (grownBy_set2 w2 w.heap.size _ _) (by have := hB2.size; omega) (fun x e => by cases e; omega)⟩

/-- A slice value that holds the bytes bs. -/
def IsSrc (w : World) (v : Value) (bs : List UInt8) : Prop :=
  (bs = [] ∧ ∃ a cap, v = .slice a 0 cap) ∨
  ∃ b off cap, v = .slice (some ⟨b, off, none⟩) bs.length cap ∧ bs.length ≤ cap ∧ b < w.heap.size ∧ ∀ j, j < bs.length → w.cell? ⟨b, off + j, none⟩ = some (.int .u8 (Tx.B bs j))

theorem tokens_src (w : World) (v : Value) (bs : List UInt8) (hs : IsSrc w v bs) (hl : bs.length ≤ 65536) (hv : Vars w) (h2 : 6 ≤ w.heap.size) :
    Calls Tryz.prog 73 #[v] w fun e w' => TokensEnd w w' bs (Tx.all bs) e := by
  rcases hs with ⟨rfl, a, cap, rfl⟩ | ⟨b, off, cap, rfl, hcap, hb, hc⟩
  · refine (tokens_none w a cap).mono ?_
    rintro e w' ⟨rfl, hB⟩
    exact ⟨hB, _, rfl, World.ownsRow_nil _ _ _ _⟩
  · by_cases h0 : 0 < bs.length
    · exact tokens_some w b off cap bs hl hcap h0 hv h2 hb hc
    · obtain rfl : bs = [] := List.length_eq_zero_iff.1 (by omega)
      refine (tokens_none w _ cap).mono ?_
      rintro e w' ⟨rfl, hB⟩
      exact ⟨hB, _, rfl, World.ownsRow_nil _ _ _ _⟩
theorem IsSrc.shape {w : World} {v : Value} {bs : List UInt8} (h : IsSrc w v bs) : ∃ a cap, v = .slice a bs.length cap := by
  rcases h with ⟨rfl, a, cap, rfl⟩ | ⟨b, off, cap, rfl, _⟩
  · exact ⟨_, _, rfl⟩
  · exact ⟨_, _, rfl⟩
theorem IsSrc.kept {w w' : World} {v : Value} {bs : List UInt8} (h : IsSrc w v bs) (hB : Below w.heap.size w w') : IsSrc w' v bs := by
  rcases h with h | ⟨b, off, cap, h1, h2, h3, h4⟩
  · exact Or.inl h
  · exact Or.inr ⟨b, off, cap, h1, h2, Nat.lt_of_lt_of_le h3 hB.size, fun j hj => (hB.cell (p := ⟨b, off + j, none⟩) h3).trans (h4 j hj)⟩
theorem Vars.below {w w' : World} (h : Vars w) (hB : Below w.heap.size w w') : Vars w' := h.next (below_grown hB) (fun k e => by cases e)
end Go.Proofs.YtohjfikjbeafiaaGreatDoor.T1
namespace Go.Proofs.YtohjfikjbeafiaaGreatDoor
open Go.ChangeShapes Go.WideShapes Go.ChangeAt Go.RowKit
set_option maxRecDepth 100000

theorem ownKnobs : ownKnob Tryz.prog.godebug = none := by kernel_rfl
theorem gES : Tryz.prog.globalNamed "strconv.ErrSyntax" = some 2 := by kernel_rfl
theorem gER : Tryz.prog.globalNamed "strconv.ErrRange" = some 3 := by kernel_rfl
theorem gESType : (Tryz.prog.globals[2]?).map (·.type) = some 236 := by kernel_rfl
theorem gERType : (Tryz.prog.globals[3]?).map (·.type) = some 236 := by kernel_rfl
theorem cellsES : Tryz.prog.cellsOf 288 = 1 := by kernel_rfl
theorem cellsStr : Tryz.prog.cellsOf 9 = 1 := by kernel_rfl
theorem star : "*" ++ "errors.errorString" = "*errors.errorString" := by decide
theorem rowES (u : TypeId) (h : Tryz.prog.typeName? 3 u = some "*errors.errorString") : u = 286 :=
  typeName_ptr_named (nm := "errors.errorString") (by rw [star]; kernel_rfl) (by kernel_rfl) (by decide) u (by rw [star]; exact h)

/-- The five variables that every statement of this seat lists. -/
abbrev laidAll : List (String × DataW Unit) := [("math/bits.deBruijn32tab", Rows.laid_math_bits_deBruijn32tab), ("math/bits.deBruijn64tab", Rows.laid_math_bits_deBruijn64tab), ("internal/strconv.uint64pow10", Rows.laid_internal_strconv_uint64pow10), ("strconv.ErrRange", Rows.laid_strconv_ErrRange), ("strconv.ErrSyntax", Rows.laid_strconv_ErrSyntax)]

theorem laid_lt {P : Program} {n : String} {d : DataW Unit} {r : List (String × DataW Unit)} {W : World} {g : Nat} (h : laidMet P ((n, d) :: r) W) (hg : P.globalNamed n = some g) : g < W.heap.size := by
  obtain ⟨ps, ⟨g0, t0, cs0, f0, p0, q0, hg0, ht0, hv0, _⟩, _⟩ := h
  obtain rfl := Option.some.inj (hg.symm.trans hg0)
  unfold World.var? at hv0
  rw [hg0] at hv0
  rcases Nat.lt_or_ge g W.heap.size with h' | h'
  · exact h'
  · simp [Array.getElem?_eq_none h'] at hv0
theorem gDB : Tryz.prog.globalNamed "math/bits.deBruijn64tab" = some 5 := by kernel_rfl
theorem size_of_laid {W : World} (h : laidMetH Tryz.prog laidAll W) : 6 ≤ W.heap.size := by
  rw [MakeChecks.laidMetH_plain _ _ _ (by kernel_rfl)] at h
  exact laid_lt h.tail gDB
theorem vars_of_laid {W : World} (h : laidMetH Tryz.prog laidAll W) : T1.Vars W := by
  rw [MakeChecks.laidMetH_plain _ _ _ (by kernel_rfl)] at h
  have h3 := h.tail.tail.tail
  obtain ⟨a1, s1, hv1, -, -, -⟩ := laid_sentinel h3 gER gERType Tryz.underlying236 rowES Tryz.underlying286 Tryz.underlying288 rfl rfl Tryz.underlying9 cellsES cellsStr
  obtain ⟨a0, s0, hv0, -, -, -⟩ := laid_sentinel h3.tail gES gESType Tryz.underlying236 rowES Tryz.underlying286 Tryz.underlying288 rfl rfl Tryz.underlying9 cellsES cellsStr
  have c0 : W.cell? ⟨2, 0, none⟩ = some (.iface 286 (.pointer (some a0))) := by have := World.var?_cell gES hv0 0; simpa using this
  have c1 : W.cell? ⟨3, 0, none⟩ = some (.iface 286 (.pointer (some a1))) := by have := World.var?_cell gER hv1 0; simpa using this
  exact ⟨_, _, _, _, c0, c1⟩

/-- The door's own heap meets the condition. -/
theorem door_met (os : Os) (args : Array Value) : laidMetH Tryz.prog laidAll ((World.doorLaid Tryz.prog 400 os).forCall (fun _ _ => 0) ⟨#[], args, []⟩).memory :=
  laidMetH_of_parts3 (fuel := 8) (laidMet_of_run' 8 (by kernel_rfl) (by kernel_rfl)) (by kernel_rfl) (by kernel_rfl)

theorem laidOutAll : laidOutB Tryz.prog = true := by kernel_rfl
theorem src_of_row {W : World} {x : Addr} {len cap : Nat} {zs : List Int} (hl : len ≤ cap) (hz : zs.length = cap) (hc : ∀ i, i < zs.length → W.cell? (x.add i) = some (.int .u8 (zs.getD i 0))) (hw : ∀ n ∈ zs, (Lit.int .u8 n).wf = true) :
    ∃ bs : List UInt8, bs.length = len ∧ T1.IsSrc W (.slice (some x) bs.length cap) bs ∧ bs.length ≤ cap := by
  have hlen : ((zs.take len).map T1.Tx.byteOf).length = len := by simp; omega
  refine ⟨(zs.take len).map T1.Tx.byteOf, hlen, ?_, by omega⟩
  by_cases h0 : len = 0
  · subst h0
    exact Or.inl ⟨rfl, _, _, rfl⟩
  · obtain ⟨b, off, spot⟩ := x
    have hc0 := hc 0 (by omega)
    have hspot : spot = none := by simpa [Addr.add] using World.cell?_spot hc0
    subst hspot
    have hc0' : W.cell? ⟨b, off, none⟩ = some (.int .u8 (zs.getD 0 0)) := by simpa [Addr.add] using hc0
    refine Or.inr ⟨b, off, cap, by rw [hlen], by omega, World.block_lt_of_cell? W _ hc0', fun j hj => ?_⟩
    rw [hlen] at hj
    have hjz : j < zs.length := by omega
    have e := hc j hjz
    have hbd : 0 ≤ zs[j] ∧ zs[j] ≤ 255 := bounds_u8 (hw zs[j] (List.getElem_mem hjz))
    have hB : T1.Tx.B ((zs.take len).map T1.Tx.byteOf) j = zs[j] := by
      unfold T1.Tx.B
      rw [List.getElem?_map, List.getElem?_take, if_pos hj, List.getElem?_eq_getElem hjz]
      exact T1.Tx.byteOf_toNat hbd
    rw [hB]
    rw [List.getD_eq_getElem?_getD, List.getElem?_eq_getElem hjz] at e
    by_cases hj0 : j = 0
    · subst hj0; simpa [Addr.add] using e
    · simpa [Addr.add, hj0] using e
end Go.Proofs.YtohjfikjbeafiaaGreatDoor
