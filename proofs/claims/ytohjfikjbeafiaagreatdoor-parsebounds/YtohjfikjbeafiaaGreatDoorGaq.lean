/- What the program's and the document's Quote answer. What the program's types.Check and the document's IsType answer. Which nodes may be: what the program's Arity, kidsFit and the document's Arity answer. What strings.Cut answers at one blank. Which nodes may be: what the program's mayBe answers. Which nodes may be: what the program's mayBe answers, further kinds, and all together. What the program's walk does, whatever it visits with. -/
import Derived.Test.YtohjfikjbeafiaaGreatDoorGap
import Derived.Test.YtohjfikjbeafiaaGreatDoorGaf
import Derived.Laws.StructEq
import Derived.Test.YtohjfikjbeafiaaGreatDoorGab
import Derived.Lib.IndexLaws
import Derived.Deep.Light
import Derived.Laws.OwnMore
import Derived.WalkSmall
import Derived.WalkMore
namespace Go.Proofs.YtohjfikjbeafiaaGreatDoor
open Go.RowKit
set_option maxRecDepth 100000

theorem ty5 : Tryz.prog.underlying 5 = some (.int .u8) := by kernel_rfl

/-- Bytes as cells. -/
def bcells (l : List UInt8) : List Value := l.map fun c => Value.int .u8 (c.toNat : Int)
theorem bcells_append (a b : List UInt8) : bcells (a ++ b) = bcells a ++ bcells b := by simp [bcells]
theorem bcells_length (a : List UInt8) : (bcells a).length = a.length := by simp [bcells]

/-- 'string(s)' of bytes that the call owns. -/
theorem conv_own (W : World) (base : Nat) (v : Value) (l : List UInt8) (h : W.ownsRow base 5 1 v l.length (bcells l)) : (convert 22 9 v).run Tryz.prog W = .ok (.string ⟨l.toArray⟩) W := by
  obtain ⟨h1, h2⟩ := h
  rcases h2 with ⟨rfl, h0⟩ | ⟨g, cap, cur, rfl, hg, hh, hn, hm, hs, ht⟩
  · obtain rfl : l = [] := List.length_eq_zero_iff.1 h0
    exact run_convert_bytes_nil (P := Tryz.prog) W 22 5 tyBytes ty5 0 0 9 ty9
  · refine run_convert_bytes_back (P := Tryz.prog) W 22 9 5 ⟨g, 0, none⟩ cap l tyBytes ty5 ty9 (fun d hd => ?_)
    have hcur : cur[d]? = some (.int .u8 (l[d].toNat : Int)) := by
      have e1 : cur.toList[d]? = (cur.toList.take (l.length * 1))[d]? := by rw [List.getElem?_take, if_pos (by omega)]
      rw [← Array.getElem?_toList, e1, ht]
      simp [bcells, List.getElem?_eq_getElem hd]
    have : W.cell? ⟨g, d, none⟩ = some (.int .u8 (l[d].toNat : Int)) := by simp [World.cell?, hh, hcur]
    by_cases h0 : d = 0
    · subst h0; simpa [Addr.add] using this
    · simpa [Addr.add, h0] using this
theorem bytes_one (l : List UInt8) : ∀ u ∈ bcells l, u.oneCell' = true := by
  intro u hu
  unfold bcells at hu
  obtain ⟨c, _, rfl⟩ := List.mem_map.1 hu
  rfl

/-- How Quote ends. -/
def QuoteEnd (r : Option (List UInt8)) (e : Ending) : Prop :=
  match r with
  | none => e = .returned (.tuple #[.string ⟨#[]⟩, .int .i64 14])
  | some q => e = .returned (.tuple #[.string ⟨q.toArray⟩, .int .i64 0])
theorem QuoteEnd.no {r : Option (List UInt8)} {e : Ending} (h : r = none) (he : e = .returned (.tuple #[.string ⟨#[]⟩, .int .i64 14])) : QuoteEnd r e := by subst h; exact he
theorem QuoteEnd.yes {r : Option (List UInt8)} {q : List UInt8} {e : Ending} (h : r = some q) (he : e = .returned (.tuple #[.string ⟨q.toArray⟩, .int .i64 0])) : QuoteEnd r e := by subst h; exact he

set_option maxRecDepth 100000 in
set_option maxHeartbeats 2000000 in
theorem quote_any (s : ByteArray) (hs : s.size ≤ maxLen) (w : World) :
    Calls Tryz.prog 115 #[.string s] w fun e w' => QuoteEnd (Tx.quoted s.data.toList) e ∧ Below w.heap.size w w' := by
  have hsl := str_len s
  have hml : s.size ≤ 9223372036854775807 := by unfold maxLen at hs; omega
  obtain ⟨i0, hi, hz0, hz1, hz2⟩ := info_parts info5
  by_cases h64 : 64 < s.size
  · have HN : Aside (Tx.quoted s.data.toList = none) := by show _ = _; unfold Tx.quoted; rw [if_pos (by omega)]
    have h64' : (64 : Int) < (s.size : Int) := by omega
    clear hsl
    go_enter Tryz.func115, Tryz.ntmps115
    go_wp2_with fail
    go_ret2
    exact ⟨QuoteEnd.no HN.out rfl, Below.refl _ _⟩
  · have HQ : Aside (Tx.quoted s.data.toList = Tx.quo s.data.toList s.size 0 [34]) := by show _ = _; unfold Tx.quoted; rw [if_neg (by omega), hsl]
    have h64' : decide ((64 : Int) < (s.size : Int)) = false := by simp; omega
    have hsz : s.size ≤ 64 := by omega
    have hown0 := own_lit w (bcells [34]) 5 (by decide)
    clear hsl h64
    go_enter Tryz.func115, Tryz.ntmps115
    go_wp2_with fail
    go_loopg [4, 13] s.size (fun g v t wr => ∃ (k : Nat) (acc : List UInt8), k + g = s.size ∧ t = .int .i64 k ∧ acc.length ≤ 1 + 2 * k ∧ wr.ownsRow w.heap.size 5 1 v acc.length (bcells acc) ∧ Below w.heap.size w wr ∧ Aside (Tx.quoted s.data.toList = Tx.quo s.data.toList g k acc))
    case atStart => exact ⟨0, [34], by omega, rfl, by simp, hown0, (Below.refl _ _).alloc (Nat.le_refl _) _, HQ⟩
    case round =>
      obtain ⟨k, acc, hkg, rfl, hacc, hown, hB, HK⟩ := hrel
      obtain ⟨va, vc, rfl⟩ := own_len hown
      have hBs := hB.size
      cases gk with
      | zero =>
        have hk' : ¬ (k : Int) < (s.size : Int) := by omega
        have HS : Aside (Tx.quoted s.data.toList = some (acc ++ [34])) := HK.out
        go_wp2_with (at_builtin; go_must (refine wpList_append_own _ rfl _ _ 22 rfl w.heap.size 5 i0 (.int .u8 0) 1 1 tyBytes hi hz0 hz1 hz2 rfl (by decide) (.slice va acc.length vc) _ _ rfl (hown.alloc _) ⟨wr.heap.size, 0, none⟩ 1 1 (bcells [34]) rfl rfl (cells_list_new _ (bcells [34]) 5) (bytes_one _) (by unfold maxLen; omega) (by omega) (by simp; omega) ?_); intro v2 w2 hown2 hg2 _; have hcv := conv_own w2 w.heap.size v2 (acc ++ [34]) (by rw [bcells_append, List.length_append]; exact hown2))
        go_ret2
        exact ⟨QuoteEnd.yes HS.out rfl, hB.grown (grownBy_alloc_pre hg2) hBs (fun x e => (hown.lt x e).1)⟩
      | succ g =>
        have hk : k < s.size := by omega
        have hk' : (k : Int) < (s.size : Int) := by omega
        have hBk := str_B s k hk
        have hk0 : (0 : Int) ≤ (k : Int) := by omega
        have hbd := Tx.B_bd s.data.toList k
        have HE : Aside (Tx.quoted s.data.toList = (match Tx.esc (Tx.B s.data.toList k) with | none => none | some e => Tx.quo s.data.toList g (k + 1) (acc ++ e))) := HK.out
        generalize Tx.B s.data.toList k = c at *
        by_cases h10 : (c == 10) = true
        · have HS : Aside (Tx.quoted s.data.toList = Tx.quo s.data.toList g (k + 1) (acc ++ [92, 110])) := by rw [HE.out]; show _ = _; simp [Tx.esc, h10]
          go_wp2_with (at_builtin; go_must (refine wpList_append_own _ rfl _ _ 22 rfl w.heap.size 5 i0 (.int .u8 0) 1 1 tyBytes hi hz0 hz1 hz2 rfl (by decide) (.slice va acc.length vc) _ _ rfl (hown.alloc _) ⟨wr.heap.size, 0, none⟩ 2 2 (bcells [92, 110]) rfl rfl (cells_list_new _ (bcells [92, 110]) 5) (bytes_one _) (by unfold maxLen; omega) (by omega) (by simp; omega) ?_); intro v2 w2 hown2 hg2 _)
          go_roundg g
          case measure => omega
          case rel => exact ⟨k + 1, acc ++ [92, 110], by omega, by go_num, by simp; omega, by rw [bcells_append, List.length_append]; exact hown2, hB.grown (grownBy_alloc_pre hg2) hBs (fun x e => (hown.lt x e).1), HS⟩
        · have h10' : (c == 10) = false := by simpa using h10
          clear h10
          by_cases h34 : (c == 34 || c == 92) = true
          · have HS : Aside (Tx.quoted s.data.toList = Tx.quo s.data.toList g (k + 1) (acc ++ [92, Tx.byteOf c])) := by rw [HE.out]; show _ = _; unfold Tx.esc; rw [h10', h34]; rfl
            have hbc : bcells [92, Tx.byteOf c] = [.int .u8 92, .int .u8 c] := by simp [bcells, Tx.byteOf_toNat hbd]
            have Hbc : Aside (bcells [92, Tx.byteOf c] = [.int .u8 92, .int .u8 c]) := hbc
            clear hbc
            have h92 : (c == 34) = false → (c == 92) = true := fun e => by rw [e] at h34; exact h34
            clear h34
            cases h3 : c == 34
            all_goals
              first
                | (have h92 := h92 h3)
                | clear h92
              go_wp2_with (at_builtin; go_must (refine wpList_append_own _ rfl _ _ 22 rfl w.heap.size 5 i0 (.int .u8 0) 1 1 tyBytes hi hz0 hz1 hz2 rfl (by decide) (.slice va acc.length vc) _ _ rfl (hown.alloc _) ⟨wr.heap.size, 0, none⟩ 2 2 [.int .u8 92, .int .u8 c] rfl rfl (cells_list_new _ [.int .u8 92, .int .u8 c] 5) (by intro u hu; simp at hu; rcases hu with rfl | rfl <;> rfl) (by unfold maxLen; omega) (by omega) (by simp; omega) ?_); intro v2 w2 hown2 hg2 _)
              go_roundg g
              case measure => omega
              case rel => exact ⟨k + 1, acc ++ [92, Tx.byteOf c], by omega, by go_num, by simp; omega, by rw [bcells_append, List.length_append, Hbc.out]; exact hown2, hB.grown (grownBy_alloc_pre hg2) hBs (fun x e => (hown.lt x e).1), HS⟩
          · have h34' : (c == 34) = false ∧ (c == 92) = false := by simpa using h34
            obtain ⟨h3, h92⟩ := h34'
            clear h34
            cases hse : Tx.seenB c
            · have HS : Aside (Tx.quoted s.data.toList = none) := by rw [HE.out]; show _ = _; simp [Tx.esc, h10', h3, h92, hse]
              go_wp2_with (go_at_call 160; refine (isSeen_any _ _).mono ?_; rintro e w' ⟨rfl, hw'⟩; replace hw' := hw'.symm; subst hw')
              go_ret2
              exact ⟨QuoteEnd.no HS.out rfl, hB⟩
            · have HS : Aside (Tx.quoted s.data.toList = Tx.quo s.data.toList g (k + 1) (acc ++ [Tx.byteOf c])) := by rw [HE.out]; show _ = _; simp [Tx.esc, h10', h3, h92, hse]
              have Hbc : Aside (bcells [Tx.byteOf c] = [.int .u8 c]) := by show _ = _; simp [bcells, Tx.byteOf_toNat hbd]
              go_wp2_with (first | (go_at_call 160; refine (isSeen_any _ _).mono ?_; rintro e w' ⟨rfl, hw'⟩; replace hw' := hw'.symm; subst hw') | (at_builtin; go_must (refine wpList_append_own _ rfl _ _ 22 rfl w.heap.size 5 i0 (.int .u8 0) 1 1 tyBytes hi hz0 hz1 hz2 rfl (by decide) (.slice va acc.length vc) _ _ rfl (hown.alloc _) ⟨wr.heap.size, 0, none⟩ 1 1 [.int .u8 c] rfl rfl (cells_list_new _ [.int .u8 c] 5) (by intro u hu; simp at hu; subst hu; rfl) (by unfold maxLen; omega) (by omega) (by simp; omega) ?_); intro v2 w2 hown2 hg2 _))
              go_roundg g
              case measure => omega
              case rel => exact ⟨k + 1, acc ++ [Tx.byteOf c], by omega, by go_num, by simp; omega, by rw [bcells_append, List.length_append, Hbc.out]; exact hown2, hB.grown (grownBy_alloc_pre hg2) hBs (fun x e => (hown.lt x e).1), HS⟩
theorem str_app (a c : List UInt8) : ((⟨a.toArray⟩ : ByteArray) ++ (⟨c.toArray⟩ : ByteArray)) = ⟨(a ++ c).toArray⟩ := by
  apply ByteArray.ext
  simp
theorem str_cut (s : ByteArray) (k : Nat) (h : k < s.size) : s.extract k (k + 1) = ⟨[Tx.byteOf (Tx.B s.data.toList k)].toArray⟩ := by
  apply WideShapes.bytes_inj
  have hl : k < s.data.toList.length := by rw [str_len]; exact h
  have e1 : (s.extract k (k + 1)).data.toList = (s.data.toList.drop k).take 1 := by simp [ByteArray.data_extract]
  obtain ⟨c, hd, hc⟩ := Tx.drop_B hl
  rw [e1, hd, ← hc, Tx.byteOf_nat]
  rfl
theorem ret_str {a b : ByteArray} {n : Int} (h : a = b) : Ending.returned (.tuple #[.string a, .int .i64 n]) = .returned (.tuple #[.string b, .int .i64 n]) := by rw [h]
theorem val_str {a b : ByteArray} (h : a = b) : Value.string a = .string b := by rw [h]

end Go.Proofs.YtohjfikjbeafiaaGreatDoor
namespace Go.Proofs.YtohjfikjbeafiaaGreatDoor
open Go.RowKit
set_option maxRecDepth 100000

theorem str_Bp (s : ByteArray) (k : Nat) (h : k < s.size) : ((s[k]'h).toNat : Int) = Tp.B s.data.toList k := by
  unfold Tp.B
  have h' : k < s.data.toList.length := by simpa using h
  rw [List.getElem?_eq_getElem h']
  rfl
theorem chk_ret {l : List UInt8} {a b : Nat} (h : Tp.chk l = (a, b)) {w w' : World} (hw : w' = w) {e : Ending} (he : e = .returned (.tuple #[.int .i64 (a : Int), .int .i64 (b : Int)])) : e = .returned (.tuple #[.int .i64 (Tp.chk l).1, .int .i64 (Tp.chk l).2]) ∧ w' = w := by
  rw [h]; exact ⟨he, hw⟩

set_option maxHeartbeats 1000000 in
theorem check_any (s : ByteArray) (w : World) :
    Calls Tryz.prog 29 #[.string s] w fun e w' => e = .returned (.tuple #[.int .i64 (Tp.chk s.data.toList).1, .int .i64 (Tp.chk s.data.toList).2]) ∧ w' = w := by
  have hsl := str_len s
  by_cases h64 : 64 < s.size
  · have HN : Aside (Tp.chk s.data.toList = (21, 64)) := Tp.chk_long (by omega)
    have h64' : (64 : Int) < (s.size : Int) := by omega
    clear hsl
    go_enter Tryz.func29, Tryz.ntmps29
    go_wp2_with fail
    go_ret2
    exact chk_ret HN.out rfl rfl
  · have h64' : decide ((64 : Int) < (s.size : Int)) = false := by simp; omega
    have hsz : s.size ≤ 64 := by omega
    have HL : Aside (s.data.toList.length = s.size) := hsl
    clear hsl h64
    go_enter Tryz.func29, Tryz.ntmps29
    go_wp2_with fail
    go_loopg [4, 12] s.size (fun g mv t wr => wr = w ∧ ∃ k m : Nat, k + g = s.size ∧ t = .int .i64 k ∧ mv = .int .i64 m ∧ m ≤ k + 1 ∧ Aside (Tp.Sofar s.data.toList k m))
    case atStart => exact ⟨rfl, 0, 1, by omega, rfl, rfl, by omega, Tp.Sofar.start _⟩
    case round =>
      obtain ⟨rfl, k, m, hkg, rfl, rfl, hmk, HS⟩ := hrel
      by_cases hk : k < s.size
      · have hk' : (k : Int) < (s.size : Int) := by omega
        have hBk := str_Bp s k hk
        have hk0 : (0 : Int) ≤ (k : Int) := by omega
        have had := Tp.ar_bd (Tp.B s.data.toList k)
        have hkl : k < s.data.toList.length := by rw [HL.out]; exact hk
        cases m with
        | zero =>
          have HN : Aside (Tp.chk s.data.toList = (20, k)) := by
            have h0 := HS.out.zero
            show _ = _
            rw [Tp.chk_bad (by rw [HL.out]; omega) (.inr (by rw [h0, HL.out]; show k ≠ _; omega)), h0]
          go_wp2_with (go_at_call 72; refine (partsOf_any _ _).mono ?_; rintro e w' ⟨rfl, rfl⟩)
          go_ret2
          exact chk_ret HN.out rfl rfl
        | succ m =>
          have hm0 : ((((m + 1 : Nat) : Int)) == 0) = false := by simp; omega
          by_cases ha : Tp.ar (Tp.B s.data.toList k) < 0
          · have HN : Aside (Tp.chk s.data.toList = (20, k)) := by
              have h0 := HS.out.bad hkl ha
              show _ = _
              rw [Tp.chk_bad (by rw [HL.out]; omega) (.inl (by rw [h0])), h0]
            go_wp2_with (go_at_call 72; refine (partsOf_any _ _).mono ?_; rintro e w' ⟨rfl, rfl⟩)
            go_ret2
            exact chk_ret HN.out rfl rfl
          · have ha' : 0 ≤ Tp.ar (Tp.B s.data.toList k) := by omega
            have HT : Aside (Tp.Sofar s.data.toList (k + 1) (m + (Tp.ar (Tp.B s.data.toList k)).toNat)) := HS.out.step hkl ha'
            have had' : decide (Tp.ar (Tp.B s.data.toList k) < 0) = false := by simpa using ha'
            go_wp2_with (go_at_call 72; refine (partsOf_any _ _).mono ?_; rintro e w' ⟨rfl, rfl⟩)
            go_roundg (gk - 1)
            case measure => omega
            case rel => exact ⟨rfl, k + 1, m + (Tp.ar (Tp.B s.data.toList k)).toNat, by omega, by go_num, by go_num, by omega, HT⟩
      · have hk' : decide ((k : Int) < (s.size : Int)) = false := by simp; omega
        have hkn : k = s.size := by omega
        cases m with
        | zero =>
          have HN : Aside (Tp.chk s.data.toList = (0, 0)) := by
            have h0 := HS.out.zero
            show _ = _
            rw [Tp.chk_good (by rw [HL.out]; omega) (by rw [h0, HL.out, hkn])]
          go_wp2_with fail
          go_ret2
          exact chk_ret HN.out rfl rfl
        | succ m =>
          have hm0 : (0 : Int) < (((m + 1 : Nat) : Int)) := by omega
          have HN : Aside (Tp.chk s.data.toList = (20, s.size)) := by
            have h1 : Tp.Sofar s.data.toList s.data.toList.length (m + 1) := by have := HS.out; rw [hkn, ← HL.out] at this; exact this
            have h0 := h1.early
            show _ = _
            rw [Tp.chk_bad (by rw [HL.out]; omega) (.inl (by rw [h0])), h0, HL.out]
          go_wp2_with fail
          go_ret2
          exact chk_ret HN.out rfl rfl

/-- Is this text a type? -/
def typB (l : List UInt8) : Bool := (Tp.chk l).1 == 0
/-- Absent, or a type? -/
def noteB (l : List UInt8) : Bool := l.isEmpty || typB l

set_option maxHeartbeats 400000 in
theorem isType_any (s : ByteArray) (w : World) :
    Calls Tryz.prog 116 #[.string s] w fun e w' => e = .returned (.bool (typB s.data.toList)) ∧ w' = w := by
  go_enter Tryz.func116, Tryz.ntmps116
  go_wp2_with (go_at_call 29; refine (check_any _ _).mono ?_; rintro e w' ⟨rfl, rfl⟩)
  go_ret
  refine ⟨ret_bool ?_, rfl⟩
  unfold typB
  rw [Bool.eq_iff_iff]; simp
theorem str_empty (s : ByteArray) : s.toList.isEmpty = s.data.toList.isEmpty := by rw [ByteArray.toList_eq]

set_option maxHeartbeats 400000 in
theorem isAnn_any (s : ByteArray) (w : World) :
    Calls Tryz.prog 119 #[.string s] w fun e w' => e = .returned (.bool (noteB s.data.toList)) ∧ w' = w := by
  have HE : Aside (s.toList.isEmpty = s.data.toList.isEmpty) := str_empty s
  cases he : s.toList.isEmpty
  all_goals
    go_enter Tryz.func119, Tryz.ntmps119
    go_wp2_with (go_at_call 116; refine (isType_any _ _).mono ?_; rintro e w' ⟨rfl, rfl⟩)
    go_ret
    refine ⟨ret_bool ?_, rfl⟩
    unfold noteB
    rw [← HE.out, he]
    simp

/-- Where the type that begins at a letter ends; 0: there is none. -/
def tend (l : List UInt8) : Nat := if (Tp.beh l 1).2 then (Tp.beh l 1).1 else 0
end Go.Proofs.YtohjfikjbeafiaaGreatDoor
namespace Go.Proofs.YtohjfikjbeafiaaGreatDoor
open Go.RowKit
set_option maxRecDepth 100000

namespace Tr
/-- How many kids a node of a kind has. -/
def arK (k : Int) : Int :=
  if k == 1 || k == 2 || k == 3 || k == 4 then 0
  else if k == 5 || k == 6 || k == 29 || k == 30 || k == 16 || k == 17 || k == 19 || k == 20 || k == 22 || k == 23 || k == 24 || k == 26 || k == 27 then 1
  else if k == 8 || k == 7 || k == 10 || k == 11 || k == 12 || k == 13 || k == 14 || k == 15 || k == 18 || k == 25 || k == 28 then 2
  else if k == 9 then 3 else 0
def arF (k : Int) : Bool := decide (1 ≤ k) && decide (k ≤ 30) && !(k == 21)
def fitB (x : Nd) : Bool := if x.kind == 21 then decide (0 ≤ x.kids) else if x.kind == 30 then false else arF x.kind && x.kids == arK x.kind
def agg (x : Nd) : Value := .agg #[.int .i8 x.kind, .int .i64 x.kids, .int .i64 x.n, .string x.s, .string x.t, .string x.u, .int .i64 x.ln, .int .i64 x.co]
theorem arF_in {k : Int} (h : 1 ≤ k ∧ k ≤ 30 ∧ k ≠ 21) : arF k = true := by unfold arF; simp; omega
end Tr

theorem ret_ar {a b : Int} {p q : Bool} (h : a = b) (h' : p = q) : Ending.returned (.tuple #[.int .i64 a, .bool p]) = .returned (.tuple #[.int .i64 b, .bool q]) := by rw [h, h']

set_option maxHeartbeats 2000000 in
theorem arity_any (k : Int) (w : World) :
    Calls Tryz.prog 159 #[.int .i8 k] w fun e w' => e = .returned (.tuple #[.int .i64 (Tr.arK k), .bool (Tr.arF k)]) ∧ w' = w := by
  go_enter Tryz.func159, Tryz.ntmps159
  go_wp2
  all_goals
    go_ret2
    refine ⟨ret_ar ?_ ?_, rfl⟩
    · unfold Tr.arK; simp_all
    · unfold Tr.arF
      first
        | (simp_all; done)
        | (rw [eq_comm, Bool.eq_false_iff]; simp_all; omega)

set_option maxHeartbeats 1000000 in
theorem kidsFit_any (x : Tr.Nd) (w : World) :
    Calls Tryz.prog 114 #[Tr.agg x] w fun e w' => e = .returned (.bool (Tr.fitB x)) ∧ Below w.heap.size w w' := by
  obtain ⟨kind, kids, n, s, t, u, ln, co⟩ := x
  have hB : ∀ o : Obj, Below w.heap.size w (w.alloc o) := fun o => (Below.refl _ _).alloc (Nat.le_refl _) _
  unfold Tr.agg
  simp only
  by_cases h21 : kind = 21
  · subst h21
    go_enter Tryz.func114, Tryz.ntmps114
    go_wp2_with fail
    all_goals
      go_ret
      refine ⟨ret_bool ?_, hB _⟩
      simp_all [Tr.fitB]
  · by_cases h30 : kind = 30
    · subst h30
      go_enter Tryz.func114, Tryz.ntmps114
      go_wp2_with fail
      go_ret
      exact ⟨ret_bool rfl, hB _⟩
    · have e21 : (kind == 21) = false := by simpa using h21
      have e30 : (kind == 30) = false := by simpa using h30
      have HF : Aside (Tr.fitB ⟨kind, kids, n, s, t, u, ln, co⟩ = (Tr.arF kind && kids == Tr.arK kind)) := by show _ = _; simp [Tr.fitB, e21, e30]
      clear h21 h30
      go_enter Tryz.func114, Tryz.ntmps114
      go_wp2_with (go_at_call 159; refine (arity_any _ _).mono ?_; rintro e w' ⟨rfl, rfl⟩)
      all_goals
        go_ret
        rw [HF.out]
        refine ⟨ret_bool ?_, hB _⟩
        simp_all
end Go.Proofs.YtohjfikjbeafiaaGreatDoor
namespace Go.Proofs.YtohjfikjbeafiaaGreatDoor
open Go.RowKit
set_option maxRecDepth 100000

namespace Tr
theorem cut32_none : ∀ {l : List UInt8}, Lib.indexByte l 32 = -1 → cut32 l = (l, [], false)
  | [], _ => rfl
  | c :: r, h => by
    unfold Lib.indexByte at h
    by_cases hc : c = 32
    · subst hc; simp at h
    · have h' : Lib.indexByte r 32 = -1 := by
        have := Lib.indexByte_ge r 32
        rw [if_neg (by simpa using hc)] at h
        split at h
        · rename_i h1; simpa using h1
        · omega
      rw [cut32, if_neg hc, cut32_none h']
theorem cut32_some : ∀ {l : List UInt8} {o : Nat}, Lib.indexByte l 32 = o → o < l.length ∧ cut32 l = (l.take o, l.drop (o + 1), true)
  | [], o, h => by simp [Lib.indexByte] at h
  | c :: r, o, h => by
    unfold Lib.indexByte at h
    by_cases hc : c = 32
    · subst hc
      simp at h
      obtain rfl : o = 0 := by omega
      exact ⟨by simp, by simp [cut32]⟩
    · have := Lib.indexByte_ge r 32
      rw [if_neg (by simpa using hc)] at h
      split at h
      · omega
      · rename_i h1
        have h1' : Lib.indexByte r 32 ≠ -1 := by simpa using h1
        obtain ⟨o', rfl⟩ : ∃ o', o = o' + 1 := ⟨o - 1, by omega⟩
        obtain ⟨h2, h3⟩ := cut32_some (l := r) (o := o') (by omega)
        exact ⟨by simpa using h2, by rw [cut32, if_neg hc, h3]; simp⟩
end Tr

theorem below_drewN {b : Nat} {w w' : World} (h : Below b w w') (n : Nat) : Below b w (w'.drewN n) := ⟨h.os, h.tape, h.output, h.size, h.block⟩
theorem below_drew {b : Nat} {w w' : World} (h : Below b w w') : Below b w w'.drew := ⟨h.os, h.tape, h.output, h.size, h.block⟩
theorem ret_cut {a b c d : ByteArray} {p q : Bool} (h1 : a = b) (h2 : c = d) (h3 : p = q) : Ending.returned (.tuple #[.string a, .string c, .bool p]) = .returned (.tuple #[.string b, .string d, .bool q]) := by rw [h1, h2, h3]

set_option maxHeartbeats 1000000 in
theorem liteCut_any (s : ByteArray) (hs : s.size ≤ maxLen) (w : World) :
    Calls Tryz.prog 161 #[.string s, .string ⟨#[32]⟩] w fun e w' => e = .returned (.tuple #[.string (S (Tr.cut32 s.data.toList).1), .string (S (Tr.cut32 s.data.toList).2.1), .bool (Tr.cut32 s.data.toList).2.2]) ∧ Below w.heap.size w w' := by
  have hi := Tryz.stringslite_Index_one s 32
  have hml : s.size ≤ 9223372036854775807 := by unfold maxLen at hs; omega
  by_cases h : Lib.indexByte s.data.toList 32 = -1
  · have HC := Tr.cut32_none h
    have HC : Aside (Tr.cut32 s.data.toList = (s.data.toList, [], false)) := HC
    rw [h] at hi
    clear h
    go_enter Tryz.func161, Tryz.ntmps161
    go_wp2_with (go_at_call 185; refine (hi _).mono ?_; rintro e w' ⟨rfl, hw'⟩; replace hw' := hw'.symm; subst hw')
    exact bodyPost_ret (v := .tuple #[.string s, .string ⟨#[]⟩, .bool false]) (by simp [results, Tryz.results161, go_sem]) rfl ⟨by rw [HC.out]; rfl, Below.refl _ _⟩
  · obtain ⟨o, ho⟩ : ∃ o : Nat, Lib.indexByte s.data.toList 32 = o := ⟨(Lib.indexByte s.data.toList 32).toNat, by have := Lib.indexByte_ge s.data.toList 32; omega⟩
    obtain ⟨hlt, hc⟩ := Tr.cut32_some ho
    have HC : Aside (Tr.cut32 s.data.toList = (s.data.toList.take o, s.data.toList.drop (o + 1), true)) := hc
    rw [ho] at hi
    have hos : o + 1 ≤ s.size := by rw [← str_len]; exact hlt
    have HL := str_len s
    have H1 : Aside (s.extract 0 o = S (s.data.toList.take o)) := by show _ = _; have := S_cut s.data.toList 0 o; simpa [S] using this
    have H2 : Aside (s.extract (o + 1) s.size = S (s.data.toList.drop (o + 1))) := by
      show _ = _
      have := S_cut s.data.toList (o + 1) s.size
      rw [List.take_of_length_le (by simp)] at this
      simpa [S] using this
    clear h ho hlt hc HL
    have h0 : (0 : Int) ≤ (o : Int) := by omega
    have h1 : (o : Int) + 1 ≤ (s.size : Int) := by omega
    have h2 : (o : Int) ≤ (s.size : Int) := by omega
    go_enter Tryz.func161, Tryz.ntmps161
    go_wp2_with (go_at_call 185; refine (hi _).mono ?_; rintro e w' ⟨rfl, hw'⟩; replace hw' := hw'.symm; subst hw')
    go_quiet (fail)
    go_wp2_with fail
    go_ret3
    rw [HC.out]
    exact ⟨ret_cut H1.out H2.out rfl, below_drewN (Below.refl _ _) _⟩

set_option maxHeartbeats 1000000 in
theorem cut_any (s : ByteArray) (hs : s.size ≤ maxLen) (w : World) :
    Calls Tryz.prog 117 #[.string s, .string ⟨#[32]⟩] w fun e w' => e = .returned (.tuple #[.string (S (Tr.cut32 s.data.toList).1), .string (S (Tr.cut32 s.data.toList).2.1), .bool (Tr.cut32 s.data.toList).2.2]) ∧ Below w.heap.size w w' := by
  go_enter Tryz.func117, Tryz.ntmps117
  go_wp2_with (go_at_call 161; refine (liteCut_any _ hs _).mono ?_; rintro e w' ⟨rfl, hB⟩)
  go_ret3
  exact ⟨rfl, hB⟩
end Go.Proofs.YtohjfikjbeafiaaGreatDoor
namespace Go.Proofs.YtohjfikjbeafiaaGreatDoor
open Go.RowKit
set_option maxRecDepth 100000

namespace Tr
def nB (x : Nd) : Bool := if x.kind == 1 then decide (0 ≤ x.n) else if x.kind == 3 then decide (0 ≤ x.n) && decide (x.n ≤ 1) else x.n == 0
def sB (x : Nd) : Bool :=
  if x.kind == 2 then (Tx.quoted (nm x)).isSome
  else if x.kind == 4 || x.kind == 5 || x.kind == 8 then nameB (nm x)
  else if x.kind == 6 then nameB (cut32 (nm x)).1 && nameB (cut32 (nm x)).2.1
  else (nm x).isEmpty
def tB (x : Nd) : Bool := if x.kind == 5 || x.kind == 6 || x.kind == 8 then noteB x.t.data.toList else if x.kind == 29 then typB x.t.data.toList else x.t.data.toList.isEmpty
def uB (x : Nd) : Bool := if x.kind == 5 || x.kind == 6 then noteB x.u.data.toList else x.u.data.toList.isEmpty
/-- May a node stand in a source's tree? -/
def mayB (x : Nd) : Bool := fitB x && nB x && sB x && tB x && uB x
end Tr

theorem bcell {W w1 : World} (hb : Below W.heap.size W w1) : (∀ b o, b < W.heap.size → w1.cell? ⟨b, o, none⟩ = W.cell? ⟨b, o, none⟩) ∧ (∀ b o, b < W.heap.size → w1.frozen? ⟨b, o, none⟩ = W.frozen? ⟨b, o, none⟩) :=
  ⟨fun b o h => hb.cell (p := ⟨b, o, none⟩) h, fun b o h => hb.frozen (p := ⟨b, o, none⟩) h⟩
theorem fit_node (kind kids n : Int) (s t u : ByteArray) (ln co : Int) (w : World) :
    Calls Tryz.prog 114 #[.agg #[.int .i8 kind, .int .i64 kids, .int .i64 n, .string s, .string t, .string u, .int .i64 ln, .int .i64 co]] w fun e w' => e = .returned (.bool (Tr.fitB ⟨kind, kids, n, s, t, u, ln, co⟩)) ∧ Below w.heap.size w w' := kidsFit_any ⟨kind, kids, n, s, t, u, ln, co⟩ w

theorem bt {a b c : World} (h : Below a.heap.size a b) (k : Below b.heap.size b c) : Below a.heap.size a c := h.trans (k.mono h.size)
theorem balloc {a b : World} (h : Below a.heap.size a b) (o : Obj) : Below a.heap.size a (b.alloc o) := h.alloc h.size o
theorem bset {a b : World} (h : Below a.heap.size a b) {o : Nat} {v : Value} : Below a.heap.size a (b.setCell ⟨a.heap.size, o, none⟩ v) := h.setCell (Nat.le_refl _) v

set_option maxHeartbeats 4000000 in
theorem be_var (kids n : Int) (s t u : ByteArray) (ln co : Int) (hs : s.size ≤ maxLen) (w : World) :
    Calls Tryz.prog 69 #[.agg #[.int .i8 4, .int .i64 kids, .int .i64 n, .string s, .string t, .string u, .int .i64 ln, .int .i64 co]] w fun e w' => e = .returned (.bool (Tr.mayB ⟨4, kids, n, s, t, u, ln, co⟩)) ∧ Below w.heap.size w w' := by
  have hk := fit_node 4 kids n s t u ln co
  have hn := isName_any s hs
  have HM : Aside (Tr.mayB ⟨4, kids, n, s, t, u, ln, co⟩ = (Tr.fitB ⟨4, kids, n, s, t, u, ln, co⟩ && n == 0 && nameB s.data.toList && t.toList.isEmpty && u.toList.isEmpty)) := by show _ = _; simp only [str_empty]; rfl
  generalize Tr.fitB ⟨4, kids, n, s, t, u, ln, co⟩ = f at *
  generalize nameB s.data.toList = f2 at *
  go_enter Tryz.func69, Tryz.ntmps69
  go_wp2_with (first | (go_at_call 114; refine (hk _).mono ?_; rintro e w1 ⟨rfl, hB1⟩; obtain ⟨hc1, hf1⟩ := bcell hB1; have hz1 : w.heap.size < w1.heap.size := by have := hB1.size; (try simp at this); omega) | (go_at_call 118; refine (hn _).mono ?_; rintro e w2 ⟨rfl, hB2⟩; obtain ⟨hc2, hf2⟩ := bcell hB2; have hz2 : w.heap.size < w2.heap.size := by have := hB2.size; (try simp at this); omega))
  all_goals
    go_ret
    rw [HM.out]
    go_light
    refine ⟨ret_bool ?_, ?_⟩
    · clear HM
      first
        | (simp [*]; done)
        | (simp [*]; intros; omega)
    · repeat (first | exact Below.refl _ _ | refine bset ?_ | refine balloc ?_ _ | refine bt ?_ (by assumption))

set_option maxHeartbeats 4000000 in
theorem be_let (kids n : Int) (s t u : ByteArray) (ln co : Int) (hs : s.size ≤ maxLen) (w : World) :
    Calls Tryz.prog 69 #[.agg #[.int .i8 8, .int .i64 kids, .int .i64 n, .string s, .string t, .string u, .int .i64 ln, .int .i64 co]] w fun e w' => e = .returned (.bool (Tr.mayB ⟨8, kids, n, s, t, u, ln, co⟩)) ∧ Below w.heap.size w w' := by
  have hk := fit_node 8 kids n s t u ln co
  have hn := isName_any s hs
  have ht := isAnn_any t
  have HM : Aside (Tr.mayB ⟨8, kids, n, s, t, u, ln, co⟩ = (Tr.fitB ⟨8, kids, n, s, t, u, ln, co⟩ && n == 0 && nameB s.data.toList && noteB t.data.toList && u.toList.isEmpty)) := by show _ = _; simp only [str_empty]; rfl
  generalize Tr.fitB ⟨8, kids, n, s, t, u, ln, co⟩ = f at *
  generalize nameB s.data.toList = f2 at *
  generalize noteB t.data.toList = f3 at *
  go_enter Tryz.func69, Tryz.ntmps69
  go_wp2_with (first | (go_at_call 114; refine (hk _).mono ?_; rintro e w1 ⟨rfl, hB1⟩; obtain ⟨hc1, hf1⟩ := bcell hB1; have hz1 : w.heap.size < w1.heap.size := by have := hB1.size; (try simp at this); omega) | (go_at_call 118; refine (hn _).mono ?_; rintro e w2 ⟨rfl, hB2⟩; obtain ⟨hc2, hf2⟩ := bcell hB2; have hz2 : w.heap.size < w2.heap.size := by have := hB2.size; (try simp at this); omega) | (go_at_call 119; refine (ht _).mono ?_; rintro e w' ⟨rfl, hw'⟩; replace hw' := hw'.symm; subst hw'))
  all_goals
    go_ret
    rw [HM.out]
    go_light
    refine ⟨ret_bool ?_, ?_⟩
    · clear HM
      first
        | (simp [*]; done)
        | (simp [*]; intros; omega)
    · repeat (first | exact Below.refl _ _ | refine bset ?_ | refine balloc ?_ _ | refine bt ?_ (by assumption))

set_option maxHeartbeats 4000000 in
theorem be_as (kids n : Int) (s t u : ByteArray) (ln co : Int) (_ : s.size ≤ maxLen) (w : World) :
    Calls Tryz.prog 69 #[.agg #[.int .i8 29, .int .i64 kids, .int .i64 n, .string s, .string t, .string u, .int .i64 ln, .int .i64 co]] w fun e w' => e = .returned (.bool (Tr.mayB ⟨29, kids, n, s, t, u, ln, co⟩)) ∧ Below w.heap.size w w' := by
  have hk := fit_node 29 kids n s t u ln co
  have ht := isType_any t
  have HM : Aside (Tr.mayB ⟨29, kids, n, s, t, u, ln, co⟩ = (Tr.fitB ⟨29, kids, n, s, t, u, ln, co⟩ && n == 0 && s.toList.isEmpty && typB t.data.toList && u.toList.isEmpty)) := by show _ = _; simp only [str_empty]; rfl
  generalize Tr.fitB ⟨29, kids, n, s, t, u, ln, co⟩ = f at *
  generalize typB t.data.toList = f3 at *
  go_enter Tryz.func69, Tryz.ntmps69
  go_wp2_with (first | (go_at_call 114; refine (hk _).mono ?_; rintro e w1 ⟨rfl, hB1⟩; obtain ⟨hc1, hf1⟩ := bcell hB1; have hz1 : w.heap.size < w1.heap.size := by have := hB1.size; (try simp at this); omega) | (go_at_call 116; refine (ht _).mono ?_; rintro e w' ⟨rfl, hw'⟩; replace hw' := hw'.symm; subst hw'))
  all_goals
    go_ret
    rw [HM.out]
    go_light
    refine ⟨ret_bool ?_, ?_⟩
    · clear HM
      first
        | (simp [*]; done)
        | (simp [*]; intros; omega)
    · repeat (first | exact Below.refl _ _ | refine bset ?_ | refine balloc ?_ _ | refine bt ?_ (by assumption))

set_option maxHeartbeats 4000000 in
theorem be_num (kids n : Int) (s t u : ByteArray) (ln co : Int) (_ : s.size ≤ maxLen) (w : World) :
    Calls Tryz.prog 69 #[.agg #[.int .i8 1, .int .i64 kids, .int .i64 n, .string s, .string t, .string u, .int .i64 ln, .int .i64 co]] w fun e w' => e = .returned (.bool (Tr.mayB ⟨1, kids, n, s, t, u, ln, co⟩)) ∧ Below w.heap.size w w' := by
  have hk := fit_node 1 kids n s t u ln co
  have HM : Aside (Tr.mayB ⟨1, kids, n, s, t, u, ln, co⟩ = (Tr.fitB ⟨1, kids, n, s, t, u, ln, co⟩ && decide (0 ≤ n) && s.toList.isEmpty && t.toList.isEmpty && u.toList.isEmpty)) := by show _ = _; simp only [str_empty]; rfl
  generalize Tr.fitB ⟨1, kids, n, s, t, u, ln, co⟩ = f at *
  go_enter Tryz.func69, Tryz.ntmps69
  go_wp2_with (first | (go_at_call 114; refine (hk _).mono ?_; rintro e w1 ⟨rfl, hB1⟩; obtain ⟨hc1, hf1⟩ := bcell hB1; have hz1 : w.heap.size < w1.heap.size := by have := hB1.size; (try simp at this); omega))
  all_goals
    go_ret
    rw [HM.out]
    go_light
    refine ⟨ret_bool ?_, ?_⟩
    · clear HM
      first
        | (simp [*]; done)
        | (simp [*]; intros; omega)
    · repeat (first | exact Below.refl _ _ | refine bset ?_ | refine balloc ?_ _ | refine bt ?_ (by assumption))

set_option maxHeartbeats 4000000 in
theorem be_truth (kids n : Int) (s t u : ByteArray) (ln co : Int) (_ : s.size ≤ maxLen) (w : World) :
    Calls Tryz.prog 69 #[.agg #[.int .i8 3, .int .i64 kids, .int .i64 n, .string s, .string t, .string u, .int .i64 ln, .int .i64 co]] w fun e w' => e = .returned (.bool (Tr.mayB ⟨3, kids, n, s, t, u, ln, co⟩)) ∧ Below w.heap.size w w' := by
  have hk := fit_node 3 kids n s t u ln co
  have HM : Aside (Tr.mayB ⟨3, kids, n, s, t, u, ln, co⟩ = (Tr.fitB ⟨3, kids, n, s, t, u, ln, co⟩ && (decide (0 ≤ n) && decide (n ≤ 1)) && s.toList.isEmpty && t.toList.isEmpty && u.toList.isEmpty)) := by show _ = _; simp only [str_empty]; rfl
  generalize Tr.fitB ⟨3, kids, n, s, t, u, ln, co⟩ = f at *
  go_enter Tryz.func69, Tryz.ntmps69
  go_wp2_with (first | (go_at_call 114; refine (hk _).mono ?_; rintro e w1 ⟨rfl, hB1⟩; obtain ⟨hc1, hf1⟩ := bcell hB1; have hz1 : w.heap.size < w1.heap.size := by have := hB1.size; (try simp at this); omega))
  all_goals
    go_ret
    rw [HM.out]
    go_light
    refine ⟨ret_bool ?_, ?_⟩
    · clear HM
      first
        | (simp [*]; done)
        | (simp [*]; intros; omega)
    · repeat (first | exact Below.refl _ _ | refine bset ?_ | refine balloc ?_ _ | refine bt ?_ (by assumption))

end Go.Proofs.YtohjfikjbeafiaaGreatDoor
namespace Go.Proofs.YtohjfikjbeafiaaGreatDoor
open Go.RowKit
set_option maxRecDepth 100000

theorem Tr.cut32_len : ∀ l : List UInt8, (Tr.cut32 l).1.length ≤ l.length ∧ (Tr.cut32 l).2.1.length ≤ l.length
  | [] => by simp [Tr.cut32]
  | c :: r => by
    have := Tr.cut32_len r
    rw [Tr.cut32]
    split
    · simp
    · simp; omega
theorem quote_node (s : ByteArray) (hs : s.size ≤ maxLen) (w : World) :
    Calls Tryz.prog 115 #[.string s] w fun e w' => ∃ (q : ByteArray) (er : Int), e = .returned (.tuple #[.string q, .int .i64 er]) ∧ (er == 0) = (Tx.quoted s.data.toList).isSome ∧ Below w.heap.size w w' := by
  refine (quote_any s hs w).mono ?_
  rintro e w' ⟨hq, hB⟩
  cases h : Tx.quoted s.data.toList with
  | none => rw [h] at hq; exact ⟨_, _, hq, rfl, hB⟩
  | some q => rw [h] at hq; exact ⟨_, _, hq, rfl, hB⟩

set_option maxHeartbeats 4000000 in
theorem be_fn (kids n : Int) (s t u : ByteArray) (ln co : Int) (hs : s.size ≤ maxLen) (w : World) :
    Calls Tryz.prog 69 #[.agg #[.int .i8 5, .int .i64 kids, .int .i64 n, .string s, .string t, .string u, .int .i64 ln, .int .i64 co]] w fun e w' => e = .returned (.bool (Tr.mayB ⟨5, kids, n, s, t, u, ln, co⟩)) ∧ Below w.heap.size w w' := by
  have hk := fit_node 5 kids n s t u ln co
  have hn := isName_any s hs
  have ht := isAnn_any t
  have hu := isAnn_any u
  have HM : Aside (Tr.mayB ⟨5, kids, n, s, t, u, ln, co⟩ = (Tr.fitB ⟨5, kids, n, s, t, u, ln, co⟩ && n == 0 && nameB s.data.toList && noteB t.data.toList && noteB u.data.toList)) := rfl
  generalize Tr.fitB ⟨5, kids, n, s, t, u, ln, co⟩ = f at *
  generalize nameB s.data.toList = f2 at *
  generalize noteB t.data.toList = f3 at *
  generalize noteB u.data.toList = f4 at *
  go_enter Tryz.func69, Tryz.ntmps69
  go_wp2_with (first | (go_at_call 114; refine (hk _).mono ?_; rintro e w1 ⟨rfl, hB1⟩; obtain ⟨hc1, hf1⟩ := bcell hB1; have hz1 : w.heap.size < w1.heap.size := by have := hB1.size; (try simp at this); omega) | (go_at_call 118; refine (hn _).mono ?_; rintro e w2 ⟨rfl, hB2⟩; obtain ⟨hc2, hf2⟩ := bcell hB2; have hz2 : w.heap.size < w2.heap.size := by have := hB2.size; (try simp at this); omega) | (go_at_call_of 119 t; refine (ht _).mono ?_; rintro e w' ⟨rfl, hw'⟩; replace hw' := hw'.symm; subst hw') | (go_at_call_of 119 u; refine (hu _).mono ?_; rintro e w' ⟨rfl, hw'⟩; replace hw' := hw'.symm; subst hw'))
  all_goals
    go_ret
    rw [HM.out]
    go_light
    refine ⟨ret_bool ?_, ?_⟩
    · clear HM
      first
        | (simp [*]; done)
        | (simp [*]; intros; omega)
    · repeat (first | exact Below.refl _ _ | refine bset ?_ | refine balloc ?_ _ | refine bt ?_ (by assumption))

set_option maxHeartbeats 4000000 in
theorem be_rec (kids n : Int) (s t u : ByteArray) (ln co : Int) (hs : s.size ≤ maxLen) (w : World) :
    Calls Tryz.prog 69 #[.agg #[.int .i8 6, .int .i64 kids, .int .i64 n, .string s, .string t, .string u, .int .i64 ln, .int .i64 co]] w fun e w' => e = .returned (.bool (Tr.mayB ⟨6, kids, n, s, t, u, ln, co⟩)) ∧ Below w.heap.size w w' := by
  have hk := fit_node 6 kids n s t u ln co
  have hcut := cut_any s hs
  have hl : (Tr.cut32 s.data.toList).1.length ≤ s.data.toList.length ∧ (Tr.cut32 s.data.toList).2.1.length ≤ s.data.toList.length := Tr.cut32_len _
  have hsl := str_len s
  have hn1 := isName_any (S (Tr.cut32 s.data.toList).1) (by rw [S_size]; omega)
  have hn2 := isName_any (S (Tr.cut32 s.data.toList).2.1) (by rw [S_size]; omega)
  rw [S_list] at hn1 hn2
  have ht := isAnn_any t
  have hu := isAnn_any u
  have HM : Aside (Tr.mayB ⟨6, kids, n, s, t, u, ln, co⟩ = (Tr.fitB ⟨6, kids, n, s, t, u, ln, co⟩ && n == 0 && (nameB (Tr.cut32 s.data.toList).1 && nameB (Tr.cut32 s.data.toList).2.1) && noteB t.data.toList && noteB u.data.toList)) := rfl
  generalize Tr.fitB ⟨6, kids, n, s, t, u, ln, co⟩ = f at *
  generalize nameB (Tr.cut32 s.data.toList).1 = f1 at *
  generalize nameB (Tr.cut32 s.data.toList).2.1 = f2 at *
  generalize S (Tr.cut32 s.data.toList).1 = x at *
  generalize S (Tr.cut32 s.data.toList).2.1 = y at *
  generalize (Tr.cut32 s.data.toList).2.2 = fo at *
  generalize noteB t.data.toList = f3 at *
  generalize noteB u.data.toList = f4 at *
  clear hl hsl
  go_enter Tryz.func69, Tryz.ntmps69
  go_wp2_with (first | (go_at_call 114; refine (hk _).mono ?_; rintro e w1 ⟨rfl, hB1⟩; have hc1 := fun o => (bcell hB1).1 w.heap.size o (by first | (simp; done) | (simp; omega) | omega); have hf1 := fun o => (bcell hB1).2 w.heap.size o (by first | (simp; done) | (simp; omega) | omega); have hz1 : w.heap.size < w1.heap.size := by have := hB1.size; (try simp at this); omega) | (go_at_call 117; refine (hcut _).mono ?_; rintro e w2 ⟨rfl, hB2⟩; have hc2 := fun o => (bcell hB2).1 w.heap.size o (by first | (simp; done) | (simp; omega) | omega); have hf2 := fun o => (bcell hB2).2 w.heap.size o (by first | (simp; done) | (simp; omega) | omega); have hz2 : w.heap.size < w2.heap.size := by have := hB2.size; (try simp at this); omega) | (go_at_call_of 118 x; refine (hn1 _).mono ?_; rintro e w3 ⟨rfl, hB3⟩; have hc3 := fun o => (bcell hB3).1 w.heap.size o (by first | (simp; done) | (simp; omega) | omega); have hf3 := fun o => (bcell hB3).2 w.heap.size o (by first | (simp; done) | (simp; omega) | omega); have hz3 : w.heap.size < w3.heap.size := by have := hB3.size; (try simp at this); omega) | (go_at_call_of 118 y; refine (hn2 _).mono ?_; rintro e w4 ⟨rfl, hB4⟩; have hc4 := fun o => (bcell hB4).1 w.heap.size o (by first | (simp; done) | (simp; omega) | omega); have hf4 := fun o => (bcell hB4).2 w.heap.size o (by first | (simp; done) | (simp; omega) | omega); have hz4 : w.heap.size < w4.heap.size := by have := hB4.size; (try simp at this); omega) | (go_at_call_of 119 t; refine (ht _).mono ?_; rintro e w' ⟨rfl, hw'⟩; replace hw' := hw'.symm; subst hw') | (go_at_call_of 119 u; refine (hu _).mono ?_; rintro e w' ⟨rfl, hw'⟩; replace hw' := hw'.symm; subst hw'))
  all_goals
    go_ret
    rw [HM.out]
    go_light
    refine ⟨ret_bool ?_, ?_⟩
    · clear HM
      first
        | (simp [*]; done)
        | (simp [*]; intros; omega)
    · repeat (first | exact Below.refl _ _ | refine bset ?_ | refine balloc ?_ _ | refine bt ?_ (by assumption))

set_option maxHeartbeats 4000000 in
theorem be_str (kids n : Int) (s t u : ByteArray) (ln co : Int) (hs : s.size ≤ maxLen) (w : World) :
    Calls Tryz.prog 69 #[.agg #[.int .i8 2, .int .i64 kids, .int .i64 n, .string s, .string t, .string u, .int .i64 ln, .int .i64 co]] w fun e w' => e = .returned (.bool (Tr.mayB ⟨2, kids, n, s, t, u, ln, co⟩)) ∧ Below w.heap.size w w' := by
  have hk := fit_node 2 kids n s t u ln co
  have hq := quote_node s hs
  have HM : Aside (Tr.mayB ⟨2, kids, n, s, t, u, ln, co⟩ = (Tr.fitB ⟨2, kids, n, s, t, u, ln, co⟩ && n == 0 && (Tx.quoted s.data.toList).isSome && t.toList.isEmpty && u.toList.isEmpty)) := by show _ = _; simp only [str_empty]; rfl
  generalize Tr.fitB ⟨2, kids, n, s, t, u, ln, co⟩ = f at *
  generalize (Tx.quoted s.data.toList).isSome = f2 at *
  go_enter Tryz.func69, Tryz.ntmps69
  go_wp2_with (first | (go_at_call 114; refine (hk _).mono ?_; rintro e w1 ⟨rfl, hB1⟩; obtain ⟨hc1, hf1⟩ := bcell hB1; have hz1 : w.heap.size < w1.heap.size := by have := hB1.size; (try simp at this); omega) | (go_at_call 115; refine (hq _).mono ?_; rintro e w2 ⟨q, er, rfl, her, hB2⟩; obtain ⟨hc2, hf2⟩ := bcell hB2; have hz2 : w.heap.size < w2.heap.size := by have := hB2.size; (try simp at this); omega))
  all_goals
    go_ret
    rw [HM.out]
    go_light
    refine ⟨ret_bool ?_, ?_⟩
    · clear HM
      first
        | (simp [*]; done)
        | (simp [*]; intros; omega)
    · repeat (first | exact Below.refl _ _ | refine bset ?_ | refine balloc ?_ _ | refine bt ?_ (by assumption))

set_option maxHeartbeats 4000000 in
theorem be_other (kind : Int) (h1 : kind ≠ 1) (h2 : kind ≠ 2) (h3 : kind ≠ 3) (h4 : kind ≠ 4) (h5 : kind ≠ 5) (h6 : kind ≠ 6) (h8 : kind ≠ 8) (h29 : kind ≠ 29) (kids n : Int) (s t u : ByteArray) (ln co : Int) (_ : s.size ≤ maxLen) (w : World) :
    Calls Tryz.prog 69 #[.agg #[.int .i8 kind, .int .i64 kids, .int .i64 n, .string s, .string t, .string u, .int .i64 ln, .int .i64 co]] w fun e w' => e = .returned (.bool (Tr.mayB ⟨kind, kids, n, s, t, u, ln, co⟩)) ∧ Below w.heap.size w w' := by
  have hk := fit_node kind kids n s t u ln co
  have e3 : (kind == 3) = false := by simpa using h3
  have e1 : (kind == 1) = false := by simpa using h1
  have e2 : (kind == 2) = false := by simpa using h2
  have e29 : (kind == 29) = false := by simpa using h29
  have e6 : (kind == 6) = false := by simpa using h6
  have e5 : (kind == 5) = false := by simpa using h5
  have e8 : (kind == 8) = false := by simpa using h8
  have e4 : (kind == 4) = false := by simpa using h4
  have HM : Aside (Tr.mayB ⟨kind, kids, n, s, t, u, ln, co⟩ = (Tr.fitB ⟨kind, kids, n, s, t, u, ln, co⟩ && n == 0 && s.toList.isEmpty && t.toList.isEmpty && u.toList.isEmpty)) := by show _ = _; simp only [str_empty]; simp [Tr.mayB, Tr.nB, Tr.sB, Tr.tB, Tr.uB, Tr.nm, h1, h2, h3, h4, h5, h6, h8, h29]
  generalize Tr.fitB ⟨kind, kids, n, s, t, u, ln, co⟩ = f at *
  clear h1 h2 h3 h4 h5 h6 h8 h29
  go_enter Tryz.func69, Tryz.ntmps69
  go_wp2_with (first | (go_at_call 114; refine (hk _).mono ?_; rintro e w1 ⟨rfl, hB1⟩; obtain ⟨hc1, hf1⟩ := bcell hB1; have hz1 : w.heap.size < w1.heap.size := by have := hB1.size; (try simp at this); omega))
  all_goals
    go_ret
    rw [HM.out]
    go_light
    refine ⟨ret_bool ?_, ?_⟩
    · clear HM
      first
        | (simp [*]; done)
        | (simp [*]; intros; omega)
    · repeat (first | exact Below.refl _ _ | refine bset ?_ | refine balloc ?_ _ | refine bt ?_ (by assumption))

end Go.Proofs.YtohjfikjbeafiaaGreatDoor
namespace Go.Proofs.YtohjfikjbeafiaaGreatDoor
open Go.RowKit
set_option maxRecDepth 100000

namespace Tr
def ncells (x : Nd) : List Value := [.int .i8 x.kind, .int .i64 x.kids, .int .i64 x.n, .string x.s, .string x.t, .string x.u, .int .i64 x.ln, .int .i64 x.co]
/-- The counts as they lie, the top one last. -/
def row (st : List Nat) : List Value := st.reverse.map fun (m : Nat) => Value.int .i64 (m : Int)
theorem row_cons (m : Nat) (r : List Nat) : row (m :: r) = row r ++ [.int .i64 (m : Int)] := by simp [row]
theorem row_len (st : List Nat) : (row st).length = st.length := by simp [row]
end Tr

/-- A list of nodes, wherever it lies. -/
def IsNodes (w : World) (v : Value) (l : List Tr.Nd) : Prop :=
  (l = [] ∧ ∃ a c, v = .slice a 0 c) ∨ ∃ b o c, v = .slice (some ⟨b, o, none⟩) l.length c ∧ l.length ≤ c ∧ b < w.heap.size ∧ ∀ j x, l[j]? = some x → ∀ i u, (Tr.ncells x)[i]? = some u → w.cell? ⟨b, o + j * 8 + i, none⟩ = some u
theorem IsNodes.form {w : World} {v : Value} {l : List Tr.Nd} (h : IsNodes w v l) : ∃ a c, v = .slice a l.length c := by
  rcases h with ⟨rfl, a, c, rfl⟩ | ⟨b, o, c, rfl, _⟩
  · exact ⟨a, c, rfl⟩
  · exact ⟨_, c, rfl⟩
theorem IsNodes.at {w : World} {a : Option Addr} {n c : Nat} {l : List Tr.Nd} (h : IsNodes w (.slice a n c) l) {k : Nat} {x : Tr.Nd} (hx : l[k]? = some x) :
    ∃ b o, a = some ⟨b, o, none⟩ ∧ n ≤ c ∧ b < w.heap.size ∧ ∀ i u, (Tr.ncells x)[i]? = some u → w.cell? ⟨b, o + k * 8 + i, none⟩ = some u := by
  rcases h with ⟨rfl, _⟩ | ⟨b, o, c', h0, h1, h2, h3⟩
  · simp at hx
  · obtain ⟨rfl, rfl, rfl⟩ : a = some ⟨b, o, none⟩ ∧ n = l.length ∧ c = c' := by simpa using h0
    exact ⟨b, o, rfl, h1, h2, h3 k x hx⟩
/-- The block that a list lies in is not this one. -/
def Off (v : Value) (r : Option Nat) : Prop := ∀ b o n c, v = .slice (some ⟨b, o, none⟩) n c → some b ≠ r
theorem IsNodes.next {w w' : World} {v : Value} {l : List Tr.Nd} {r : Option Nat} (h : IsNodes w v l) (hg : w.grownBy w' r) (hne : Off v r) : IsNodes w' v l := by
  rcases h with h | ⟨b, o, c, rfl, h1, h2, h3⟩
  · exact .inl h
  · exact .inr ⟨b, o, c, rfl, h1, Nat.lt_of_lt_of_le h2 hg.size, fun j x hx i u hu => hg.cell (h3 j x hx i u hu) (hne b o _ _ rfl)⟩
theorem IsNodes.below {w w' : World} {v : Value} {l : List Tr.Nd} (h : IsNodes w v l) (hB : Below w.heap.size w w') : IsNodes w' v l := by
  rcases h with h | ⟨b, o, c, rfl, h1, h2, h3⟩
  · exact .inl h
  · exact .inr ⟨b, o, c, rfl, h1, Nat.lt_of_lt_of_le h2 hB.size, fun j x hx i u hu => (hB.cell (p := ⟨b, o + j * 8 + i, none⟩) h2).trans (h3 j x hx i u hu)⟩

/-- What is thrown where no part goes on. -/
def thrown (k : Nat) : List PanicEntry := [{ v := .iface 109 (.agg #[.int .i64 (k : Int)]), recovered := false }]

theorem grown_of_below {w w1 w2 : World} {r : Option Nat} (h : w.grownBy w1 r) (hB : Below w.heap.size w1 w2) : w.grownBy w2 r :=
  ⟨hB.os.trans h.os, hB.tape.trans h.tape, hB.output.trans h.output, Nat.le_trans h.size hB.size, fun k hk hne => (hB.block k hk).trans (h.block k hk hne)⟩
theorem grown_then {w w1 w2 : World} {r : Option Nat} (h : w.grownBy w1 r) (h2 : w1.grownBy w2 r) : w.grownBy w2 r := grownBy_trans h h2

/-- How a walk ends: at k, the counts being st. -/
inductive WEnd (l : List Tr.Nd) (I J : Nat → List Nat → World → Prop) (w' : World) : Ending → Prop
  | done (k : Nat) (st : List Nat) (hk : k ≤ l.length) (hst : Tr.popz st = []) (hI : I k st w') : WEnd l I J w' (.returned (.int .i64 (k : Int)))
  | short (st : List Nat) (hst : Tr.popz st ≠ []) (hI : I l.length st w') : WEnd l I J w' (.panicked (thrown l.length))
  | bad (k : Nat) (st : List Nat) (hk : k < l.length) (hst : Tr.popz st ≠ []) (hJ : J k st w') : WEnd l I J w' (.panicked (thrown k))

/-- What a visit does. -/
def Visits (l : List Tr.Nd) (v : Value) (F : Nat) (caps : Array Value) (r : Option Nat) (base : Nat) (I J : Nat → List Nat → World → Prop) : Prop :=
  ∀ (k : Nat) (m : Nat) (st : List Nat) (x : Tr.Nd) (w : World), l[k]? = some x → st.length ≤ k → IsNodes w v l → base ≤ w.heap.size → I k ((m + 1) :: st) w →
    Calls Tryz.prog F (#[.int .i64 (k : Int), .int .i64 ((st.length + 1 : Nat) : Int)] ++ caps) w fun e w' => w.grownBy w' r ∧
      ((e = .returned (.tuple #[]) ∧ (0 ≤ x.kids → I (k + 1) (x.kids.toNat :: m :: st) w') ∧ (x.kids < 0 → J k ((m + 1) :: st) w')) ∨ (e = .panicked (thrown k) ∧ J k ((m + 1) :: st) w'))

set_option maxHeartbeats 4000000 in
theorem walk_any (l : List Tr.Nd) (hlen : l.length ≤ 2199023255552) (hwf : ∀ x ∈ l, x.kids ≤ 9223372036854775807) (v : Value) (F : Nat) (caps : Array Value) (r : Option Nat) (at0 : Nat) (h0 : at0 ≤ l.length) (w : World) (I J : Nat → List Nat → World → Prop)
    (hE : ∀ args w, (callFunc F args).run Tryz.prog w = .ok (.enter F args) w) (hl : IsNodes w v l) (hoff : Off v r) (hr : ∀ b, r = some b → b < w.heap.size)
    (hV : Visits l v F caps r w.heap.size I J) (hI : ∀ k st w1 w2, I k st w1 → Below w.heap.size w1 w2 → I k st w2) (hP : ∀ k r w1, I k (0 :: r) w1 → I k r w1)
    (h1 : I at0 [1] w) :
    Calls Tryz.prog 67 #[v, .int .i64 (at0 : Int), .func (.func F) #[] caps] w fun e w' => w.grownBy w' r ∧ WEnd l I J w' e := by
  obtain ⟨a, c, rfl⟩ := hl.form
  obtain ⟨i0, hi, hz0, hz1, hz2⟩ := info_parts info3
  go_enter Tryz.func67, Tryz.ntmps67
  go_wp2_with fail
  go_loopg [1, 7] (2 * (l.length - at0) + 1) (fun g t vm wr => ∃ (k : Nat) (st : List Nat), g = 2 * (l.length - k) + st.length ∧ k ≤ l.length ∧ at0 ≤ k ∧ st.length ≤ k + 1 ∧ t = .int .i64 (k : Int) ∧ wr.ownsRow w.heap.size 3 1 vm st.length (Tr.row st) ∧ w.grownBy wr r ∧ (∀ m ∈ st, m ≤ 9223372036854775807) ∧ Aside (I k st wr))
  case atStart =>
    refine ⟨at0, [1], by simp, h0, Nat.le_refl _, by simp, rfl, ?_, World.grownBy_alloc _ _ _, by simp, hI _ _ _ _ h1 ((Below.refl _ _).alloc (Nat.le_refl _) _)⟩
    exact own_lit w (Tr.row [1]) 3 (by decide)
  case round =>
    obtain ⟨k, st, hg, hk, hk0, hst, rfl, hown, hgr, hmx, HI⟩ := hrel
    cases st with
    | nil =>
      obtain ⟨va, vc, rfl⟩ := own_len hown
      go_wp2_with fail
      go_ret
      exact ⟨hgr, .done k [] hk rfl HI.out⟩
    | cons m st =>
      rw [Tr.row_cons] at hown
      obtain ⟨b, cap, hv, hcap, hbg, hcell⟩ := own_cells hown (by simp)
      simp only [List.length_cons] at hcap hown hst hg hv
      subst hv
      have hbl : b < wr.heap.size := (hown.lt b rfl).2
      have hrb : some b ≠ r := fun e => by have := hr b e.symm; omega
      have hm9 := hmx m (by simp)
      have hm8 : ∀ x ∈ st, x ≤ 9223372036854775807 := fun x hx => hmx x (by simp [hx])
      have c0 : wr.cell? ⟨b, st.length, none⟩ = some (.int .i64 (m : Int)) := by
        rw [hcell st.length (by simp), List.getElem?_append_right (by rw [Tr.row_len]; exact Nat.le_refl _), Tr.row_len]; simp
      have f0 : wr.frozen? ⟨b, st.length, none⟩ = false := hown.frozenAt _
      have hsl : st.length ≤ k := by simpa using hst
      have hk63 : k ≤ 2199023255552 := by omega
      clear hcell hmx
      cases m with
      | zero =>
        have hpop := ownsRow_pop (by rw [Tr.row_len]; simp) hown
        have hc1 : (st.length : Int) ≤ (cap : Int) := by omega
        have hc2 : (0 : Int) ≤ (st.length : Int) := by omega
        go_wp2_with fail
        go_roundg (2 * (l.length - k) + st.length)
        case measure => omega
        case rel => exact ⟨k, st, rfl, hk, hk0, by omega, rfl, hpop, hgr, hm8, hP _ _ _ HI.out⟩
      | succ m =>
        have hm0 : ((((m + 1 : Nat) : Int)) == 0) = false := by simp; omega
        have hB1 : Below w.heap.size wr (wr.setCell ⟨b, st.length, none⟩ (.int .i64 (m : Int))) := (Below.refl _ _).setCell hbg _
        have hown1 : (wr.setCell ⟨b, st.length, none⟩ (.int .i64 (m : Int))).ownsRow w.heap.size 3 1 (.slice (some ⟨b, 0, none⟩) (st.length + 1) cap) (st.length + 1) (Tr.row (m :: st)) := by
          have := (hown.stored st.length (.int .i64 (m : Int))).1
          rw [Tr.row_cons]
          simpa [List.set_append_right, Tr.row_len] using this
        have hI1 : Aside (I k ((m + 1) :: st) (wr.setCell ⟨b, st.length, none⟩ (.int .i64 (m : Int)))) := hI _ _ _ _ HI.out hB1
        have hgr1 : w.grownBy (wr.setCell ⟨b, st.length, none⟩ (.int .i64 (m : Int))) r := grown_of_below hgr hB1
        have hsz1 : (wr.setCell ⟨b, st.length, none⟩ (.int .i64 (m : Int))).heap.size = wr.heap.size := by simp [World.setCell]
        have hws : w.heap.size ≤ wr.heap.size := hgr.size
        have hl1 : IsNodes (wr.setCell ⟨b, st.length, none⟩ (.int .i64 (m : Int))) (.slice a l.length c) l := hl.next hgr1 hoff
        clear HI hP hgr
        have hc2 : (0 : Int) ≤ (st.length : Int) := by omega
        have hc3 : (st.length : Int) ≤ (cap : Int) := by omega
        by_cases hkl : k = l.length
        · subst hkl
          go_wp2_with fail
          exact ⟨rfl, hgr1, .short _ (by simp [Tr.popz]) hI1.out⟩
        · have hkl' : ((k : Int) == (l.length : Int)) = false := by simp; omega
          have hklt : k < l.length := by omega
          obtain ⟨x, hx⟩ : ∃ x, l[k]? = some x := ⟨l[k], List.getElem?_eq_getElem hklt⟩
          have hV' := hV k m st x _ hx hsl hl1 (by rw [hsz1]; exact hws) hI1.out
          generalize hW1 : wr.setCell ⟨b, st.length, none⟩ (.int .i64 (m : Int)) = w1 at *
          clear hkl hV
          go_wp2_with fail
          rw [show ((st.length : Int) + 1) = ((st.length + 1 : Nat) : Int) by omega]
          refine hV'.mono ?_
          rintro e w2 ⟨hg2, ⟨rfl, hIn, hJn⟩ | ⟨rfl, hJn⟩⟩
          · have hl2 := hl1.next hg2 hoff
            have hgr2 := grown_then hgr1 hg2
            have hws2 : w.heap.size ≤ w2.heap.size := hgr2.size
            have hown2 := hown1.kept hg2 (.inr (by simpa [Value.ownBlock] using hrb))
            obtain ⟨b1, o1, rfl, hlc, hb1, hcx⟩ := hl2.at hx
            have c1 : w2.cell? ⟨b1, o1 + k * 8 + 1, none⟩ = some (.int .i64 x.kids) := hcx 1 _ rfl
            have hk'' : (k : Int) < (l.length : Int) := by omega
            have hk2 : (0 : Int) ≤ (k : Int) := by omega
            clear hcx hown1 hl1 hl2 hgr1 hV' hg2
            by_cases hneg : x.kids < 0
            · go_wp2_with fail
              exact ⟨rfl, hgr2, .bad k _ hklt (by simp [Tr.popz]) (hJn hneg)⟩
            · have hneg' : decide (x.kids < 0) = false := by simpa using hneg
              have hkt : ((x.kids.toNat : Nat) : Int) = x.kids := by omega
              have HI2 : Aside (I (k + 1) (x.kids.toNat :: m :: st) w2) := hIn (by omega)
              clear hIn hJn hneg
              have hcap2 : st.length + 1 + 1 ≤ maxLen := by unfold maxLen; omega
              go_wp2_with (at_builtin; go_must (refine wpList_append_own _ rfl _ _ 144 rfl w.heap.size 3 i0 (.int .i64 0) 1 8 tyInts hi hz0 hz1 hz2 rfl (by decide) (.slice (some ⟨b, 0, none⟩) (st.length + 1) cap) _ _ rfl (hown2.alloc _) ⟨w2.heap.size, 0, none⟩ 1 1 [.int .i64 x.kids] rfl rfl (cells_list_new _ [.int .i64 x.kids] 3) (fun u hu => by simp at hu; subst hu; rfl) (by unfold maxLen; omega) (by omega) (by simp; omega) ?_); intro v3 w3 hown3 hg3 _)
              go_roundg (2 * (l.length - (k + 1)) + (st.length + 2))
              case measure => omega
              case rel =>
                have hB3 : Below w.heap.size w2 w3 := (Below.refl _ _).grown (grownBy_alloc_pre hg3) (Nat.le_trans hgr2.size (Nat.le_refl _)) (fun y e => by cases e; exact hbg)
                refine ⟨k + 1, x.kids.toNat :: m :: st, by simp, by omega, by omega, by simp; omega, by go_num, ?_, grown_of_below hgr2 hB3, ?_, hI _ _ _ _ HI2.out hB3⟩
                · rw [Tr.row_cons, hkt]; exact hown3
                · intro y hy
                  simp only [List.mem_cons] at hy
                  rcases hy with rfl | rfl | hy
                  · have := hwf x (List.mem_of_getElem? hx); omega
                  · omega
                  · exact hm8 y hy
          · exact ⟨rfl, grown_then hgr1 hg2, .bad k _ hklt (by simp [Tr.popz]) hJn⟩
end Go.Proofs.YtohjfikjbeafiaaGreatDoor
