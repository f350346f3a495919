/- Which nodes may be: what the program's Arity, kidsFit and the document's Arity answer. The contracts of functions of the library at this translation, laid by the tool of the guide in its plain mode. What strings.Cut answers at one blank. Which nodes may be: what the program's mayBe answers. -/
import Derived.Test.YthdlfeejeboboaaDoorUab
import Derived.Laws.StructEq
import Derived.Shelf.Strings.Builder1
import Derived.Shelf.Strings.Builder2
import Derived.Shelf.Strings.OnBuilder
import Derived.Shelf.Strings.BuilderF
import Derived.Shelf.Strings.BuilderK
import Derived.Shelf.Utf8.RuneCount
import Derived.Shelf.Strings.Search1
import Derived.Shelf.Strings.Search2
import Derived.Shelf.Strings.Search3
import Derived.Shelf.Strings.Cut
import Derived.Shelf.Strings.Count
import Derived.Shelf.LaysM
import Derived.Shelf.Strings.Shaped
import Derived.Shelf.Strings.Split
import Derived.Shelf.Strings.Replace
import Derived.Shelf.Strings.SplitShaped
import Derived.Shelf.Unicode.Decode
import Derived.Shelf.Strings.RuneCount
import Derived.Shelf.Unicode.DecodeSlow
import Derived.Shelf.Unicode.DecodeAny
import Derived.Test.YthdlfeejeboboaaDoorProg
import Derived.Lib.IndexLaws
import Derived.Deep.Light
namespace Go.Proofs.YthdlfeejeboboaaDoor
open Go.RowKit
set_option maxRecDepth 100000

namespace Tr
/-- How many kids a node of a kind has. -/
def arK (k : Int) : Int :=
  if k == 1 || k == 2 || k == 3 || k == 4 then 0
  else if k == 5 || k == 6 || k == 29 || k == 30 || k == 16 || k == 17 || k == 19 || k == 20 || k == 22 || k == 23 || k == 24 || k == 26 || k == 27 then 1
  else if k == 8 || k == 7 || k == 10 || k == 11 || k == 12 || k == 13 || k == 14 || k == 15 || k == 18 || k == 25 || k == 28 then 2
  else if k == 9 then 3 else 0
def arF (k : Int) : Bool := decide (1 ≤ k) && decide (k ≤ 30) && !(k == 21)
def fitB (x : Nd) : Bool := if x.kind == 21 then decide (0 ≤ x.kids) else if x.kind == 30 then false else arF x.kind && x.kids == arK x.kind
def agg (x : Nd) : Value := .agg #[.int .i8 x.kind, .int .i64 x.kids, .int .i64 x.n, .string x.s, .string x.t, .string x.u, .int .i64 x.ln, .int .i64 x.co]
theorem arF_in {k : Int} (h : 1 ≤ k ∧ k ≤ 30 ∧ k ≠ 21) : arF k = true := by unfold arF; simp; omega
end Tr

theorem ret_ar {a b : Int} {p q : Bool} (h : a = b) (h' : p = q) : Ending.returned (.tuple #[.int .i64 a, .bool p]) = .returned (.tuple #[.int .i64 b, .bool q]) := by rw [h, h']

set_option maxHeartbeats 2000000 in
theorem arity_any (k : Int) (w : World) :
    Calls Tryd.prog 61 #[.int .i8 k] w fun e w' => e = .returned (.tuple #[.int .i64 (Tr.arK k), .bool (Tr.arF k)]) ∧ w' = w := by
  go_enter Tryd.func61, Tryd.ntmps61
  go_wp2
  all_goals
    go_ret2
    refine ⟨ret_ar ?_ ?_, rfl⟩
    · unfold Tr.arK; simp_all
    · unfold Tr.arF
      first
        | (simp_all; done)
        | (rw [eq_comm, Bool.eq_false_iff]; simp_all; omega)

set_option maxHeartbeats 1000000 in
theorem kidsFit_any (x : Tr.Nd) (w : World) :
    Calls Tryd.prog 43 #[Tr.agg x] w fun e w' => e = .returned (.bool (Tr.fitB x)) ∧ Below w.heap.size w w' := by
  obtain ⟨kind, kids, n, s, t, u, ln, co⟩ := x
  have hB : ∀ o : Obj, Below w.heap.size w (w.alloc o) := fun o => (Below.refl _ _).alloc (Nat.le_refl _) _
  unfold Tr.agg
  simp only
  by_cases h21 : kind = 21
  · subst h21
    go_enter Tryd.func43, Tryd.ntmps43
    go_wp2_with fail
    all_goals
      go_ret
      refine ⟨ret_bool ?_, hB _⟩
      simp_all [Tr.fitB]
  · by_cases h30 : kind = 30
    · subst h30
      go_enter Tryd.func43, Tryd.ntmps43
      go_wp2_with fail
      go_ret
      exact ⟨ret_bool rfl, hB _⟩
    · have e21 : (kind == 21) = false := by simpa using h21
      have e30 : (kind == 30) = false := by simpa using h30
      have HF : Aside (Tr.fitB ⟨kind, kids, n, s, t, u, ln, co⟩ = (Tr.arF kind && kids == Tr.arK kind)) := by show _ = _; simp [Tr.fitB, e21, e30]
      clear h21 h30
      go_enter Tryd.func43, Tryd.ntmps43
      go_wp2_with (go_at_call 61; refine (arity_any _ _).mono ?_; rintro e w' ⟨rfl, rfl⟩)
      all_goals
        go_ret
        rw [HF.out]
        refine ⟨ret_bool ?_, hB _⟩
        simp_all
end Go.Proofs.YthdlfeejeboboaaDoor
namespace Go.Proofs
open Go.Shelf
def Tryd.lays156_ren : Go.Shelf.Ren := ⟨fun | 156 => 63 | 165 => 71 | 166 => 72 | 169 => 73 | 240 => 82 | 241 => 83 | 276 => 92 | 277 => 93 | n => n, fun | 31 => 23 | 9 => 9 | 3 => 3 | 4 => 4 | 0 => 0 | 20 => 20 | 72 => 124 | 76 => 128 | 70 => 122 | 37 => 114 | 75 => 127 | 127 => 137 | 164 => 146 | 5 => 5 | 80 => 130 | n => n, fun | n => n⟩
theorem Tryd.lays156 : Go.Proofs.Lays.n156 Tryd.prog Tryd.lays156_ren := {
  mixed := by kernel_rfl
  f156 := Tryd.func63.trans (congrArg some (by kernel_rfl))
  f165 := Tryd.func71.trans (congrArg some (by kernel_rfl))
  f166 := Tryd.func72.trans (congrArg some (by kernel_rfl))
  f169 := Tryd.func73.trans (congrArg some (by kernel_rfl))
  f240 := Tryd.func82.trans (congrArg some (by kernel_rfl))
  f241 := Tryd.func83.trans (congrArg some (by kernel_rfl))
  f276 := Tryd.func92.trans (congrArg some (by kernel_rfl))
  f277 := Tryd.func93.trans (congrArg some (by kernel_rfl))
  t0 := Tryd.underlying0
  a0 := Tryd.isAgg0
  z0 := Tryd.sizeOf0
  v0 := Tryd.zeroValue0
  t3 := Tryd.underlying3
  a3 := Tryd.isAgg3
  z3 := Tryd.sizeOf3
  v3 := Tryd.zeroValue3
  t4 := Tryd.underlying4
  a4 := Tryd.isAgg4
  z4 := Tryd.sizeOf4
  v4 := Tryd.zeroValue4
  t9 := Tryd.underlying9
  a9 := Tryd.isAgg9
  z9 := Tryd.sizeOf9
  v9 := Tryd.zeroValue9
  t20 := Tryd.underlying20
  a20 := Tryd.isAgg20
  z20 := Tryd.sizeOf20
  v20 := Tryd.zeroValue20
  t31 := Tryd.underlying23
  a31 := Tryd.isAgg23
  z31 := Tryd.sizeOf23
  v31 := Tryd.zeroValue23
  t37 := Tryd.underlying114
  a37 := Tryd.isAgg114
  z37 := Tryd.sizeOf114
  v37 := Tryd.zeroValue114
  t70 := Tryd.underlying122
  a70 := Tryd.isAgg122
  z70 := Tryd.sizeOf122
  v70 := Tryd.zeroValue122
  t72 := Tryd.underlying124
  a72 := Tryd.isAgg124
  z72 := Tryd.sizeOf124
  v72 := Tryd.zeroValue124
  t75 := Tryd.underlying127
  a75 := Tryd.isAgg127
  z75 := Tryd.sizeOf127
  v75 := Tryd.zeroValue127
  t76 := Tryd.underlying128
  a76 := Tryd.isAgg128
  z76 := Tryd.sizeOf128
  v76 := Tryd.zeroValue128
  t127 := Tryd.underlying137
  a127 := Tryd.isAgg137
  z127 := Tryd.sizeOf137
  v127 := Tryd.zeroValue137
  t164 := Tryd.underlying146
  a164 := Tryd.isAgg146
  z164 := Tryd.sizeOf146
  v164 := Tryd.zeroValue146 }
theorem Tryd.Builder_Extra_156 : Builder.Extra Tryd.prog Tryd.lays156_ren := {
  sizeBuilder := by kernel_rfl
  liesBuilder := by kernel_rfl
  t5 := Tryd.underlying5
  a5 := Tryd.isAgg5
  z5 := Tryd.sizeOf5
  v5 := Tryd.zeroValue5
  infoByte := by kernel_rfl
  cellsByte := by kernel_rfl
  sizeByte := by kernel_rfl
  neB5 := by decide }
open Go.RowKit in
theorem Tryd.strings_Join_none (a : Option Addr) (c : Nat) (sep : ByteArray) (w : World) :
    Calls Tryd.prog 63 #[.slice a 0 c, .string sep] w fun e w' => e = .returned (.string ⟨#[]⟩) ∧ w' = w := Any.strings_Join_none Tryd.lays156 Tryd.Builder_Extra_156 a c sep w
open Go.RowKit in
theorem Tryd.strings_Join (bk o c : Nat) (xs : List ByteArray) (sep : ByteArray) (w : World) (hcells : ∀ (j : Nat) x, xs[j]? = some x → w.cell? ⟨bk, o + j, none⟩ = some (.string x)) (hbk : bk < w.heap.size) (hN : xs.length ≤ 140737488355328) (hcap : xs.length ≤ c) (hlen : (Lib.join (xs.map (·.data.toList)) sep.data.toList).length ≤ 140737488355328) :
    Calls Tryd.prog 63 #[.slice (some ⟨bk, o, none⟩) xs.length c, .string sep] w fun e w' => e = .returned (.string ⟨(Lib.join (xs.map (·.data.toList)) sep.data.toList).toArray⟩) ∧ Below w.heap.size w w' := Any.strings_Join Tryd.lays156 Tryd.Builder_Extra_156 bk o c xs sep w hcells hbk hN hcap hlen
def Tryd.lays219_ren : Go.Shelf.Ren := ⟨fun | 219 => 68 | 217 => 78 | 225 => 79 | 224 => 80 | 267 => 81 | 266 => 90 | 314 => 91 | n => n, fun | 9 => 9 | 3 => 3 | 4 => 4 | 5 => 5 | 46 => 136 | 146 => 144 | 51 => 143 | n => n, fun | 1 => 2 | n => n⟩
theorem Tryd.lays219 : Go.Proofs.Lays.n219 Tryd.prog Tryd.lays219_ren := {
  mixed := by kernel_rfl
  f217 := Tryd.func78.trans (congrArg some (by kernel_rfl))
  f219 := Tryd.func68.trans (congrArg some (by kernel_rfl))
  f224 := Tryd.func80.trans (congrArg some (by kernel_rfl))
  f225 := Tryd.func79.trans (congrArg some (by kernel_rfl))
  f266 := Tryd.func90.trans (congrArg some (by kernel_rfl))
  f267 := Tryd.func81.trans (congrArg some (by kernel_rfl))
  f314 := Tryd.func91.trans (congrArg some (by kernel_rfl))
  t3 := Tryd.underlying3
  a3 := Tryd.isAgg3
  z3 := Tryd.sizeOf3
  v3 := Tryd.zeroValue3
  t4 := Tryd.underlying4
  a4 := Tryd.isAgg4
  z4 := Tryd.sizeOf4
  v4 := Tryd.zeroValue4
  t5 := Tryd.underlying5
  a5 := Tryd.isAgg5
  z5 := Tryd.sizeOf5
  v5 := Tryd.zeroValue5
  t9 := Tryd.underlying9
  a9 := Tryd.isAgg9
  z9 := Tryd.sizeOf9
  v9 := Tryd.zeroValue9
  t46 := Tryd.underlying136
  a46 := Tryd.isAgg136
  z46 := Tryd.sizeOf136
  v46 := Tryd.zeroValue136
  t51 := Tryd.underlying143
  a51 := Tryd.isAgg143
  z51 := Tryd.sizeOf143
  v51 := Tryd.zeroValue143
  t146 := Tryd.underlying144
  a146 := Tryd.isAgg144
  z146 := Tryd.sizeOf144
  v146 := Tryd.zeroValue144
  g1 := by kernel_rfl }
open Go.RowKit Go.Lib in
theorem Tryd.stringslite_Index_one (s : ByteArray) (c : UInt8) (w : World) :
    Calls Tryd.prog 68 #[.string s, .string ⟨#[c]⟩] w fun e w' => e = .returned (.int .i64 (Lib.indexByte s.data.toList c)) ∧ w' = w := Any.stringslite_Index_one Tryd.lays219 s c w
def Tryd.lays143_ren : Go.Shelf.Ren := ⟨fun | 143 => 88 | 219 => 68 | 217 => 78 | 225 => 79 | 224 => 80 | 267 => 81 | 266 => 90 | 314 => 91 | n => n, fun | 9 => 9 | 3 => 3 | 4 => 4 | 5 => 5 | 46 => 136 | 146 => 144 | 51 => 143 | n => n, fun | 1 => 2 | n => n⟩
theorem Tryd.lays143 : Go.Proofs.Lays.n143 Tryd.prog Tryd.lays143_ren := {
  mixed := by kernel_rfl
  f143 := Tryd.func88.trans (congrArg some (by kernel_rfl))
  f217 := Tryd.func78.trans (congrArg some (by kernel_rfl))
  f219 := Tryd.func68.trans (congrArg some (by kernel_rfl))
  f224 := Tryd.func80.trans (congrArg some (by kernel_rfl))
  f225 := Tryd.func79.trans (congrArg some (by kernel_rfl))
  f266 := Tryd.func90.trans (congrArg some (by kernel_rfl))
  f267 := Tryd.func81.trans (congrArg some (by kernel_rfl))
  f314 := Tryd.func91.trans (congrArg some (by kernel_rfl))
  t3 := Tryd.underlying3
  a3 := Tryd.isAgg3
  z3 := Tryd.sizeOf3
  v3 := Tryd.zeroValue3
  t4 := Tryd.underlying4
  a4 := Tryd.isAgg4
  z4 := Tryd.sizeOf4
  v4 := Tryd.zeroValue4
  t5 := Tryd.underlying5
  a5 := Tryd.isAgg5
  z5 := Tryd.sizeOf5
  v5 := Tryd.zeroValue5
  t9 := Tryd.underlying9
  a9 := Tryd.isAgg9
  z9 := Tryd.sizeOf9
  v9 := Tryd.zeroValue9
  t46 := Tryd.underlying136
  a46 := Tryd.isAgg136
  z46 := Tryd.sizeOf136
  v46 := Tryd.zeroValue136
  t51 := Tryd.underlying143
  a51 := Tryd.isAgg143
  z51 := Tryd.sizeOf143
  v51 := Tryd.zeroValue143
  t146 := Tryd.underlying144
  a146 := Tryd.isAgg144
  z146 := Tryd.sizeOf144
  v146 := Tryd.zeroValue144
  g1 := by kernel_rfl }
open Go.RowKit Go.Lib in
theorem Tryd.strings_Index_one (s : ByteArray) (c : UInt8) (w : World) :
    Calls Tryd.prog 88 #[.string s, .string ⟨#[c]⟩] w fun e w' => e = .returned (.int .i64 (Lib.indexByte s.data.toList c)) ∧ w' = w := Any.strings_Index_one Tryd.lays143 s c w
def Tryd.lays220_ren : Go.Shelf.Ren := ⟨fun | 220 => 59 | 219 => 68 | 217 => 78 | 225 => 79 | 224 => 80 | 267 => 81 | 266 => 90 | 314 => 91 | n => n, fun | 9 => 9 | 4 => 4 | 3 => 3 | 5 => 5 | 46 => 136 | 146 => 144 | 51 => 143 | n => n, fun | 1 => 2 | n => n⟩
theorem Tryd.lays220 : Go.Proofs.Lays.n220 Tryd.prog Tryd.lays220_ren := {
  mixed := by kernel_rfl
  f217 := Tryd.func78.trans (congrArg some (by kernel_rfl))
  f219 := Tryd.func68.trans (congrArg some (by kernel_rfl))
  f220 := Tryd.func59.trans (congrArg some (by kernel_rfl))
  f224 := Tryd.func80.trans (congrArg some (by kernel_rfl))
  f225 := Tryd.func79.trans (congrArg some (by kernel_rfl))
  f266 := Tryd.func90.trans (congrArg some (by kernel_rfl))
  f267 := Tryd.func81.trans (congrArg some (by kernel_rfl))
  f314 := Tryd.func91.trans (congrArg some (by kernel_rfl))
  t3 := Tryd.underlying3
  a3 := Tryd.isAgg3
  z3 := Tryd.sizeOf3
  v3 := Tryd.zeroValue3
  t4 := Tryd.underlying4
  a4 := Tryd.isAgg4
  z4 := Tryd.sizeOf4
  v4 := Tryd.zeroValue4
  t5 := Tryd.underlying5
  a5 := Tryd.isAgg5
  z5 := Tryd.sizeOf5
  v5 := Tryd.zeroValue5
  t9 := Tryd.underlying9
  a9 := Tryd.isAgg9
  z9 := Tryd.sizeOf9
  v9 := Tryd.zeroValue9
  t46 := Tryd.underlying136
  a46 := Tryd.isAgg136
  z46 := Tryd.sizeOf136
  v46 := Tryd.zeroValue136
  t51 := Tryd.underlying143
  a51 := Tryd.isAgg143
  z51 := Tryd.sizeOf143
  v51 := Tryd.zeroValue143
  t146 := Tryd.underlying144
  a146 := Tryd.isAgg144
  z146 := Tryd.sizeOf144
  v146 := Tryd.zeroValue144
  g1 := by kernel_rfl }
open Go.RowKit Go.Lib in
theorem Tryd.stringslite_Cut (s sep : ByteArray) (m : Int) (w : World) (hs : s.size < 4294967281) (hm : w.cell? ⟨2, 0, none⟩ = some (.int .i64 m)) :
    Calls Tryd.prog 59 #[.string s, .string sep] w fun e w' => e = .returned (.tuple #[.string ⟨(Lib.cut s.data.toList sep.data.toList).1.toArray⟩, .string ⟨(Lib.cut s.data.toList sep.data.toList).2.1.toArray⟩, .bool (Lib.cut s.data.toList sep.data.toList).2.2]) ∧ ∃ n, w' = w.drewN n := Any.stringslite_Cut Tryd.lays220 s sep m w hs hm
def Tryd.lays145_ren : Go.Shelf.Ren := ⟨fun | 145 => 38 | 220 => 59 | 219 => 68 | 217 => 78 | 225 => 79 | 224 => 80 | 267 => 81 | 266 => 90 | 314 => 91 | n => n, fun | 9 => 9 | 4 => 4 | 59 => 88 | 3 => 3 | 5 => 5 | 46 => 136 | 146 => 144 | 51 => 143 | n => n, fun | 1 => 2 | n => n⟩
theorem Tryd.lays145 : Go.Proofs.Lays.n145 Tryd.prog Tryd.lays145_ren := {
  mixed := by kernel_rfl
  f145 := Tryd.func38.trans (congrArg some (by kernel_rfl))
  f217 := Tryd.func78.trans (congrArg some (by kernel_rfl))
  f219 := Tryd.func68.trans (congrArg some (by kernel_rfl))
  f220 := Tryd.func59.trans (congrArg some (by kernel_rfl))
  f224 := Tryd.func80.trans (congrArg some (by kernel_rfl))
  f225 := Tryd.func79.trans (congrArg some (by kernel_rfl))
  f266 := Tryd.func90.trans (congrArg some (by kernel_rfl))
  f267 := Tryd.func81.trans (congrArg some (by kernel_rfl))
  f314 := Tryd.func91.trans (congrArg some (by kernel_rfl))
  t3 := Tryd.underlying3
  a3 := Tryd.isAgg3
  z3 := Tryd.sizeOf3
  v3 := Tryd.zeroValue3
  t4 := Tryd.underlying4
  a4 := Tryd.isAgg4
  z4 := Tryd.sizeOf4
  v4 := Tryd.zeroValue4
  t5 := Tryd.underlying5
  a5 := Tryd.isAgg5
  z5 := Tryd.sizeOf5
  v5 := Tryd.zeroValue5
  t9 := Tryd.underlying9
  a9 := Tryd.isAgg9
  z9 := Tryd.sizeOf9
  v9 := Tryd.zeroValue9
  t46 := Tryd.underlying136
  a46 := Tryd.isAgg136
  z46 := Tryd.sizeOf136
  v46 := Tryd.zeroValue136
  t51 := Tryd.underlying143
  a51 := Tryd.isAgg143
  z51 := Tryd.sizeOf143
  v51 := Tryd.zeroValue143
  t59 := Tryd.underlying88
  a59 := Tryd.isAgg88
  z59 := Tryd.sizeOf88
  v59 := Tryd.zeroValue88
  t146 := Tryd.underlying144
  a146 := Tryd.isAgg144
  z146 := Tryd.sizeOf144
  v146 := Tryd.zeroValue144
  g1 := by kernel_rfl }
open Go.RowKit Go.Lib in
theorem Tryd.strings_Cut (s sep : ByteArray) (m : Int) (w : World) (hs : s.size < 4294967281) (hm : w.cell? ⟨2, 0, none⟩ = some (.int .i64 m)) :
    Calls Tryd.prog 38 #[.string s, .string sep] w fun e w' => e = .returned (.tuple #[.string ⟨(Lib.cut s.data.toList sep.data.toList).1.toArray⟩, .string ⟨(Lib.cut s.data.toList sep.data.toList).2.1.toArray⟩, .bool (Lib.cut s.data.toList sep.data.toList).2.2]) ∧ ∃ n, w' = w.drewN n := Any.strings_Cut Tryd.lays145 s sep m w hs hm
def Tryd.lays138_ren : Go.Shelf.Ren := ⟨fun | 138 => 87 | 195 => 95 | 218 => 96 | 143 => 88 | 219 => 68 | 217 => 78 | 225 => 79 | 224 => 80 | 267 => 81 | 266 => 90 | 314 => 91 | n => n, fun | 9 => 9 | 3 => 3 | 4 => 4 | 5 => 5 | 0 => 0 | 46 => 136 | 146 => 144 | 51 => 143 | n => n, fun | 1 => 2 | n => n⟩
theorem Tryd.lays138 : Go.Proofs.Lays.n138 Tryd.prog Tryd.lays138_ren := {
  mixed := by kernel_rfl
  f138 := Tryd.func87.trans (congrArg some (by kernel_rfl))
  f143 := Tryd.func88.trans (congrArg some (by kernel_rfl))
  f195 := Tryd.func95.trans (congrArg some (by kernel_rfl))
  f217 := Tryd.func78.trans (congrArg some (by kernel_rfl))
  f218 := Tryd.func96.trans (congrArg some (by kernel_rfl))
  f219 := Tryd.func68.trans (congrArg some (by kernel_rfl))
  f224 := Tryd.func80.trans (congrArg some (by kernel_rfl))
  f225 := Tryd.func79.trans (congrArg some (by kernel_rfl))
  f266 := Tryd.func90.trans (congrArg some (by kernel_rfl))
  f267 := Tryd.func81.trans (congrArg some (by kernel_rfl))
  f314 := Tryd.func91.trans (congrArg some (by kernel_rfl))
  t0 := Tryd.underlying0
  a0 := Tryd.isAgg0
  z0 := Tryd.sizeOf0
  v0 := Tryd.zeroValue0
  t3 := Tryd.underlying3
  a3 := Tryd.isAgg3
  z3 := Tryd.sizeOf3
  v3 := Tryd.zeroValue3
  t4 := Tryd.underlying4
  a4 := Tryd.isAgg4
  z4 := Tryd.sizeOf4
  v4 := Tryd.zeroValue4
  t5 := Tryd.underlying5
  a5 := Tryd.isAgg5
  z5 := Tryd.sizeOf5
  v5 := Tryd.zeroValue5
  t9 := Tryd.underlying9
  a9 := Tryd.isAgg9
  z9 := Tryd.sizeOf9
  v9 := Tryd.zeroValue9
  t46 := Tryd.underlying136
  a46 := Tryd.isAgg136
  z46 := Tryd.sizeOf136
  v46 := Tryd.zeroValue136
  t51 := Tryd.underlying143
  a51 := Tryd.isAgg143
  z51 := Tryd.sizeOf143
  v51 := Tryd.zeroValue143
  t146 := Tryd.underlying144
  a146 := Tryd.isAgg144
  z146 := Tryd.sizeOf144
  v146 := Tryd.zeroValue144
  g1 := by kernel_rfl }
open Go.RowKit Go.Lib in
theorem Tryd.strings_Count_one (s : ByteArray) (c : UInt8) (w : World) :
    Calls Tryd.prog 87 #[.string s, .string ⟨#[c]⟩] w fun e w' => e = .returned (.int .i64 (Lib.countByte s.data.toList c)) ∧ w' = w := Any.strings_Count_one Tryd.lays138 s c w
def Tryd.lays155_ren : Go.Shelf.Ren := ⟨fun | 155 => 67 | 154 => 77 | 138 => 87 | 165 => 71 | 143 => 88 | 166 => 72 | 197 => 89 | 169 => 73 | 195 => 95 | 218 => 96 | 240 => 82 | 241 => 83 | 219 => 68 | 260 => 97 | 276 => 92 | 277 => 93 | 217 => 78 | 225 => 79 | 224 => 80 | 267 => 81 | 266 => 90 | 314 => 91 | n => n, fun | 9 => 9 | 3 => 3 | 4 => 4 | 72 => 124 | 0 => 0 | 76 => 128 | 105 => 141 | 21 => 21 | 5 => 5 | 70 => 122 | 20 => 20 | 37 => 114 | 75 => 127 | 127 => 137 | 164 => 146 | 46 => 136 | 119 => 150 | 139 => 153 | 138 => 152 | 146 => 144 | 51 => 143 | 80 => 130 | n => n, fun | 1 => 2 | 3 => 3 | 4 => 4 | n => n⟩
theorem Tryd.lays155 : Go.Proofs.Lays.n155 Tryd.prog Tryd.lays155_ren := {
  mixed := by kernel_rfl
  f138 := Tryd.func87.trans (congrArg some (by kernel_rfl))
  f143 := Tryd.func88.trans (congrArg some (by kernel_rfl))
  f154 := Tryd.func77.trans (congrArg some (by kernel_rfl))
  f155 := Tryd.func67.trans (congrArg some (by kernel_rfl))
  f165 := Tryd.func71.trans (congrArg some (by kernel_rfl))
  f166 := Tryd.func72.trans (congrArg some (by kernel_rfl))
  f169 := Tryd.func73.trans (congrArg some (by kernel_rfl))
  f195 := Tryd.func95.trans (congrArg some (by kernel_rfl))
  f197 := Tryd.func89.trans (congrArg some (by kernel_rfl))
  f217 := Tryd.func78.trans (congrArg some (by kernel_rfl))
  f218 := Tryd.func96.trans (congrArg some (by kernel_rfl))
  f219 := Tryd.func68.trans (congrArg some (by kernel_rfl))
  f224 := Tryd.func80.trans (congrArg some (by kernel_rfl))
  f225 := Tryd.func79.trans (congrArg some (by kernel_rfl))
  f240 := Tryd.func82.trans (congrArg some (by kernel_rfl))
  f241 := Tryd.func83.trans (congrArg some (by kernel_rfl))
  f260 := Tryd.func97.trans (congrArg some (by kernel_rfl))
  f266 := Tryd.func90.trans (congrArg some (by kernel_rfl))
  f267 := Tryd.func81.trans (congrArg some (by kernel_rfl))
  f276 := Tryd.func92.trans (congrArg some (by kernel_rfl))
  f277 := Tryd.func93.trans (congrArg some (by kernel_rfl))
  f314 := Tryd.func91.trans (congrArg some (by kernel_rfl))
  t0 := Tryd.underlying0
  a0 := Tryd.isAgg0
  z0 := Tryd.sizeOf0
  v0 := Tryd.zeroValue0
  t3 := Tryd.underlying3
  a3 := Tryd.isAgg3
  z3 := Tryd.sizeOf3
  v3 := Tryd.zeroValue3
  t4 := Tryd.underlying4
  a4 := Tryd.isAgg4
  z4 := Tryd.sizeOf4
  v4 := Tryd.zeroValue4
  t5 := Tryd.underlying5
  a5 := Tryd.isAgg5
  z5 := Tryd.sizeOf5
  v5 := Tryd.zeroValue5
  t9 := Tryd.underlying9
  a9 := Tryd.isAgg9
  z9 := Tryd.sizeOf9
  v9 := Tryd.zeroValue9
  t20 := Tryd.underlying20
  a20 := Tryd.isAgg20
  z20 := Tryd.sizeOf20
  v20 := Tryd.zeroValue20
  t21 := Tryd.underlying21
  a21 := Tryd.isAgg21
  z21 := Tryd.sizeOf21
  v21 := Tryd.zeroValue21
  t37 := Tryd.underlying114
  a37 := Tryd.isAgg114
  z37 := Tryd.sizeOf114
  v37 := Tryd.zeroValue114
  t46 := Tryd.underlying136
  a46 := Tryd.isAgg136
  z46 := Tryd.sizeOf136
  v46 := Tryd.zeroValue136
  t51 := Tryd.underlying143
  a51 := Tryd.isAgg143
  z51 := Tryd.sizeOf143
  v51 := Tryd.zeroValue143
  t70 := Tryd.underlying122
  a70 := Tryd.isAgg122
  z70 := Tryd.sizeOf122
  v70 := Tryd.zeroValue122
  t72 := Tryd.underlying124
  a72 := Tryd.isAgg124
  z72 := Tryd.sizeOf124
  v72 := Tryd.zeroValue124
  t75 := Tryd.underlying127
  a75 := Tryd.isAgg127
  z75 := Tryd.sizeOf127
  v75 := Tryd.zeroValue127
  t76 := Tryd.underlying128
  a76 := Tryd.isAgg128
  z76 := Tryd.sizeOf128
  v76 := Tryd.zeroValue128
  t105 := Tryd.underlying141
  a105 := Tryd.isAgg141
  z105 := Tryd.sizeOf141
  v105 := Tryd.zeroValue141
  t119 := Tryd.underlying150
  a119 := Tryd.isAgg150
  z119 := Tryd.sizeOf150
  t127 := Tryd.underlying137
  a127 := Tryd.isAgg137
  z127 := Tryd.sizeOf137
  v127 := Tryd.zeroValue137
  t138 := Tryd.underlying152
  a138 := Tryd.isAgg152
  z138 := Tryd.sizeOf152
  v138 := Tryd.zeroValue152
  t139 := Tryd.underlying153
  a139 := Tryd.isAgg153
  z139 := Tryd.sizeOf153
  v139 := Tryd.zeroValue153
  t146 := Tryd.underlying144
  a146 := Tryd.isAgg144
  z146 := Tryd.sizeOf144
  v146 := Tryd.zeroValue144
  t164 := Tryd.underlying146
  a164 := Tryd.isAgg146
  z164 := Tryd.sizeOf146
  v164 := Tryd.zeroValue146
  g1 := by kernel_rfl
  g3 := by kernel_rfl
  g4 := by kernel_rfl }
theorem Tryd.Builder_Extra_155 : Builder.Extra Tryd.prog Tryd.lays155_ren := {
  sizeBuilder := by kernel_rfl
  liesBuilder := by kernel_rfl
  t5 := Tryd.underlying5
  a5 := Tryd.isAgg5
  z5 := Tryd.sizeOf5
  v5 := Tryd.zeroValue5
  infoByte := by kernel_rfl
  cellsByte := by kernel_rfl
  sizeByte := by kernel_rfl
  neB5 := by decide }
open Go.RowKit Go.Lib in
theorem Tryd.strings_ReplaceAll (s old new : ByteArray) (m : Int) (w : World) (hs : s.size < 4294967281) (hm : w.cell? ⟨2, 0, none⟩ = some (.int .i64 m)) (h1 : 1 ≤ old.size) (hlen : s.size + Lib.countB s old * new.size ≤ 140737488355328) :
    Calls Tryd.prog 67 #[.string s, .string old, .string new] w fun e w' =>
      e = .returned (.string ⟨(Lib.replaceAll s.data.toList old.data.toList new.data.toList).toArray⟩) ∧ Below w.heap.size w w' := Any.strings_ReplaceAll Tryd.lays155 Tryd.Builder_Extra_155 s old new m w hs hm h1 hlen
end Go.Proofs
namespace Go.Proofs.YthdlfeejeboboaaDoor
open Go.RowKit
set_option maxRecDepth 100000

namespace Tr
theorem cut32_none : ∀ {l : List UInt8}, Lib.indexByte l 32 = -1 → cut32 l = (l, [], false)
  | [], _ => rfl
  | c :: r, h => by
    unfold Lib.indexByte at h
    by_cases hc : c = 32
    · subst hc; simp at h
    · have h' : Lib.indexByte r 32 = -1 := by
        have := Lib.indexByte_ge r 32
        rw [if_neg (by simpa using hc)] at h
        split at h
        · rename_i h1; simpa using h1
        · omega
      rw [cut32, if_neg hc, cut32_none h']
theorem cut32_some : ∀ {l : List UInt8} {o : Nat}, Lib.indexByte l 32 = o → o < l.length ∧ cut32 l = (l.take o, l.drop (o + 1), true)
  | [], o, h => by simp [Lib.indexByte] at h
  | c :: r, o, h => by
    unfold Lib.indexByte at h
    by_cases hc : c = 32
    · subst hc
      simp at h
      obtain rfl : o = 0 := by omega
      exact ⟨by simp, by simp [cut32]⟩
    · have := Lib.indexByte_ge r 32
      rw [if_neg (by simpa using hc)] at h
      split at h
      · omega
      · rename_i h1
        have h1' : Lib.indexByte r 32 ≠ -1 := by simpa using h1
        obtain ⟨o', rfl⟩ : ∃ o', o = o' + 1 := ⟨o - 1, by omega⟩
        obtain ⟨h2, h3⟩ := cut32_some (l := r) (o := o') (by omega)
        exact ⟨by simpa using h2, by rw [cut32, if_neg hc, h3]; simp⟩
end Tr

theorem below_drewN {b : Nat} {w w' : World} (h : Below b w w') (n : Nat) : Below b w (w'.drewN n) := ⟨h.os, h.tape, h.output, h.size, h.block⟩
theorem below_drew {b : Nat} {w w' : World} (h : Below b w w') : Below b w w'.drew := ⟨h.os, h.tape, h.output, h.size, h.block⟩
theorem ret_cut {a b c d : ByteArray} {p q : Bool} (h1 : a = b) (h2 : c = d) (h3 : p = q) : Ending.returned (.tuple #[.string a, .string c, .bool p]) = .returned (.tuple #[.string b, .string d, .bool q]) := by rw [h1, h2, h3]

set_option maxHeartbeats 1000000 in
theorem liteCut_any (s : ByteArray) (hs : s.size ≤ maxLen) (w : World) :
    Calls Tryd.prog 59 #[.string s, .string ⟨#[32]⟩] w fun e w' => e = .returned (.tuple #[.string (S (Tr.cut32 s.data.toList).1), .string (S (Tr.cut32 s.data.toList).2.1), .bool (Tr.cut32 s.data.toList).2.2]) ∧ Below w.heap.size w w' := by
  have hi := Tryd.stringslite_Index_one s 32
  have hml : s.size ≤ 9223372036854775807 := by unfold maxLen at hs; omega
  by_cases h : Lib.indexByte s.data.toList 32 = -1
  · have HC := Tr.cut32_none h
    have HC : Aside (Tr.cut32 s.data.toList = (s.data.toList, [], false)) := HC
    rw [h] at hi
    clear h
    go_enter Tryd.func59, Tryd.ntmps59
    go_wp2_with (go_at_call 68; refine (hi _).mono ?_; rintro e w' ⟨rfl, hw'⟩; replace hw' := hw'.symm; subst hw')
    exact bodyPost_ret (v := .tuple #[.string s, .string ⟨#[]⟩, .bool false]) (by simp [results, Tryd.results59, go_sem]) rfl ⟨by rw [HC.out]; rfl, Below.refl _ _⟩
  · obtain ⟨o, ho⟩ : ∃ o : Nat, Lib.indexByte s.data.toList 32 = o := ⟨(Lib.indexByte s.data.toList 32).toNat, by have := Lib.indexByte_ge s.data.toList 32; omega⟩
    obtain ⟨hlt, hc⟩ := Tr.cut32_some ho
    have HC : Aside (Tr.cut32 s.data.toList = (s.data.toList.take o, s.data.toList.drop (o + 1), true)) := hc
    rw [ho] at hi
    have hos : o + 1 ≤ s.size := by rw [← str_len]; exact hlt
    have HL := str_len s
    have H1 : Aside (s.extract 0 o = S (s.data.toList.take o)) := by show _ = _; have := S_cut s.data.toList 0 o; simpa [S] using this
    have H2 : Aside (s.extract (o + 1) s.size = S (s.data.toList.drop (o + 1))) := by
      show _ = _
      have := S_cut s.data.toList (o + 1) s.size
      rw [List.take_of_length_le (by simp)] at this
      simpa [S] using this
    clear h ho hlt hc HL
    have h0 : (0 : Int) ≤ (o : Int) := by omega
    have h1 : (o : Int) + 1 ≤ (s.size : Int) := by omega
    have h2 : (o : Int) ≤ (s.size : Int) := by omega
    go_enter Tryd.func59, Tryd.ntmps59
    go_wp2_with (go_at_call 68; refine (hi _).mono ?_; rintro e w' ⟨rfl, hw'⟩; replace hw' := hw'.symm; subst hw')
    go_quiet (fail)
    go_wp2_with fail
    go_ret3
    rw [HC.out]
    exact ⟨ret_cut H1.out H2.out rfl, below_drewN (Below.refl _ _) _⟩

set_option maxHeartbeats 1000000 in
theorem cut_any (s : ByteArray) (hs : s.size ≤ maxLen) (w : World) :
    Calls Tryd.prog 38 #[.string s, .string ⟨#[32]⟩] w fun e w' => e = .returned (.tuple #[.string (S (Tr.cut32 s.data.toList).1), .string (S (Tr.cut32 s.data.toList).2.1), .bool (Tr.cut32 s.data.toList).2.2]) ∧ Below w.heap.size w w' := by
  go_enter Tryd.func38, Tryd.ntmps38
  go_wp2_with (go_at_call 59; refine (liteCut_any _ hs _).mono ?_; rintro e w' ⟨rfl, hB⟩)
  go_ret3
  exact ⟨rfl, hB⟩
end Go.Proofs.YthdlfeejeboboaaDoor
namespace Go.Proofs.YthdlfeejeboboaaDoor
open Go.RowKit
set_option maxRecDepth 100000

namespace Tr
def nB (x : Nd) : Bool := if x.kind == 1 then decide (0 ≤ x.n) else if x.kind == 3 then decide (0 ≤ x.n) && decide (x.n ≤ 1) else x.n == 0
def sB (x : Nd) : Bool :=
  if x.kind == 2 then (Tx.quoted (nm x)).isSome
  else if x.kind == 4 || x.kind == 5 || x.kind == 8 then nameB (nm x)
  else if x.kind == 6 then nameB (cut32 (nm x)).1 && nameB (cut32 (nm x)).2.1
  else (nm x).isEmpty
def tB (x : Nd) : Bool := if x.kind == 5 || x.kind == 6 || x.kind == 8 then noteB x.t.data.toList else if x.kind == 29 then typB x.t.data.toList else x.t.data.toList.isEmpty
def uB (x : Nd) : Bool := if x.kind == 5 || x.kind == 6 then noteB x.u.data.toList else x.u.data.toList.isEmpty
/-- May a node stand in a source's tree? -/
def mayB (x : Nd) : Bool := fitB x && nB x && sB x && tB x && uB x
end Tr

theorem bcell {W w1 : World} (hb : Below W.heap.size W w1) : (∀ b o, b < W.heap.size → w1.cell? ⟨b, o, none⟩ = W.cell? ⟨b, o, none⟩) ∧ (∀ b o, b < W.heap.size → w1.frozen? ⟨b, o, none⟩ = W.frozen? ⟨b, o, none⟩) :=
  ⟨fun b o h => hb.cell (p := ⟨b, o, none⟩) h, fun b o h => hb.frozen (p := ⟨b, o, none⟩) h⟩
theorem fit_node (kind kids n : Int) (s t u : ByteArray) (ln co : Int) (w : World) :
    Calls Tryd.prog 43 #[.agg #[.int .i8 kind, .int .i64 kids, .int .i64 n, .string s, .string t, .string u, .int .i64 ln, .int .i64 co]] w fun e w' => e = .returned (.bool (Tr.fitB ⟨kind, kids, n, s, t, u, ln, co⟩)) ∧ Below w.heap.size w w' := kidsFit_any ⟨kind, kids, n, s, t, u, ln, co⟩ w

theorem bt {a b c : World} (h : Below a.heap.size a b) (k : Below b.heap.size b c) : Below a.heap.size a c := h.trans (k.mono h.size)
theorem balloc {a b : World} (h : Below a.heap.size a b) (o : Obj) : Below a.heap.size a (b.alloc o) := h.alloc h.size o
theorem bset {a b : World} (h : Below a.heap.size a b) {o : Nat} {v : Value} : Below a.heap.size a (b.setCell ⟨a.heap.size, o, none⟩ v) := h.setCell (Nat.le_refl _) v

set_option maxHeartbeats 4000000 in
theorem be_var (kids n : Int) (s t u : ByteArray) (ln co : Int) (hs : s.size ≤ maxLen) (w : World) :
    Calls Tryd.prog 32 #[.agg #[.int .i8 4, .int .i64 kids, .int .i64 n, .string s, .string t, .string u, .int .i64 ln, .int .i64 co]] w fun e w' => e = .returned (.bool (Tr.mayB ⟨4, kids, n, s, t, u, ln, co⟩)) ∧ Below w.heap.size w w' := by
  have hk := fit_node 4 kids n s t u ln co
  have hn := isName_any s hs
  have HM : Aside (Tr.mayB ⟨4, kids, n, s, t, u, ln, co⟩ = (Tr.fitB ⟨4, kids, n, s, t, u, ln, co⟩ && n == 0 && nameB s.data.toList && t.toList.isEmpty && u.toList.isEmpty)) := by show _ = _; simp only [str_empty]; rfl
  generalize Tr.fitB ⟨4, kids, n, s, t, u, ln, co⟩ = f at *
  generalize nameB s.data.toList = f2 at *
  go_enter Tryd.func32, Tryd.ntmps32
  go_wp2_with (first | (go_at_call 43; refine (hk _).mono ?_; rintro e w1 ⟨rfl, hB1⟩; obtain ⟨hc1, hf1⟩ := bcell hB1; have hz1 : w.heap.size < w1.heap.size := by have := hB1.size; (try simp at this); omega) | (go_at_call 11; refine (hn _).mono ?_; rintro e w2 ⟨rfl, hB2⟩; obtain ⟨hc2, hf2⟩ := bcell hB2; have hz2 : w.heap.size < w2.heap.size := by have := hB2.size; (try simp at this); omega))
  all_goals
    go_ret
    rw [HM.out]
    go_light
    refine ⟨ret_bool ?_, ?_⟩
    · clear HM
      first
        | (simp [*]; done)
        | (simp [*]; intros; omega)
    · repeat (first | exact Below.refl _ _ | refine bset ?_ | refine balloc ?_ _ | refine bt ?_ (by assumption))

set_option maxHeartbeats 4000000 in
theorem be_let (kids n : Int) (s t u : ByteArray) (ln co : Int) (hs : s.size ≤ maxLen) (w : World) :
    Calls Tryd.prog 32 #[.agg #[.int .i8 8, .int .i64 kids, .int .i64 n, .string s, .string t, .string u, .int .i64 ln, .int .i64 co]] w fun e w' => e = .returned (.bool (Tr.mayB ⟨8, kids, n, s, t, u, ln, co⟩)) ∧ Below w.heap.size w w' := by
  have hk := fit_node 8 kids n s t u ln co
  have hn := isName_any s hs
  have ht := isAnn_any t
  have HM : Aside (Tr.mayB ⟨8, kids, n, s, t, u, ln, co⟩ = (Tr.fitB ⟨8, kids, n, s, t, u, ln, co⟩ && n == 0 && nameB s.data.toList && noteB t.data.toList && u.toList.isEmpty)) := by show _ = _; simp only [str_empty]; rfl
  generalize Tr.fitB ⟨8, kids, n, s, t, u, ln, co⟩ = f at *
  generalize nameB s.data.toList = f2 at *
  generalize noteB t.data.toList = f3 at *
  go_enter Tryd.func32, Tryd.ntmps32
  go_wp2_with (first | (go_at_call 43; refine (hk _).mono ?_; rintro e w1 ⟨rfl, hB1⟩; obtain ⟨hc1, hf1⟩ := bcell hB1; have hz1 : w.heap.size < w1.heap.size := by have := hB1.size; (try simp at this); omega) | (go_at_call 11; refine (hn _).mono ?_; rintro e w2 ⟨rfl, hB2⟩; obtain ⟨hc2, hf2⟩ := bcell hB2; have hz2 : w.heap.size < w2.heap.size := by have := hB2.size; (try simp at this); omega) | (go_at_call 46; refine (ht _).mono ?_; rintro e w' ⟨rfl, hw'⟩; replace hw' := hw'.symm; subst hw'))
  all_goals
    go_ret
    rw [HM.out]
    go_light
    refine ⟨ret_bool ?_, ?_⟩
    · clear HM
      first
        | (simp [*]; done)
        | (simp [*]; intros; omega)
    · repeat (first | exact Below.refl _ _ | refine bset ?_ | refine balloc ?_ _ | refine bt ?_ (by assumption))

set_option maxHeartbeats 4000000 in
theorem be_as (kids n : Int) (s t u : ByteArray) (ln co : Int) (_ : s.size ≤ maxLen) (w : World) :
    Calls Tryd.prog 32 #[.agg #[.int .i8 29, .int .i64 kids, .int .i64 n, .string s, .string t, .string u, .int .i64 ln, .int .i64 co]] w fun e w' => e = .returned (.bool (Tr.mayB ⟨29, kids, n, s, t, u, ln, co⟩)) ∧ Below w.heap.size w w' := by
  have hk := fit_node 29 kids n s t u ln co
  have ht := isType_any t
  have HM : Aside (Tr.mayB ⟨29, kids, n, s, t, u, ln, co⟩ = (Tr.fitB ⟨29, kids, n, s, t, u, ln, co⟩ && n == 0 && s.toList.isEmpty && typB t.data.toList && u.toList.isEmpty)) := by show _ = _; simp only [str_empty]; rfl
  generalize Tr.fitB ⟨29, kids, n, s, t, u, ln, co⟩ = f at *
  generalize typB t.data.toList = f3 at *
  go_enter Tryd.func32, Tryd.ntmps32
  go_wp2_with (first | (go_at_call 43; refine (hk _).mono ?_; rintro e w1 ⟨rfl, hB1⟩; obtain ⟨hc1, hf1⟩ := bcell hB1; have hz1 : w.heap.size < w1.heap.size := by have := hB1.size; (try simp at this); omega) | (go_at_call 45; refine (ht _).mono ?_; rintro e w' ⟨rfl, hw'⟩; replace hw' := hw'.symm; subst hw'))
  all_goals
    go_ret
    rw [HM.out]
    go_light
    refine ⟨ret_bool ?_, ?_⟩
    · clear HM
      first
        | (simp [*]; done)
        | (simp [*]; intros; omega)
    · repeat (first | exact Below.refl _ _ | refine bset ?_ | refine balloc ?_ _ | refine bt ?_ (by assumption))

set_option maxHeartbeats 4000000 in
theorem be_num (kids n : Int) (s t u : ByteArray) (ln co : Int) (_ : s.size ≤ maxLen) (w : World) :
    Calls Tryd.prog 32 #[.agg #[.int .i8 1, .int .i64 kids, .int .i64 n, .string s, .string t, .string u, .int .i64 ln, .int .i64 co]] w fun e w' => e = .returned (.bool (Tr.mayB ⟨1, kids, n, s, t, u, ln, co⟩)) ∧ Below w.heap.size w w' := by
  have hk := fit_node 1 kids n s t u ln co
  have HM : Aside (Tr.mayB ⟨1, kids, n, s, t, u, ln, co⟩ = (Tr.fitB ⟨1, kids, n, s, t, u, ln, co⟩ && decide (0 ≤ n) && s.toList.isEmpty && t.toList.isEmpty && u.toList.isEmpty)) := by show _ = _; simp only [str_empty]; rfl
  generalize Tr.fitB ⟨1, kids, n, s, t, u, ln, co⟩ = f at *
  go_enter Tryd.func32, Tryd.ntmps32
  go_wp2_with (first | (go_at_call 43; refine (hk _).mono ?_; rintro e w1 ⟨rfl, hB1⟩; obtain ⟨hc1, hf1⟩ := bcell hB1; have hz1 : w.heap.size < w1.heap.size := by have := hB1.size; (try simp at this); omega))
  all_goals
    go_ret
    rw [HM.out]
    go_light
    refine ⟨ret_bool ?_, ?_⟩
    · clear HM
      first
        | (simp [*]; done)
        | (simp [*]; intros; omega)
    · repeat (first | exact Below.refl _ _ | refine bset ?_ | refine balloc ?_ _ | refine bt ?_ (by assumption))

set_option maxHeartbeats 4000000 in
theorem be_truth (kids n : Int) (s t u : ByteArray) (ln co : Int) (_ : s.size ≤ maxLen) (w : World) :
    Calls Tryd.prog 32 #[.agg #[.int .i8 3, .int .i64 kids, .int .i64 n, .string s, .string t, .string u, .int .i64 ln, .int .i64 co]] w fun e w' => e = .returned (.bool (Tr.mayB ⟨3, kids, n, s, t, u, ln, co⟩)) ∧ Below w.heap.size w w' := by
  have hk := fit_node 3 kids n s t u ln co
  have HM : Aside (Tr.mayB ⟨3, kids, n, s, t, u, ln, co⟩ = (Tr.fitB ⟨3, kids, n, s, t, u, ln, co⟩ && (decide (0 ≤ n) && decide (n ≤ 1)) && s.toList.isEmpty && t.toList.isEmpty && u.toList.isEmpty)) := by show _ = _; simp only [str_empty]; rfl
  generalize Tr.fitB ⟨3, kids, n, s, t, u, ln, co⟩ = f at *
  go_enter Tryd.func32, Tryd.ntmps32
  go_wp2_with (first | (go_at_call 43; refine (hk _).mono ?_; rintro e w1 ⟨rfl, hB1⟩; obtain ⟨hc1, hf1⟩ := bcell hB1; have hz1 : w.heap.size < w1.heap.size := by have := hB1.size; (try simp at this); omega))
  all_goals
    go_ret
    rw [HM.out]
    go_light
    refine ⟨ret_bool ?_, ?_⟩
    · clear HM
      first
        | (simp [*]; done)
        | (simp [*]; intros; omega)
    · repeat (first | exact Below.refl _ _ | refine bset ?_ | refine balloc ?_ _ | refine bt ?_ (by assumption))

end Go.Proofs.YthdlfeejeboboaaDoor
