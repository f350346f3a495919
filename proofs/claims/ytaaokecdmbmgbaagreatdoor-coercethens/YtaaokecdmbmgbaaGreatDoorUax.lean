/- The contracts of functions of the library at this translation, laid by the tool of the guide in its plain mode. Plain functions on types: what layer 3 of the document says of two types, and of a step looser. Nothing of the program is named here. -/
import Derived.Shelf.Strings.Builder1
import Derived.Shelf.Strings.Builder2
import Derived.Shelf.Small.Utf8
import Derived.Shelf.Small.Strs
import Derived.Shelf.Strings.BuilderF
import Derived.Shelf.Strings.BuilderK
import Derived.Shelf.Strconv.Itoa0
import Derived.Shelf.Strconv.Itoa1
import Derived.Shelf.LaysM
import Derived.Shelf.Strconv.Itoa2
import Derived.Shelf.Strconv.Itoa3
import Derived.Shelf.Strconv.Itoa4
import Derived.Shelf.Strings.Search1
import Derived.Shelf.Strings.Prefix
import Derived.Shelf.Unicode.Decode
import Derived.Shelf.Strings.Runes
import Derived.Shelf.Strings.AsciiSet
import Derived.Shelf.Bits.Mul64
import Derived.Shelf.Strings.Repeat
import Derived.Shelf.Unicode.DecodeSlow
import Derived.Shelf.Unicode.DecodeAny
import Derived.Test.YtaaokecdmbmgbaaGreatDoorProg
import Derived.Lib.Join
import Derived.Lib.Bytealg
import Derived.Test.YtaaokecdmbmgbaaGreatDoorUaw
namespace Go.Proofs
open Go.Shelf
def Tryz.lays169_ren : Go.Shelf.Ren := ⟨fun | 169 => 71 | n => n, fun | 70 => 138 | 9 => 9 | 0 => 0 | 72 => 140 | 37 => 79 | 127 => 180 | 3 => 3 | 5 => 5 | n => n, fun | n => n⟩
theorem Tryz.lays169 : Go.Proofs.Lays.n169 Tryz.prog Tryz.lays169_ren := {
  mixed := by kernel_rfl
  f169 := Tryz.func71.trans (congrArg some (by kernel_rfl))
  t0 := Tryz.underlying0
  a0 := Tryz.isAgg0
  z0 := Tryz.sizeOf0
  v0 := Tryz.zeroValue0
  t3 := Tryz.underlying3
  a3 := Tryz.isAgg3
  z3 := Tryz.sizeOf3
  v3 := Tryz.zeroValue3
  t9 := Tryz.underlying9
  a9 := Tryz.isAgg9
  z9 := Tryz.sizeOf9
  v9 := Tryz.zeroValue9
  t37 := Tryz.underlying79
  a37 := Tryz.isAgg79
  z37 := Tryz.sizeOf79
  v37 := Tryz.zeroValue79
  t70 := Tryz.underlying138
  a70 := Tryz.isAgg138
  z70 := Tryz.sizeOf138
  v70 := Tryz.zeroValue138
  t72 := Tryz.underlying140
  a72 := Tryz.isAgg140
  z72 := Tryz.sizeOf140
  v72 := Tryz.zeroValue140
  t127 := Tryz.underlying180
  a127 := Tryz.isAgg180
  z127 := Tryz.sizeOf180
  v127 := Tryz.zeroValue180 }
theorem Tryz.Builder_Extra_169 : Builder.Extra Tryz.prog Tryz.lays169_ren := {
  sizeBuilder := by kernel_rfl
  liesBuilder := by kernel_rfl
  t5 := Tryz.underlying5
  a5 := Tryz.isAgg5
  z5 := Tryz.sizeOf5
  v5 := Tryz.zeroValue5
  infoByte := by kernel_rfl
  cellsByte := by kernel_rfl
  sizeByte := by kernel_rfl
  neB5 := by decide }
open Go.RowKit in
theorem Tryz.Builder_String_any_k (B b : Nat) (l : List UInt8) (w : World) (h : Lib.IsBuilderF 140 5 B b (Lib.byteCells l) w) (hBw : B ≤ w.heap.size) :
    Calls Tryz.prog 71 #[.pointer (some ⟨b, 0, none⟩)] w fun e w' => e = .returned (.string ⟨l.toArray⟩) ∧ (Lib.IsBuilderF 140 5 B b (Lib.byteCells l) w' ∧ Below B w w' ∧ Lib.OthersKept 5 (some b) w w') := Any.Builder_String_any_k Tryz.lays169 Tryz.Builder_Extra_169 B b l w h hBw
def Tryz.lays173_ren : Go.Shelf.Ren := ⟨fun | 173 => 53 | 246 => 74 | 283 => 96 | 284 => 97 | 285 => 98 | 286 => 99 | 129 => 114 | 317 => 113 | 318 => 115 | 319 => 116 | 320 => 117 | 337 => 130 | 338 => 131 | n => n, fun | 2 => 2 | 3 => 3 | 9 => 9 | 4 => 4 | 171 => 186 | 0 => 0 | 53 => 86 | 37 => 79 | 5 => 5 | 173 => 189 | 212 => 204 | 51 => 205 | 20 => 20 | 213 => 206 | 46 => 208 | 232 => 236 | 233 => 237 | n => n, fun | 17 => 0 | 18 => 1 | 19 => 2 | n => n⟩
theorem Tryz.lays173 : Go.Proofs.Lays.n173 Tryz.prog Tryz.lays173_ren := {
  mixed := by kernel_rfl
  f129 := Tryz.func114.trans (congrArg some (by kernel_rfl))
  f173 := Tryz.func53.trans (congrArg some (by kernel_rfl))
  f246 := Tryz.func74.trans (congrArg some (by kernel_rfl))
  f283 := Tryz.func96.trans (congrArg some (by kernel_rfl))
  f284 := Tryz.func97.trans (congrArg some (by kernel_rfl))
  f285 := Tryz.func98.trans (congrArg some (by kernel_rfl))
  f286 := Tryz.func99.trans (congrArg some (by kernel_rfl))
  f317 := Tryz.func113.trans (congrArg some (by kernel_rfl))
  f318 := Tryz.func115.trans (congrArg some (by kernel_rfl))
  f319 := Tryz.func116.trans (congrArg some (by kernel_rfl))
  f320 := Tryz.func117.trans (congrArg some (by kernel_rfl))
  f337 := Tryz.func130.trans (congrArg some (by kernel_rfl))
  f338 := Tryz.func131.trans (congrArg some (by kernel_rfl))
  t0 := Tryz.underlying0
  a0 := Tryz.isAgg0
  z0 := Tryz.sizeOf0
  v0 := Tryz.zeroValue0
  t2 := Tryz.underlying2
  a2 := Tryz.isAgg2
  z2 := Tryz.sizeOf2
  v2 := Tryz.zeroValue2
  t3 := Tryz.underlying3
  a3 := Tryz.isAgg3
  z3 := Tryz.sizeOf3
  v3 := Tryz.zeroValue3
  t4 := Tryz.underlying4
  a4 := Tryz.isAgg4
  z4 := Tryz.sizeOf4
  v4 := Tryz.zeroValue4
  t5 := Tryz.underlying5
  a5 := Tryz.isAgg5
  z5 := Tryz.sizeOf5
  v5 := Tryz.zeroValue5
  t9 := Tryz.underlying9
  a9 := Tryz.isAgg9
  z9 := Tryz.sizeOf9
  v9 := Tryz.zeroValue9
  t20 := Tryz.underlying20
  a20 := Tryz.isAgg20
  z20 := Tryz.sizeOf20
  v20 := Tryz.zeroValue20
  t37 := Tryz.underlying79
  a37 := Tryz.isAgg79
  z37 := Tryz.sizeOf79
  v37 := Tryz.zeroValue79
  t46 := Tryz.underlying208
  a46 := Tryz.isAgg208
  z46 := Tryz.sizeOf208
  v46 := Tryz.zeroValue208
  t51 := Tryz.underlying205
  a51 := Tryz.isAgg205
  z51 := Tryz.sizeOf205
  v51 := Tryz.zeroValue205
  t53 := Tryz.underlying86
  a53 := Tryz.isAgg86
  z53 := Tryz.sizeOf86
  v53 := Tryz.zeroValue86
  t171 := Tryz.underlying186
  a171 := Tryz.isAgg186
  z171 := Tryz.sizeOf186
  v171 := Tryz.zeroValue186
  t173 := Tryz.underlying189
  a173 := Tryz.isAgg189
  z173 := Tryz.sizeOf189
  v173 := Tryz.zeroValue189
  t212 := Tryz.underlying204
  a212 := Tryz.isAgg204
  z212 := Tryz.sizeOf204
  v212 := Tryz.zeroValue204
  t213 := Tryz.underlying206
  a213 := Tryz.isAgg206
  z213 := Tryz.sizeOf206
  t232 := Tryz.underlying236
  a232 := Tryz.isAgg236
  z232 := Tryz.sizeOf236
  v232 := Tryz.zeroValue236
  t233 := Tryz.underlying237
  a233 := Tryz.isAgg237
  z233 := Tryz.sizeOf237
  v233 := Tryz.zeroValue237
  g17 := by kernel_rfl
  g18 := by kernel_rfl
  g19 := by kernel_rfl }
open Go.RowKit Go.Sort Go.Lib in
theorem Tryz.strconv_FormatInt_10_small (i : Nat) (hi : i < 100) (w : World) :
    Calls Tryz.prog 53 #[.int .i64 i, .int .i64 10] w fun e w' => e = .returned (.string ⟨(Lib.decDigits i).toArray⟩) ∧ w' = w := Any.strconv_FormatInt_10_small Tryz.lays173 i hi w
def Tryz.lays105_ren : Go.Shelf.Ren := ⟨fun | 105 => 104 | 212 => 118 | 99 => 119 | 165 => 120 | 166 => 69 | 170 => 121 | 169 => 71 | 263 => 132 | 264 => 133 | 206 => 129 | 240 => 91 | 241 => 134 | 276 => 108 | 277 => 143 | n => n, fun | 9 => 9 | 3 => 3 | 4 => 4 | 20 => 20 | 0 => 0 | 46 => 208 | 109 => 210 | 5 => 5 | 72 => 140 | 76 => 143 | 51 => 205 | 146 => 223 | 53 => 86 | 148 => 225 | 70 => 138 | 37 => 79 | 75 => 142 | 127 => 180 | 164 => 197 | 80 => 146 | n => n, fun | n => n⟩
theorem Tryz.lays105 : Go.Proofs.Lays.n105 Tryz.prog Tryz.lays105_ren := {
  mixed := by kernel_rfl
  f99 := Tryz.func119.trans (congrArg some (by kernel_rfl))
  f105 := Tryz.func104.trans (congrArg some (by kernel_rfl))
  f165 := Tryz.func120.trans (congrArg some (by kernel_rfl))
  f166 := Tryz.func69.trans (congrArg some (by kernel_rfl))
  f169 := Tryz.func71.trans (congrArg some (by kernel_rfl))
  f170 := Tryz.func121.trans (congrArg some (by kernel_rfl))
  f206 := Tryz.func129.trans (congrArg some (by kernel_rfl))
  f212 := Tryz.func118.trans (congrArg some (by kernel_rfl))
  f240 := Tryz.func91.trans (congrArg some (by kernel_rfl))
  f241 := Tryz.func134.trans (congrArg some (by kernel_rfl))
  f263 := Tryz.func132.trans (congrArg some (by kernel_rfl))
  f264 := Tryz.func133.trans (congrArg some (by kernel_rfl))
  f276 := Tryz.func108.trans (congrArg some (by kernel_rfl))
  f277 := Tryz.func143.trans (congrArg some (by kernel_rfl))
  t0 := Tryz.underlying0
  a0 := Tryz.isAgg0
  z0 := Tryz.sizeOf0
  v0 := Tryz.zeroValue0
  t3 := Tryz.underlying3
  a3 := Tryz.isAgg3
  z3 := Tryz.sizeOf3
  v3 := Tryz.zeroValue3
  t4 := Tryz.underlying4
  a4 := Tryz.isAgg4
  z4 := Tryz.sizeOf4
  v4 := Tryz.zeroValue4
  t5 := Tryz.underlying5
  a5 := Tryz.isAgg5
  z5 := Tryz.sizeOf5
  v5 := Tryz.zeroValue5
  t9 := Tryz.underlying9
  a9 := Tryz.isAgg9
  z9 := Tryz.sizeOf9
  v9 := Tryz.zeroValue9
  t20 := Tryz.underlying20
  a20 := Tryz.isAgg20
  z20 := Tryz.sizeOf20
  v20 := Tryz.zeroValue20
  t37 := Tryz.underlying79
  a37 := Tryz.isAgg79
  z37 := Tryz.sizeOf79
  v37 := Tryz.zeroValue79
  t46 := Tryz.underlying208
  a46 := Tryz.isAgg208
  z46 := Tryz.sizeOf208
  v46 := Tryz.zeroValue208
  t51 := Tryz.underlying205
  a51 := Tryz.isAgg205
  z51 := Tryz.sizeOf205
  v51 := Tryz.zeroValue205
  t53 := Tryz.underlying86
  a53 := Tryz.isAgg86
  z53 := Tryz.sizeOf86
  v53 := Tryz.zeroValue86
  t70 := Tryz.underlying138
  a70 := Tryz.isAgg138
  z70 := Tryz.sizeOf138
  v70 := Tryz.zeroValue138
  t72 := Tryz.underlying140
  a72 := Tryz.isAgg140
  z72 := Tryz.sizeOf140
  v72 := Tryz.zeroValue140
  t75 := Tryz.underlying142
  a75 := Tryz.isAgg142
  z75 := Tryz.sizeOf142
  v75 := Tryz.zeroValue142
  t76 := Tryz.underlying143
  a76 := Tryz.isAgg143
  z76 := Tryz.sizeOf143
  v76 := Tryz.zeroValue143
  t109 := Tryz.underlying210
  a109 := Tryz.isAgg210
  z109 := Tryz.sizeOf210
  v109 := Tryz.zeroValue210
  t127 := Tryz.underlying180
  a127 := Tryz.isAgg180
  z127 := Tryz.sizeOf180
  v127 := Tryz.zeroValue180
  t146 := Tryz.underlying223
  a146 := Tryz.isAgg223
  z146 := Tryz.sizeOf223
  v146 := Tryz.zeroValue223
  t148 := Tryz.underlying225
  a148 := Tryz.isAgg225
  z148 := Tryz.sizeOf225
  v148 := Tryz.zeroValue225
  t164 := Tryz.underlying197
  a164 := Tryz.isAgg197
  z164 := Tryz.sizeOf197
  v164 := Tryz.zeroValue197 }
open Go.RowKit Go.Lib in
theorem Tryz.strings_Repeat_zero (s : ByteArray) (w : World) :
    Calls Tryz.prog 104 #[.string s, .int .i64 0] w fun e w' => e = .returned (.string ⟨#[]⟩) ∧ w' = w := Any.strings_Repeat_zero Tryz.lays105 s w
end Go.Proofs
namespace Go.Proofs.YtaaokecdmbmgbaaGreatDoor.T3
namespace Tp


/-- Consistent: agree wherever both are known. -/
def cns : Ty → Ty → Bool
  | .tq, _ => true
  | _, .tq => true
  | .ti, .ti => true | .tb, .tb => true | .tt, .tt => true
  | .tl a, .tl c => cns a c
  | .tx a, .tx c => cns a c
  | .tf a b, .tf c d => cns a c && cns b d
  | .tp a b, .tp c d => cns a c && cns b d
  | _, _ => false
/-- The first is at least as precise as the second. -/
def prc : Ty → Ty → Bool
  | _, .tq => true
  | .ti, .ti => true | .tb, .tb => true | .tt, .tt => true
  | .tl a, .tl c => prc a c
  | .tx a, .tx c => prc a c
  | .tf a b, .tf c d => prc a c && prc b d
  | .tp a b, .tp c d => prc a c && prc b d
  | _, _ => false
/-- The meet of consistent types. -/
def met : Ty → Ty → Ty
  | .tq, t => t
  | s, .tq => s
  | .tl a, .tl c => .tl (met a c)
  | .tx a, .tx c => .tx (met a c)
  | .tf a b, .tf c d => .tf (met a c) (met b d)
  | .tp a b, .tp c d => .tp (met a c) (met b d)
  | s, _ => s
def joi : Ty → Ty → Ty
  | .ti, .ti => .ti | .tb, .tb => .tb | .tt, .tt => .tt
  | .tl a, .tl c => .tl (joi a c)
  | .tx a, .tx c => .tx (joi a c)
  | .tf a b, .tf c d => .tf (joi a c) (joi b d)
  | .tp a b, .tp c d => .tp (joi a c) (joi b d)
  | _, _ => .tq

theorem cns_qr (s : Ty) : cns s .tq = true := by cases s <;> rfl
theorem cns_ql (s : Ty) : cns .tq s = true := by cases s <;> rfl
theorem prc_q (s : Ty) : prc s .tq = true := by cases s <;> rfl
theorem q_prc {s : Ty} (h : prc .tq s = true) : s = .tq := by cases s <;> simp [prc] at h ⊢
theorem prc_refl : ∀ s : Ty, prc s s = true
  | .ti | .tb | .tt | .tq => rfl
  | .tl a | .tx a => by simpa [prc] using prc_refl a
  | .tf a b | .tp a b => by simp [prc, prc_refl a, prc_refl b]
theorem prc_anti : ∀ {s t : Ty}, prc s t = true → prc t s = true → s = t := by
  intro s
  induction s with
  | ti | tb | tt | tq => intro t h k; cases t <;> simp [prc] at h k ⊢
  | tl a ih | tx a ih => intro t h k; cases t <;> simp [prc] at h k ⊢; exact ih h k
  | tf a b iha ihb | tp a b iha ihb => intro t h k; cases t <;> simp [prc] at h k ⊢; exact ⟨iha h.1 k.1, ihb h.2 k.2⟩
theorem prc_trans : ∀ {s t u : Ty}, prc s t = true → prc t u = true → prc s u = true := by
  intro s
  induction s with
  | ti | tb | tt | tq => intro t u h k; cases t <;> cases u <;> simp [prc] at h k ⊢
  | tl a ih | tx a ih => intro t u h k; cases t <;> cases u <;> simp [prc] at h k ⊢; exact ih h k
  | tf a b iha ihb | tp a b iha ihb => intro t u h k; cases t <;> cases u <;> simp [prc] at h k ⊢; exact ⟨iha h.1 k.1, ihb h.2 k.2⟩
theorem cns_symm : ∀ (s t : Ty), cns s t = cns t s := by
  intro s
  induction s with
  | ti | tb | tt | tq => intro t; cases t <;> rfl
  | tl a ih | tx a ih => intro t; cases t <;> simp [cns]; exact ih _
  | tf a b iha ihb | tp a b iha ihb => intro t; cases t <;> simp [cns]; rw [iha, ihb]
theorem prc_cns : ∀ {s t : Ty}, prc s t = true → cns s t = true := by
  intro s
  induction s with
  | ti | tb | tt | tq => intro t h; cases t <;> simp [prc, cns] at h ⊢
  | tl a ih | tx a ih => intro t h; cases t <;> simp [prc, cns] at h ⊢; exact ih h
  | tf a b iha ihb | tp a b iha ihb => intro t h; cases t <;> simp [prc, cns] at h ⊢; exact ⟨iha h.1, ihb h.2⟩
def sta : Ty → Bool
  | .ti | .tb | .tt => true
  | .tq => false
  | .tl a | .tx a => sta a
  | .tf a b | .tp a b => sta a && sta b
theorem cns_sta : ∀ {s t : Ty}, sta s = true → sta t = true → cns s t = decide (s = t) := by
  intro s
  induction s with
  | ti | tb | tt | tq => intro t h k; cases t <;> simp [sta, cns] at h k ⊢
  | tl a ih | tx a ih => intro t h k; cases t <;> simp [sta, cns] at h k ⊢; exact ih h k
  | tf a b iha ihb | tp a b iha ihb =>
    intro t h k
    cases t <;> simp [sta, cns] at h k ⊢
    rw [iha h.1 k.1, ihb h.2 k.2]
theorem met_symm : ∀ {s t : Ty}, cns s t = true → met s t = met t s := by
  intro s
  induction s with
  | ti | tb | tt | tq => intro t h; cases t <;> simp [cns, met] at h ⊢
  | tl a ih | tx a ih => intro t h; cases t <;> simp [cns, met] at h ⊢; exact ih h
  | tf a b iha ihb | tp a b iha ihb => intro t h; cases t <;> simp [cns, met] at h ⊢; exact ⟨iha h.1, ihb h.2⟩
theorem met_l : ∀ {s t : Ty}, cns s t = true → prc (met s t) s = true := by
  intro s
  induction s with
  | ti | tb | tt | tq => intro t h; cases t <;> simp [cns, met, prc, prc_refl] at h ⊢
  | tl a ih | tx a ih => intro t h; cases t <;> simp [cns, met, prc, prc_refl] at h ⊢; exact ih h
  | tf a b iha ihb | tp a b iha ihb => intro t h; cases t <;> simp [cns, met, prc, prc_refl] at h ⊢; exact ⟨iha h.1, ihb h.2⟩
theorem met_r {s t : Ty} (h : cns s t = true) : prc (met s t) t = true := by
  rw [met_symm h]; exact met_l (by rw [cns_symm]; exact h)
theorem met_best : ∀ {u s t : Ty}, prc u s = true → prc u t = true → cns s t = true ∧ prc u (met s t) = true := by
  intro u
  induction u with
  | ti | tb | tt | tq => intro s t h k; cases s <;> cases t <;> simp [cns, met, prc] at h k ⊢
  | tl a ih | tx a ih => intro s t h k; cases s <;> cases t <;> simp [cns, met, prc] at h k ⊢ <;> first | exact h | exact k | exact ih h k
  | tf a b iha ihb | tp a b iha ihb =>
    intro s t h k
    cases s <;> cases t <;> simp [cns, met, prc] at h k ⊢ <;> first | exact h | exact k | exact ⟨⟨(iha h.1 k.1).1, (ihb h.2 k.2).1⟩, (iha h.1 k.1).2, (ihb h.2 k.2).2⟩
theorem joi_symm : ∀ (s t : Ty), joi s t = joi t s := by
  intro s
  induction s with
  | ti | tb | tt | tq => intro t; cases t <;> rfl
  | tl a ih | tx a ih => intro t; cases t <;> simp [joi]; exact ih _
  | tf a b iha ihb | tp a b iha ihb => intro t; cases t <;> simp [joi]; exact ⟨iha _, ihb _⟩
theorem joi_l : ∀ (s t : Ty), prc s (joi s t) = true := by
  intro s
  induction s with
  | ti | tb | tt | tq => intro t; cases t <;> rfl
  | tl a ih | tx a ih => intro t; cases t <;> simp [joi, prc]; exact ih _
  | tf a b iha ihb | tp a b iha ihb => intro t; cases t <;> simp [joi, prc]; exact ⟨iha _, ihb _⟩
theorem joi_r (s t : Ty) : prc t (joi s t) = true := by rw [joi_symm]; exact joi_l t s
theorem joi_best : ∀ {s t u : Ty}, prc s u = true → prc t u = true → prc (joi s t) u = true := by
  intro s
  induction s with
  | ti | tb | tt | tq => intro t u h k; cases t <;> cases u <;> simp [joi, prc] at h k ⊢
  | tl a ih | tx a ih => intro t u h k; cases t <;> cases u <;> simp [joi, prc] at h k ⊢; exact ih h k
  | tf a b iha ihb | tp a b iha ihb => intro t u h k; cases t <;> cases u <;> simp [joi, prc] at h k ⊢; exact ⟨iha h.1 k.1, ihb h.2 k.2⟩
theorem prc_len : ∀ {s t : Ty}, prc s t = true → (enc t).length ≤ (enc s).length := by
  intro s
  induction s with
  | ti | tb | tt | tq => intro t h; cases t <;> simp [prc, enc] at h ⊢
  | tl a ih | tx a ih => intro t h; cases t <;> simp [prc, enc] at h ⊢; exact ih h
  | tf a b iha ihb | tp a b iha ihb =>
    intro t h; cases t <;> simp [prc, enc] at h ⊢
    have := iha h.1; have := ihb h.2; omega
theorem joi_len (s t : Ty) : (enc (joi s t)).length ≤ (enc s).length := prc_len (joi_l s t)

/-- All steps looser, by their place, from the left. -/
def loo : Ty → List Ty
  | .ti | .tb | .tt => [.tq]
  | .tq => []
  | .tl a => if a = .tq then [.tq] else (loo a).map .tl
  | .tx a => if a = .tq then [.tq] else (loo a).map .tx
  | .tf a b => if a = .tq ∧ b = .tq then [.tq] else (loo a).map (.tf · b) ++ (loo b).map (.tf a ·)
  | .tp a b => if a = .tq ∧ b = .tq then [.tq] else (loo a).map (.tp · b) ++ (loo b).map (.tp a ·)
/-- How much is known. -/
def kno : Ty → Nat
  | .ti | .tb | .tt => 1
  | .tq => 0
  | .tl a | .tx a => kno a + 1
  | .tf a b | .tp a b => kno a + kno b + 1
theorem kno_q {t : Ty} (h : kno t = 0) : t = .tq := by cases t <;> simp [kno] at h ⊢
theorem kno_len : ∀ t : Ty, kno t ≤ (enc t).length
  | .ti | .tb | .tt | .tq => by decide
  | .tl a | .tx a => by have := kno_len a; simp [kno, enc]; omega
  | .tf a b | .tp a b => by have := kno_len a; have := kno_len b; simp [kno, enc]; omega
theorem loo_kno : ∀ {t u : Ty}, u ∈ loo t → kno u + 1 = kno t := by
  intro t
  induction t with
  | ti | tb | tt | tq => intro u h; simp [loo] at h <;> subst h <;> rfl
  | tl a ih | tx a ih =>
    intro u h
    unfold loo at h
    split at h
    · rename_i e; subst e; simp at h; subst h; rfl
    · obtain ⟨x, hx, rfl⟩ := List.mem_map.1 h
      have := ih hx; simp [kno]; omega
  | tf a b iha ihb | tp a b iha ihb =>
    intro u h
    unfold loo at h
    split at h
    · rename_i e; obtain ⟨rfl, rfl⟩ := e; simp at h; subst h; rfl
    · rcases List.mem_append.1 h with h | h
      · obtain ⟨x, hx, rfl⟩ := List.mem_map.1 h
        have := iha hx; simp [kno]; omega
      · obtain ⟨x, hx, rfl⟩ := List.mem_map.1 h
        have := ihb hx; simp [kno]; omega
theorem loo_prc : ∀ {t u : Ty}, u ∈ loo t → prc t u = true := by
  intro t
  induction t with
  | ti | tb | tt | tq => intro u h; simp [loo] at h <;> subst h <;> rfl
  | tl a ih | tx a ih =>
    intro u h
    unfold loo at h
    split at h
    · rename_i e; subst e; simp at h; subst h; rfl
    · obtain ⟨x, hx, rfl⟩ := List.mem_map.1 h
      simpa [prc] using ih hx
  | tf a b iha ihb | tp a b iha ihb =>
    intro u h
    unfold loo at h
    split at h
    · rename_i e; obtain ⟨rfl, rfl⟩ := e; simp at h; subst h; rfl
    · rcases List.mem_append.1 h with h | h
      · obtain ⟨x, hx, rfl⟩ := List.mem_map.1 h
        simp [prc, iha hx, prc_refl]
      · obtain ⟨x, hx, rfl⟩ := List.mem_map.1 h
        simp [prc, ihb hx, prc_refl]
theorem prc_kno : ∀ {s t : Ty}, prc s t = true → kno t ≤ kno s := by
  intro s
  induction s with
  | ti | tb | tt | tq => intro t h; cases t <;> simp [prc, kno] at h ⊢
  | tl a ih | tx a ih => intro t h; cases t <;> simp [prc, kno] at h ⊢; exact ih h
  | tf a b iha ihb | tp a b iha ihb =>
    intro t h; cases t <;> simp [prc, kno] at h ⊢
    have := iha h.1; have := ihb h.2; omega
theorem loo_strict {t u : Ty} (h : u ∈ loo t) : prc u t = false := by
  cases e : prc u t with
  | false => rfl
  | true => have := prc_kno e; have := loo_kno h; omega
theorem prc_high : ∀ {s t : Ty}, prc s t = true → high t ≤ high s := by
  intro s
  induction s with
  | ti | tb | tt | tq => intro t h; cases t <;> simp [prc, high] at h ⊢
  | tl a ih | tx a ih => intro t h; cases t <;> simp [prc, high] at h ⊢; exact ih h
  | tf a b iha ihb | tp a b iha ihb =>
    intro t h; cases t <;> simp [prc, high] at h ⊢
    have := iha h.1; have := ihb h.2; omega
/-- What is not ? has a step looser. -/
theorem loo_some : ∀ {t : Ty}, t ≠ .tq → ∃ u, u ∈ loo t := by
  intro t
  induction t with
  | ti | tb | tt => intro _; exact ⟨.tq, by simp [loo]⟩
  | tq => intro h; exact absurd rfl h
  | tl a ih =>
    intro _
    by_cases e : a = .tq
    · exact ⟨.tq, by simp [loo, e]⟩
    · obtain ⟨u, hu⟩ := ih e
      exact ⟨.tl u, by simp [loo, e]; exact hu⟩
  | tx a ih =>
    intro _
    by_cases e : a = .tq
    · exact ⟨.tq, by simp [loo, e]⟩
    · obtain ⟨u, hu⟩ := ih e
      exact ⟨.tx u, by simp [loo, e]; exact hu⟩
  | tf a b iha ihb =>
    intro _
    by_cases e : a = .tq ∧ b = .tq
    · exact ⟨.tq, by simp [loo, e]⟩
    · by_cases ea : a = .tq
      · obtain ⟨u, hu⟩ := ihb (fun eb => e ⟨ea, eb⟩)
        exact ⟨.tf a u, by unfold loo; rw [if_neg e]; exact List.mem_append_right _ (List.mem_map.2 ⟨u, hu, rfl⟩)⟩
      · obtain ⟨u, hu⟩ := iha ea
        exact ⟨.tf u b, by unfold loo; rw [if_neg e]; exact List.mem_append_left _ (List.mem_map.2 ⟨u, hu, rfl⟩)⟩
  | tp a b iha ihb =>
    intro _
    by_cases e : a = .tq ∧ b = .tq
    · exact ⟨.tq, by simp [loo, e]⟩
    · by_cases ea : a = .tq
      · obtain ⟨u, hu⟩ := ihb (fun eb => e ⟨ea, eb⟩)
        exact ⟨.tp a u, by unfold loo; rw [if_neg e]; exact List.mem_append_right _ (List.mem_map.2 ⟨u, hu, rfl⟩)⟩
      · obtain ⟨u, hu⟩ := iha ea
        exact ⟨.tp u b, by unfold loo; rw [if_neg e]; exact List.mem_append_left _ (List.mem_map.2 ⟨u, hu, rfl⟩)⟩
/-- From a type a step looser leads towards each less precise one. -/
theorem loo_near : ∀ {s t : Ty}, prc s t = true → s ≠ t → ∃ u, u ∈ loo s ∧ prc u t = true := by
  intro s
  induction s with
  | ti | tb | tt | tq => intro t h hne; cases t <;> simp [prc, loo] at h hne ⊢
  | tl a ih =>
    intro t h hne
    cases t with
    | tq => obtain ⟨u, hu⟩ := loo_some (t := .tl a) (by simp); exact ⟨u, hu, prc_q u⟩
    | tl c =>
      simp [prc] at h hne
      obtain ⟨u, hu, hp⟩ := ih h hne
      have e : a ≠ .tq := by rintro rfl; simp [loo] at hu
      exact ⟨.tl u, by simp [loo, e]; exact hu, by simpa [prc] using hp⟩
    | _ => simp [prc] at h
  | tx a ih =>
    intro t h hne
    cases t with
    | tq => obtain ⟨u, hu⟩ := loo_some (t := .tx a) (by simp); exact ⟨u, hu, prc_q u⟩
    | tx c =>
      simp [prc] at h hne
      obtain ⟨u, hu, hp⟩ := ih h hne
      have e : a ≠ .tq := by rintro rfl; simp [loo] at hu
      exact ⟨.tx u, by simp [loo, e]; exact hu, by simpa [prc] using hp⟩
    | _ => simp [prc] at h
  | tf a b iha ihb =>
    intro t h hne
    cases t with
    | tq => obtain ⟨u, hu⟩ := loo_some (t := .tf a b) (by simp); exact ⟨u, hu, prc_q u⟩
    | tf c d =>
      simp [prc] at h hne
      by_cases ea : a = c
      · obtain ⟨u, hu, hp⟩ := ihb h.2 (hne ea)
        have e : ¬ (a = .tq ∧ b = .tq) := by rintro ⟨_, rfl⟩; simp [loo] at hu
        exact ⟨.tf a u, by unfold loo; rw [if_neg e]; exact List.mem_append_right _ (List.mem_map.2 ⟨u, hu, rfl⟩), by simp [prc, h.1, hp]⟩
      · obtain ⟨u, hu, hp⟩ := iha h.1 ea
        have e : ¬ (a = .tq ∧ b = .tq) := by rintro ⟨rfl, _⟩; simp [loo] at hu
        exact ⟨.tf u b, by unfold loo; rw [if_neg e]; exact List.mem_append_left _ (List.mem_map.2 ⟨u, hu, rfl⟩), by simp [prc, h.2, hp]⟩
    | _ => simp [prc] at h
  | tp a b iha ihb =>
    intro t h hne
    cases t with
    | tq => obtain ⟨u, hu⟩ := loo_some (t := .tp a b) (by simp); exact ⟨u, hu, prc_q u⟩
    | tp c d =>
      simp [prc] at h hne
      by_cases ea : a = c
      · obtain ⟨u, hu, hp⟩ := ihb h.2 (hne ea)
        have e : ¬ (a = .tq ∧ b = .tq) := by rintro ⟨_, rfl⟩; simp [loo] at hu
        exact ⟨.tp a u, by unfold loo; rw [if_neg e]; exact List.mem_append_right _ (List.mem_map.2 ⟨u, hu, rfl⟩), by simp [prc, h.1, hp]⟩
      · obtain ⟨u, hu, hp⟩ := iha h.1 ea
        have e : ¬ (a = .tq ∧ b = .tq) := by rintro ⟨rfl, _⟩; simp [loo] at hu
        exact ⟨.tp u b, by unfold loo; rw [if_neg e]; exact List.mem_append_left _ (List.mem_map.2 ⟨u, hu, rfl⟩), by simp [prc, h.2, hp]⟩
    | _ => simp [prc] at h
end Tp
end Go.Proofs.YtaaokecdmbmgbaaGreatDoor.T3
