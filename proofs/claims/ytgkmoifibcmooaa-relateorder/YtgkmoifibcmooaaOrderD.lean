/- The walk of RelateOrder, its last part. -/
import Derived.Test.YtgkmoifibcmooaaOrderA
namespace Go.Proofs.Ytgkmoifibcmooaa
open Go.RowKit

set_option maxRecDepth 100000 in
set_option maxHeartbeats 10000000 in
theorem order_d (s t u : ByteArray) (a b c : Tp.Ty) (ha : IsTy s a) (hb : IsTy t b) (hc : IsTy u c) (w wc : World) (hB : Below w.heap.size w wc) (K : Act → World → Prop) (hK : ∀ a w', Code.wp Try.prog (rest4 16) (bodyPost Try.prog Try.f4 fun e w' => e = .returned (.bool true) ∧ Below w.heap.size w w') a w' → K a w') (x3 x4 x5 x6 x7 x8 x9 x10 x11 x12 x13 x14 x15 x16 x17 x18 x19 x20 x21 x22 x23 x24 x25 x26 x27 x28 x29 x30 x31 x32 x33 x34 x35 x36 x37 x38 x39 x40 x41 x42 x43 x44 x45 x46 x47 x48 x49 x50 x51 x52 x53 x54 x55 x56 x57 x58 x59 x60 x61 x62 x63 x64 x65 x66 x67 x68 x69 x70 x71 x72 x73 x74 x75 x76 x77 x78 x79 x80 x81 x82 x83 x84 x85 x86 x87 x88 x89 x90 x91 x92 x93 x94 x95 x96 x97 x98 x99 x100 x101 x102 x103 x104 x105 x106 x107 x108 x109 x110 x111 x112 x113 x114 x115 x116 x117 x118 x119 x120 x121 x122 x123 x124 x125 x126 x127 x128 x129 x130 x131 x132 x133 x134 x135 x136 x137 x138 x139 x140 x141 x142 x143 x144 x145 x146 x147 x148 x149 x150 x151 x152 x153 x154 x155 x156 x157 x158 x159 x160 x161 x162 x163 x164 x165 x166 x167 x168 x169 x170 x171 x172 x173 x174 x175 x176 x177 x178 x179 x180 x181 x182 x183 x184 x185 x186 x187 x188 x189 x190 x191 x192 x193 x194 x195 x196 x197 x198 x199 x200 x201 x202 x203 x204 x205 x206 x207 x208 x209 x210 x211 x212 x213 x214 x215 x216 x217 x218 x219 x220 x221 x222 x223 x224 x225 x226 x227 x228 x229 x230 x231 : Value) :
    Code.wp Try.prog (reg4 16) (Exit.then K (bodyPost Try.prog Try.f4 fun e w' => e = .returned (.bool true) ∧ Below w.heap.size w w')) ⟨List.toArray (.string s :: .string t :: .string u :: x3 :: x4 :: x5 :: x6 :: x7 :: x8 :: x9 :: x10 :: x11 :: x12 :: x13 :: x14 :: x15 :: x16 :: x17 :: x18 :: x19 :: x20 :: x21 :: x22 :: x23 :: x24 :: x25 :: x26 :: x27 :: x28 :: x29 :: x30 :: x31 :: x32 :: x33 :: x34 :: x35 :: x36 :: x37 :: x38 :: x39 :: x40 :: x41 :: x42 :: x43 :: x44 :: x45 :: x46 :: x47 :: x48 :: x49 :: x50 :: x51 :: x52 :: x53 :: x54 :: x55 :: x56 :: x57 :: x58 :: x59 :: x60 :: x61 :: x62 :: x63 :: x64 :: x65 :: x66 :: x67 :: x68 :: x69 :: x70 :: x71 :: x72 :: x73 :: x74 :: x75 :: x76 :: x77 :: x78 :: x79 :: x80 :: x81 :: x82 :: x83 :: x84 :: x85 :: x86 :: x87 :: x88 :: x89 :: x90 :: x91 :: x92 :: x93 :: x94 :: x95 :: x96 :: x97 :: x98 :: x99 :: x100 :: x101 :: x102 :: x103 :: x104 :: x105 :: x106 :: x107 :: x108 :: x109 :: x110 :: x111 :: x112 :: x113 :: x114 :: x115 :: x116 :: x117 :: x118 :: x119 :: x120 :: x121 :: x122 :: x123 :: x124 :: x125 :: x126 :: x127 :: x128 :: x129 :: x130 :: x131 :: x132 :: x133 :: x134 :: x135 :: x136 :: x137 :: x138 :: x139 :: x140 :: x141 :: x142 :: x143 :: x144 :: x145 :: x146 :: x147 :: x148 :: x149 :: x150 :: x151 :: x152 :: x153 :: x154 :: x155 :: x156 :: x157 :: x158 :: x159 :: x160 :: x161 :: x162 :: x163 :: x164 :: x165 :: x166 :: x167 :: x168 :: x169 :: x170 :: x171 :: x172 :: x173 :: x174 :: x175 :: x176 :: x177 :: x178 :: x179 :: x180 :: x181 :: x182 :: x183 :: x184 :: x185 :: x186 :: x187 :: x188 :: x189 :: x190 :: x191 :: x192 :: x193 :: x194 :: x195 :: x196 :: x197 :: x198 :: x199 :: x200 :: x201 :: x202 :: x203 :: x204 :: x205 :: x206 :: x207 :: x208 :: x209 :: x210 :: x211 :: x212 :: x213 :: x214 :: x215 :: x216 :: x217 :: x218 :: x219 :: x220 :: x221 :: x222 :: x223 :: x224 :: x225 :: x226 :: x227 :: x228 :: x229 :: x230 :: x231 :: []), []⟩ wc := by
  conv => arg 2; whnf
  conv at hK => enter [a, w', 1, 2]; whnf
  have hj : IsTy (S (Tp.enc (Tp.joi a b))) (Tp.joi a b) := ⟨rfl, Nat.le_trans (Tp.joi_len a b) ha.len⟩
  have pja := Tp.joi_l a b
  have pjb := Tp.joi_r a b
  have HJS : Aside (Tp.joi b a = Tp.joi a b) := Tp.joi_symm b a
  have HJB : Aside (Tp.prc a c = true → Tp.prc b c = true → Tp.prc (Tp.joi a b) c = true) := fun h k => Tp.joi_best h k
  have hl := lives_any
  go_upto_region 18 with (first | (go_at_call 9; refine (join_of (by assumption) (by assumption) _).mono ?_; rintro e w' ⟨rfl, hB'⟩; have hB := hB.trans (hB'.mono hB.size); clear hB'; try rw [HJS.out]))
  generalize S (Tp.enc (Tp.joi a b)) = j at *
  go_cut [213] (fun x wx => x = .bool false ∧ Below w.heap.size w wx)
  case first =>
    go_wp2_with (first | (go_at_call 13; refine (precise_of (by assumption) (by assumption) _).mono ?_; rintro e w' ⟨rfl, hB'⟩; have hB := hB.trans (hB'.mono hB.size); clear hB'))
    go_meet
    case rel => exact ⟨rfl, hB⟩
  case rest =>
    clear hB
    obtain ⟨rfl, hB⟩ := hcut
    go_upto_region 20 with fail
    go_cut [16] (fun x wx => x = .bool (Tp.prc a c && Tp.prc b c) ∧ Below w.heap.size w wx)
    case first =>
      go_wp2_with (first | (go_at_call 13; refine (precise_of (by assumption) (by assumption) _).mono ?_; rintro e w' ⟨rfl, hB'⟩; have hB := hB.trans (hB'.mono hB.size); clear hB'))
      all_goals
        go_meet
        case rel =>
          refine ⟨?_, hB⟩
          first | rfl | (rw [(by assumption : Tp.prc a c = true)]; rfl) | (rw [Bool.eq_false_iff.2 (by assumption : ¬ Tp.prc a c = true)]; rfl)
    case rest =>
      clear hB
      obtain ⟨rfl, hB⟩ := hcut
      cases hab : (Tp.prc a c && Tp.prc b c) with
      | false =>
        go_wp2_with (first | (go_at_call 15; refine (hl _).mono ?_; rintro e w' ⟨rfl, hB'⟩; have hB := hB.trans (hB'.mono hB.size); clear hB'))
        go_ret
        exact ⟨rfl, hB⟩
      | true =>
        rw [Bool.and_eq_true] at hab
        have q1 := HJB.out hab.1 hab.2
        go_wp2_with (first | (go_at_call 13; refine (precise_of (by assumption) (by assumption) _).mono ?_; rintro e w' ⟨rfl, hB'⟩; have hB := hB.trans (hB'.mono hB.size); clear hB') | (go_at_call 15; refine (hl _).mono ?_; rintro e w' ⟨rfl, hB'⟩; have hB := hB.trans (hB'.mono hB.size); clear hB'))
        go_ret
        exact ⟨rfl, hB⟩

end Go.Proofs.Ytgkmoifibcmooaa
