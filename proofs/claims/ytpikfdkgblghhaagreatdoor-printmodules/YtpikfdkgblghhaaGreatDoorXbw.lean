/- PrintModules returns true, whatever modules are handed in. -/
import Derived.Test.YtpikfdkgblghhaaGreatDoorXbp
import Derived.Test.YtpikfdkgblghhaaGreatDoorXbo
import Derived.Test.YtpikfdkgblghhaaGreatDoorXbu
import Derived.Test.YtpikfdkgblghhaaGreatDoorXbv
namespace Go.Proofs.YtpikfdkgblghhaaGreatDoor
open Go.RowKit Pn
set_option maxRecDepth 100000
set_option linter.unusedSimpArgs false
set_option linter.unusedVariables false

theorem few_of7 {l : List Md} {z : Nat} (h : z ≤ 2147483647) (h1 : l.length ≤ z) (h2 : Seen l l.length z) : Few l := by
  have key : ∀ m ∈ l, m.imps.length ≤ z ∧ m.defs.length ≤ z ∧ ∀ x ∈ m.defs, x.tree.length ≤ z := fun m hm => by
    obtain ⟨j, hj⟩ := List.getElem?_of_mem hm
    exact h2 j m (List.getElem?_eq_some_iff.1 hj).1 hj
  exact ⟨by omega, fun m hm => by have := (key m hm).1; omega, fun m hm => by have := (key m hm).2.1; omega, fun m hm x hx => by have := (key m hm).2.2 x hx; omega⟩
/-- Both Modules answer the same. -/
theorem mods_same (l : List Md) (hf : FitsM l) (hh : ∀ m ∈ l, ∀ x ∈ m.defs, ∀ y ∈ x.tree, Held y) : ∃ (q : ByteArray) (r : Int),
    (∀ v w, IsMods w v l → Tab w → Calls Tryz.prog 15 #[v] w fun e w' => e = .returned (.tuple #[.string q, .int .i64 r]) ∧ Below w.heap.size w w') ∧
    ∀ v w, IsMods w v l → Calls Tryz.prog 16 #[v] w fun e w' => e = .returned (.tuple #[.string q, .int .i64 r]) ∧ Below w.heap.size w w' := by
  by_cases hc : modN l = 0
  · exact ⟨_, _, fun v w hl hT => pnModules_ok l hf hh v w hl hT hc, fun v w hl => refModules_ok l hf hh v w hl hc⟩
  · exact ⟨_, _, fun v w hl _ => pnModules_bad l hf v w hl hc, fun v w hl => refModules_bad l hf v w hl hc⟩

set_option maxHeartbeats 8000000 in
theorem printModules_any (l : List Md) (hf : FitsM l) (hTx : TextsM l) (hh : ∀ m ∈ l, ∀ x ∈ m.defs, ∀ y ∈ x.tree, Held y) (v : Value) (w : World) (hl : IsMods w v l) (hT : Tab w) :
    Calls Tryz.prog 4 #[v] w fun e w' => e = .returned (.bool true) ∧ Below w.heap.size w w' := by
  obtain ⟨a, c, rfl⟩ := RowOf.form hl
  obtain ⟨q, r, hp, hr⟩ := mods_same l hf hh
  have hwk := works7_any w hT
  go_enter Tryz.func4, Tryz.ntmps4
  go_wp2_with fail
  refine hwk.mono ?_
  rintro e w1 ⟨rfl, hB1⟩
  have hl1 := hl.below hB1
  have hs := sizeMods_any l hf hTx _ w1 hl1
  clear hwk
  go_wp2_with fail
  refine hs.mono ?_
  rintro e w2 ⟨z, rfl, hz, hB2⟩
  have hl2 := hl1.below hB2
  have hA2 := bt hB1 hB2
  clear hs hl1 hB1 hB2
  by_cases h20 : 5000 < z
  · have h20' : (5000 : Int) < (z : Int) := by omega
    clear hp hr
    go_wp2_with fail
    go_ret
    exact ⟨rfl, hA2⟩
  have h20' : decide ((5000 : Int) < (z : Int)) = false := by simp; omega
  have hfew : Few l := by
    obtain ⟨h1, h2⟩ := hz (by omega)
    exact few_of7 (by omega) h1 h2
  clear hz
  have HT2 : Aside (Tab w2) := hT.below hA2
  go_wp2_with fail
  refine (wideMods_any l hfew _ w2 HT2.out hl2).mono ?_
  rintro e w3 ⟨rfl, hW3, hB3⟩
  have hl3 := hl2.below hB3
  have hA3 := bt hA2 hB3
  have HT3 : Aside (Tab w3) := HT2.out.below hB3
  generalize w2.heap.size = g at hW3 ⊢
  clear hl2 hA2 hB3 h20 h20'
  go_wp2_with fail
  refine (hp _ w3 hW3.mods HT3.out).mono ?_
  rintro e w4 ⟨rfl, hB4⟩
  have hl4 := hl3.below hB4
  have hW4 := hW3.below hB4
  have hA4 := bt hA3 hB4
  have HT4 : Aside (Tab w4) := HT3.out.below hB4
  clear hl3 hW3 hA3 hB4
  go_wp2_with fail
  refine (hr _ w4 hl4).mono ?_
  rintro e w5 ⟨rfl, hB5⟩
  have hl5 := hl4.below hB5
  have hW5 := hW4.below hB5
  have hA5 := bt hA4 hB5
  have HT5 : Aside (Tab w5) := HT4.out.below hB5
  clear hl4 hW4 hA4 hB5 hp hr
  go_wp2_with fail
  refine (eqMods_same l hf.len hf.imps hf.defs (fun m hm x hx => (hf.tree m hm x hx).len) _ _ w5 hW5.mods hl5).mono ?_
  rintro e w6 ⟨rfl, hB6⟩
  have hW6 := hW5.below hB6
  have hA6 := bt hA5 hB6
  have HT6 : Aside (Tab w6) := HT5.out.below hB6
  clear hl5 hW5 hA5 hB6
  go_wp2_with fail
  refine (spareMods_any l hfew g w6 HT6.out hW6).mono ?_
  rintro e w7 ⟨rfl, hB7⟩
  have hA7 := bt hA6 hB7
  clear hW6 hA6 hB7
  go_wp2_with fail
  go_ret
  exact ⟨rfl, hA7⟩
end Go.Proofs.YtpikfdkgblghhaaGreatDoor
