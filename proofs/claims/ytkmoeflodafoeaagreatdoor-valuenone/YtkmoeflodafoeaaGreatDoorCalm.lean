/- Regions that draw their order, whose callees make memory but hand back one value: one walk, in the text's order. -/
import Derived.Test.YtkmoeflodafoeaaGreatDoorRows
import Derived.BigQuiet
import Derived.WalkKit
namespace Go.Proofs.YtkmoeflodafoeaaGreatDoor
/-- The worlds that meet S, as a type: so a fact of all of them is a rule without a condition. -/
structure Cls (S : World → Prop) where
  w : World
  h : S w
theorem wp_region_calm {P : Program} (S : World → Prop) {id : Nat} {Q : Exit → Act → World → Prop} {a : Act} {w : World} {l : List Oper} (hm : P.follows .mixedOrders = true) (hB : Region.lexB .any l.toArray = true) (h0 : S w.drew)
    (h : wpQuiet P l.toArray (fun w' => ∃ x : Cls S, w' = x.w) (fun a' => ∀ w', (∃ x : Cls S, w' = x.w) → Q .normal a' w') l a) : (Code.region id l.toArray true).wp P Q a w :=
  wp_region_quiet (C := fun w' => ∃ x : Cls S, w' = x.w) hm hB ⟨⟨w.drew, h0⟩, rfl⟩ (by simpa using h)
theorem calls_calm {P : Program} {f : FuncId} {args : Array Value} {S : World → Prop} {W : World} {v : Value} (h : Calls P f args W fun e w' => e = .returned v ∧ S w') : Calls P f args W fun e w' => e = .returned v ∧ ∃ x : Cls S, w' = x.w :=
  h.mono fun _ w' ⟨he, hs⟩ => ⟨he, ⟨w', hs⟩, rfl⟩
end Go.Proofs.YtkmoeflodafoeaaGreatDoor
