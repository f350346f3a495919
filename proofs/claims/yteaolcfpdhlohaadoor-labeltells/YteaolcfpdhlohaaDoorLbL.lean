/- The listed table of words, and one start in which it lies so. -/
import Derived.Test.YteaolcfpdhlohaaDoorLbH
import Derived.ProofKit
import Derived.OpenShut
import Derived.LaidMore
import Derived.Lay
import Derived.SevenTiedAt
import Derived.Stop.Joined
import Derived.Stop.LaidErr
namespace Go.Proofs.YteaolcfpdhlohaaDoor
open Go.ChangeShapes Go.WideShapes Go.ChangeAt Go.RowKit
set_option maxRecDepth 100000

theorem ownKnobs : ownKnob Tryd.prog.godebug = none := by kernel_rfl
theorem laidOutAll : laidOutB Tryd.prog = true := by kernel_rfl
theorem gRW : Tryd.prog.globalNamed "culprit/label.ruleWords" = some 0 := by kernel_rfl
theorem gRWType : (Tryd.prog.globals[0]?).map (·.type) = some 73 := by kernel_rfl
theorem rwTy : Tryd.prog.underlying 73 = some (.array 19 9) := by kernel_rfl
theorem rwC : Tryd.prog.cellsOf 9 = 1 := by kernel_rfl
theorem rwS : Tryd.prog.underlying 9 = some .string := by kernel_rfl
theorem rwD : (Rows.laid_culprit_label_ruleWords : DataW Unit) = .agg (Lb.wordsL.map fun s => .lit (.string s)) := rfl

theorem hasW_of_laid {r : List (String × DataW Unit)} {W : World} (h : laidMet Tryd.prog (("culprit/label.ruleWords", Rows.laid_culprit_label_ruleWords) :: r) W) : HasW W := by
  obtain ⟨ps, ⟨g0, t0, cs0, f0, p0, q0, hg0, ht0, hv0, htr, _⟩, _⟩ := h
  obtain rfl := Option.some.inj (gRW.symm.trans hg0)
  obtain rfl := Option.some.inj (gRWType.symm.trans ht0)
  obtain ⟨xs, m, _, hd, _, hxl, hel⟩ := DataW.trod_array rwTy htr
  rw [rwD] at hd
  have hd1 := (Prod.mk.inj hd).1
  rw [rwC] at hel
  intro k s hs
  have hk : k < 19 := (List.getElem?_eq_some_iff.1 hs).1
  have he := hel k hk
  obtain ⟨y, hy⟩ : ∃ y, xs[k]? = some y := ⟨xs[k], List.getElem?_eq_getElem (by omega)⟩
  rw [hy] at he
  obtain ⟨b, hcs, hyb, _⟩ := DataW.trod_string rwS he
  have hmap : (Lb.wordsL.map fun s => (DataW.lit (.string s) : DataW Unit))[k]? = (xs.map (·.1))[k]? := by
    have : (DataW.agg (Lb.wordsL.map fun s => .lit (.string s)) : DataW Unit) = .agg (xs.map (·.1)) := hd1
    injection this with this
    rw [this]
  rw [List.getElem?_map, List.getElem?_map, hs, hy, hyb] at hmap
  have hbs : s = b.data.toList := by
    simpa using hmap
  have hc := World.var?_cell gRW hv0 k
  rw [hc]
  have h1 : (cs0.toList.drop (k * 1)).take 1 = [.string b] := hcs
  have h2 : cs0[k]? = some (.string b) := by
    rw [Nat.mul_one] at h1
    have := congrArg (·[0]?) h1
    rw [List.getElem?_take] at this
    simpa using this
  rw [h2, hbs]
  rfl
end Go.Proofs.YteaolcfpdhlohaaDoor
