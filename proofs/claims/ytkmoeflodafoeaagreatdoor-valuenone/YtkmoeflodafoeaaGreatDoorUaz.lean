/- Package value: what is told: tell of nil, of a number, of a pair under wrappers. -/
import Derived.Test.YtkmoeflodafoeaaGreatDoorUaw
import Derived.Test.YtkmoeflodafoeaaGreatDoorUay
namespace Go.Proofs.YtkmoeflodafoeaaGreatDoor.Vl
open Go.RowKit
open T3.Tp (Ty)
set_option maxRecDepth 100000
set_option linter.unusedSimpArgs false
set_option linter.unusedVariables false
theorem nt_nil : NotTg .nilIface := fun w => by kernel_rfl
theorem nt_num (u : Value) : NotTg (.iface 139 u) := fun w => by kernel_rfl
theorem nt_pair (u : Value) : NotTg (.iface 107 u) := fun w => by kernel_rfl
theorem tn_num (w : World) : (Instr.typeAssert .nilIface 26 139 true).run Tryz.prog w = .ok (.tuple #[.int .i64 0, .bool false]) w := by kernel_rfl
theorem tn_word (w : World) : (Instr.typeAssert .nilIface 26 154 true).run Tryz.prog w = .ok (.tuple #[.string ⟨#[]⟩, .bool false]) w := by kernel_rfl
theorem tn_truth (w : World) : (Instr.typeAssert .nilIface 26 155 true).run Tryz.prog w = .ok (.tuple #[.bool false, .bool false]) w := by kernel_rfl
theorem tp_num (u : Value) (w : World) : (Instr.typeAssert (.iface 107 u) 26 139 true).run Tryz.prog w = .ok (.tuple #[.int .i64 0, .bool false]) w := by kernel_rfl
theorem tp_word (u : Value) (w : World) : (Instr.typeAssert (.iface 107 u) 26 154 true).run Tryz.prog w = .ok (.tuple #[.string ⟨#[]⟩, .bool false]) w := by kernel_rfl
theorem tp_truth (u : Value) (w : World) : (Instr.typeAssert (.iface 107 u) 26 155 true).run Tryz.prog w = .ok (.tuple #[.bool false, .bool false]) w := by kernel_rfl
theorem tp_fun (u : Value) (w : World) : (Instr.typeAssert (.iface 107 u) 26 133 true).run Tryz.prog w = .ok (.tuple #[.pointer none, .bool false]) w := by kernel_rfl
theorem tp_box (u : Value) (w : World) : (Instr.typeAssert (.iface 107 u) 26 136 true).run Tryz.prog w = .ok (.tuple #[.pointer none, .bool false]) w := by kernel_rfl
theorem tp_pair (u : Value) (w : World) : (Instr.typeAssert (.iface 107 u) 26 107 true).run Tryz.prog w = .ok (.tuple #[u, .bool true]) w := by kernel_rfl
/-- How tell ends: one more is told. -/
def Tld (w : World) (tb : Nat) (lr : Value) (O : List Ob) (P : List Pt) (e : Ending) (w' : World) : Prop := e = .returned (.tuple #[]) ∧ ∃ lo', TS w' tb lo' lr O P ∧ Below tb w w'
set_option maxHeartbeats 1600000 in
theorem tell_nil (tb : Nat) (lo lr : Value) (O : List Ob) (P : List Pt) (d : Int) (w : World) (h : TS w tb lo lr O P) (hl : O.length ≤ 5000) (hd : 1 ≤ d) :
    Calls Tryz.prog 140 #[.pointer (some ⟨tb, 0, none⟩), .nilIface, .int .i64 d] w (Tld w tb lr (O ++ [⟨10, 32, ⟨#[]⟩⟩]) P) := by
  have ca := add_any tb lo lr O P ⟨10, 32, ⟨#[]⟩⟩ w h hl
  have cu := untagged_any [] .nilIface .nilIface w (.nil _) nw_nil nt_nil
  have h1 := tn_num
  have h2 := tn_word
  have h3 := tn_truth
  have h4 := tn_fun
  have h5 := tn_box
  have h6 := tn_pair
  have h7 := tn_empty
  have h8 := tn_cons
  have hd' : ¬ d < 1 := by omega
  clear h
  go_enter Tryz.func140, Tryz.ntmps140
  go_wp2_with (first | (go_at_call 173; refine cu.mono ?_; rintro e w1 ⟨rfl, hw1⟩; replace hw1 := hw1.symm; subst hw1) | (go_at_call 141; refine ca.mono ?_; rintro e w2 ⟨rfl, lo2, hT2, hB2, -⟩))
  go_end0
  exact ⟨rfl, _, hT2, hB2⟩
set_option maxHeartbeats 1600000 in
theorem tell_num (tb : Nat) (lo lr : Value) (O : List Ob) (P : List Pt) (n d : Int) (w : World) (h : TS w tb lo lr O P) (hl : O.length ≤ 5000) (hd : 1 ≤ d) :
    Calls Tryz.prog 140 #[.pointer (some ⟨tb, 0, none⟩), nm n, .int .i64 d] w (Tld w tb lr (O ++ [⟨1, n, ⟨#[]⟩⟩]) P) := by
  have ca := add_any tb lo lr O P ⟨1, n, ⟨#[]⟩⟩ w h hl
  have cu := untagged_any [] (nm n) (nm n) w (.nil _) (nw_num _) (nt_num _)
  have h1 := ta_num
  have hd' : ¬ d < 1 := by omega
  clear h
  unfold nm at *
  go_enter Tryz.func140, Tryz.ntmps140
  go_wp2_with (first | (go_at_call 173; refine cu.mono ?_; rintro e w1 ⟨rfl, hw1⟩; replace hw1 := hw1.symm; subst hw1) | (go_at_call 141; refine ca.mono ?_; rintro e w2 ⟨rfl, lo2, hT2, hB2, -⟩))
  go_end0
  exact ⟨rfl, _, hT2, hB2⟩
set_option maxHeartbeats 3200000 in
theorem tell_pair (l : List Value) (tb : Nat) (lo lr : Value) (O : List Ob) (P : List Pt) (T : TypeId) (u q : Value) (d : Int) (w : World) (h : TS w tb lo lr O P) (hch : Ch w l (.iface T u) (.iface 107 q)) (hl : O.length + P.length ≤ 1000) (hd : 1 ≤ d) (hd2 : d ≤ 1000000) :
    Calls Tryz.prog 140 #[.pointer (some ⟨tb, 0, none⟩), .iface T u, .int .i64 d] w fun e w' => e = .returned (.tuple #[]) ∧ ∃ lo' lr', TS w' tb lo' lr' (O ++ [⟨6, 0, ⟨#[]⟩⟩]) (P ++ [⟨.iface T u, .func (.func 46) #[] #[], d - 1⟩, ⟨.iface T u, .func (.func 32) #[] #[], d - 1⟩]) ∧ Below tb w w' := by
  have ca := two_any tb lo lr O P 6 T T u u 32 46 (d - 1) (d - 1) w h hl
  have cu := untagged_any l (.iface T u) (.iface 107 q) w hch (nw_pair _) (nt_pair _)
  have h1 := tp_num
  have h2 := tp_word
  have h3 := tp_truth
  have h4 := tp_fun
  have h5 := tp_box
  have h6 := tp_pair
  have hd' : ¬ d < 1 := by omega
  clear h hch
  go_enter Tryz.func140, Tryz.ntmps140
  go_wp2_with (first | (go_at_call 173; refine cu.mono ?_; rintro e w1 ⟨rfl, hw1⟩; replace hw1 := hw1.symm; subst hw1) | (go_at_call 175; refine ca.mono ?_; rintro e w2 ⟨rfl, lo2, lr2, hT2, hB2⟩))
  go_end0
  exact ⟨rfl, _, _, hT2, hB2⟩
end Go.Proofs.YtkmoeflodafoeaaGreatDoor.Vl
