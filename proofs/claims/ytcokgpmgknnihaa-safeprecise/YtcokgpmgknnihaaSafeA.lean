/- What the program's questions ask, and where they note what they were told. -/
import Derived.Test.YtcokgpmgknnihaaSafeSpec
namespace Go.Proofs.Ytcokgpmgknnihaa
open Go.RowKit
set_option maxRecDepth 100000

theorem hd_ne {a b : Tp.Ty} : (((Tp.hd a).toNat : Int) == ((Tp.hd b).toNat : Int)) = decide (Tp.hd a = Tp.hd b) := by
  rw [Bool.eq_iff_iff]
  simp only [beq_iff_eq, decide_eq_true_eq]
  constructor
  · intro e; exact UInt8.toNat_inj.1 (by omega)
  · intro e; rw [e]

set_option maxHeartbeats 1000000 in
theorem passes_any (a b : Tp.Ty) (ha : (Tp.enc a).length ≤ 64) (hb : (Tp.enc b).length ≤ 64) (w : World) :
    Calls Try.prog 20 #[.string (S (Tp.enc a)), .string (S (Tp.enc b))] w fun e w' => e = .returned (.bool (Tp.ask a b)) ∧ w' = w := by
  have h1 := head_yes a ha
  have h2 := head_yes b hb
  have hq := Tp.isq_S b
  have hd := hd_ne (a := a) (b := b)
  have HA : Aside (Tp.ask a b = (Tp.isq b || decide (Tp.hd a = Tp.hd b))) := rfl
  rw [← hq, ← hd] at HA
  generalize S (Tp.enc a) = s at *
  generalize S (Tp.enc b) = t at *
  by_cases hb : t.toList = [63]
  · rw [show (t.toList == [63]) = true by simpa using hb] at HA
    clear hq
    go_enter Try.func20, Try.ntmps20
    go_wp2_with fail
    go_ret
    rw [HA.out]
    exact ⟨rfl, rfl⟩
  · have hb' : (t.toList == [63]) = false := by simpa using hb
    rw [hb'] at HA
    clear hq hb hd
    go_enter Try.func20, Try.ntmps20
    go_wp2_with (first | (go_at_call_of 29 s; refine (h1 _).mono ?_; rintro e w' ⟨rfl, rfl⟩) | (go_at_call_of 29 t; refine (h2 _).mono ?_; rintro e w' ⟨rfl, rfl⟩))
    go_ret
    rw [HA.out]
    exact ⟨rfl, rfl⟩

/-- A variable of the call that holds a bool. -/
def Bool1 (w : World) (C : Nat) (x : Bool) : Prop := w.heap[C]? = some (.cells #[.bool x] 4 (0, 0))
/-- A question: it notes there whether it was told yes. -/
def Asks (F : Nat) : Prop := ∀ (a b : Tp.Ty) (C : Nat) (x : Bool) (w : World), (Tp.enc a).length ≤ 64 → (Tp.enc b).length ≤ 64 → Bool1 w C x →
  Calls Try.prog F #[.string (S (Tp.enc a)), .string (S (Tp.enc b)), .pointer (some ⟨C, 0, none⟩)] w fun e w' => e = .returned (.tuple #[]) ∧ w' = w.setCell ⟨C, 0, none⟩ (.bool (x && Tp.ask a b))

set_option maxHeartbeats 1000000 in
theorem asks19 : Asks 19 := by
  intro a b C x w ha hb hC
  have hp := passes_any a b ha hb
  obtain ⟨hc, hf⟩ := block_cells hC
  have hc0 : w.cell? ⟨C, 0, none⟩ = some (.bool x) := hc 0
  have hf0 := hf 0
  generalize S (Tp.enc a) = s at *
  generalize S (Tp.enc b) = t at *
  cases x with
  | false =>
    go_enter Try.func19, Try.ntmps19
    go_wp2_with fail
    refine bodyPost_end (v := .tuple #[]) (by simp [results, Try.results19, go_sem]) rfl ?_
    exact ⟨rfl, rfl⟩
  | true =>
    go_enter Try.func19, Try.ntmps19
    go_wp2_with (go_at_call 20; refine (hp _).mono ?_; rintro e w' ⟨rfl, hw'⟩; replace hw' := hw'.symm; subst hw')
    refine bodyPost_end (v := .tuple #[]) (by simp [results, Try.results19, go_sem]) rfl ?_
    exact ⟨rfl, rfl⟩
set_option maxHeartbeats 1000000 in
theorem asks21 : Asks 21 := by
  intro a b C x w ha hb hC
  have hp := passes_any a b ha hb
  obtain ⟨hc, hf⟩ := block_cells hC
  have hc0 : w.cell? ⟨C, 0, none⟩ = some (.bool x) := hc 0
  have hf0 := hf 0
  generalize S (Tp.enc a) = s at *
  generalize S (Tp.enc b) = t at *
  cases x with
  | false =>
    go_enter Try.func21, Try.ntmps21
    go_wp2_with fail
    refine bodyPost_end (v := .tuple #[]) (by simp [results, Try.results21, go_sem]) rfl ?_
    exact ⟨rfl, rfl⟩
  | true =>
    go_enter Try.func21, Try.ntmps21
    go_wp2_with (go_at_call 20; refine (hp _).mono ?_; rintro e w' ⟨rfl, hw'⟩; replace hw' := hw'.symm; subst hw')
    refine bodyPost_end (v := .tuple #[]) (by simp [results, Try.results21, go_sem]) rfl ?_
    exact ⟨rfl, rfl⟩

set_option maxHeartbeats 1000000 in
theorem turned_any (F G C D : Nat) (w : World) :
    Calls Try.prog 32 #[.agg #[.func (.func F) #[] #[.pointer (some ⟨C, 0, none⟩)], .func (.func G) #[] #[.pointer (some ⟨D, 0, none⟩)]]] w fun e w' => e = .returned (.agg #[.func (.func G) #[] #[.pointer (some ⟨D, 0, none⟩)], .func (.func F) #[] #[.pointer (some ⟨C, 0, none⟩)]]) ∧ Below w.heap.size w w' := by
  have hsf := store_func
  go_enter Try.func32, Try.ntmps32
  go_wp2_with fail
  generalize hW1 : w.alloc (Obj.cells #[Value.func (Fn.func F) #[] #[Value.pointer (some { block := C, off := 0 })], Value.func (Fn.func G) #[] #[Value.pointer (some { block := D, off := 0 })]] 31) = w1
  have hs1 : w1.heap.size = w.heap.size + 1 := by rw [← hW1]; simp
  rw [← hs1]
  have hb1 : Below w.heap.size w w1 := by rw [← hW1]; exact below_alloc _ _
  have hbl := heap_alloc_new w1 (Obj.cells #[Value.func (Fn.func G) #[] #[Value.pointer (some { block := D, off := 0 })], Value.func (Fn.func F) #[] #[Value.pointer (some { block := C, off := 0 })]] 31)
  have d0 := (block_cells hbl).1 0
  have d1 := (block_cells hbl).1 1
  refine bodyPost_ret (v := .agg #[.func (.func G) #[] #[.pointer (some ⟨D, 0, none⟩)], .func (.func F) #[] #[.pointer (some ⟨C, 0, none⟩)]]) (by simp [results, Try.results32, go_sem, d0, d1]) rfl ?_
  exact ⟨rfl, hb1.alloc hb1.size _⟩

set_option maxHeartbeats 400000 in
theorem sIsType_any (s : ByteArray) (w : World) :
    Calls Try.prog 18 #[.string s] w fun e w' => e = .returned (.bool ((Tp.chk s.data.toList).1 == 0)) ∧ w' = w := by
  go_enter Try.func18, Try.ntmps18
  go_wp2_with (go_at_call 28; refine (check_any _ _).mono ?_; rintro e w' ⟨rfl, rfl⟩)
  go_ret
  refine ⟨ret_bool ?_, rfl⟩
  rw [Bool.eq_iff_iff]; simp
theorem enters19 : ∀ args w, (callFunc 19 args).run Try.prog w = .ok (.enter 19 args) w := enters_of Try.func19 (by kernel_rfl) rfl
theorem enters21 : ∀ args w, (callFunc 21 args).run Try.prog w = .ok (.enter 21 args) w := enters_of Try.func21 (by kernel_rfl) rfl
/-- Which questions there are. -/
def Qst (F : Nat) : Prop := Asks F ∧ ∀ args w, (callFunc F args).run Try.prog w = .ok (.enter F args) w
theorem qst19 : Qst 19 := ⟨asks19, enters19⟩
theorem qst21 : Qst 21 := ⟨asks21, enters21⟩
end Go.Proofs.Ytcokgpmgknnihaa
