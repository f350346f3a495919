/- What the program's Free answers. -/
import Derived.Test.YtkcehgpcimlamabGreatDoorPart2
namespace Go.Proofs.YtkcehgpcimlamabGreatDoor
open Go.RowKit Go.Maps
open Go.WideMaps Go.WideElems
set_option maxRecDepth 100000
set_option linter.unusedSimpArgs false

theorem part_any (l : List Tr.Nd) (hf : Fits l) (hlen : l.length ≤ 4096) (hmay : ∀ x ∈ l, Tr.mayB x = true) (v : Value) (B0 R fb bm tm : Nat) (hv : Low v B0) (hB0 : B0 ≤ fb ∧ B0 ≤ bm ∧ B0 ≤ tm ∧ B0 ≤ R) (N : Nat) :
    ∀ (t : Tr.T) (p : Nat) (w : World) (b acc : List (List UInt8)) (nb nt : Nat) (fv : Value), (Tr.flat t).length ≤ N → PIn l w R fb bm tm v t p b acc nb nt fv →
      Calls Tryz.prog 31 #[.pointer (some ⟨fb, 0, none⟩)] w fun e w' => e = .returned (.tuple #[]) ∧ POut w R fb bm tm v t p b acc nb nt fv w' := by
  induction N using Nat.strongRecOn with
  | _ N ih =>
    intro t p w b acc nb nt fv hN hin
    obtain ⟨x, ks⟩ := t
    by_cases hk : x.kind = 4
    · have hx : l[p]? = some x := by obtain ⟨rest, hd⟩ := hin.lies; have := Tr.at_drop (q := 0) hd; simpa [Tr.flat] using this
      have hmx := hmay x (List.mem_of_getElem? hx)
      have hk0 : ks = [] := by
        have hw := hin.wf
        rw [Tr.wf] at hw
        have hfit : Tr.fitB x = true := by
          unfold Tr.mayB at hmx
          simp only [Bool.and_eq_true] at hmx
          exact hmx.1.1.1.1
        unfold Tr.fitB at hfit
        rw [hk] at hfit
        have hfit' : (true && x.kids == 0) = true := hfit
        have : x.kids = 0 := by simpa using hfit'
        rw [hw.1] at this
        exact List.length_eq_zero_iff.1 (by omega)
      subst hk0
      exact part_var l hf hlen v R fb bm tm x hk p w b acc nb nt fv hin
    · refine part_kids l hlen hmay v B0 R fb bm tm hv hB0 N ?_ x ks hk p w b acc nb nt fv hN hin
      intro t' p' w' b' acc' nb' nt' fv' hlt hin'
      exact ih (Tr.flat t').length hlt t' p' w' b' acc' nb' nt' fv' (Nat.le_refl _) hin'

/-- A list that Check takes is a tree. -/
theorem chk_tree {l : List Tr.Nd} (h : (chkN l).1 = 0) : ∃ t, Tr.wf t ∧ l = Tr.flat t ∧ (∀ x ∈ l, Tr.mayB x = true) ∧ l.length ≤ 4096 ∧ Tr.high t ≤ 64 := by
  by_cases hm : l.length = 0 ∨ 4096 < l.length
  · rw [chkN_many hm] at h; simp at h
  rw [chkN_ck hm] at h
  have hr := Tr.ck_ref Tr.mayB (fun x hx => Tr.mayB_kids hx) l [1] 0 0 (by simp)
  rw [hr] at h
  split at h
  · simp at h
  · rename_i hbad
    obtain ⟨hmay, _⟩ := Tr.bad_end hbad
    split at h
    · rename_i hgo
      rw [Tr.go_gs] at hgo
      obtain ⟨t, hw, he⟩ := Tr.whole (l := l) (by simpa [Tr.kd] using hgo)
      refine ⟨t, hw, he, hmay, by omega, ?_⟩
      have hd := Tr.dps_flat t [] 0 [] hw
      rw [List.append_nil, ← he] at hd
      have hdd : Tr.dps (l.map (·.kids)) [1] = Tr.dpT 1 t := by
        have h0 : Tr.dps [] [0] = [] := rfl
        simpa [h0, Tr.kd] using hd
      rw [hdd] at h
      cases hde : Tr.deep (Tr.dpT 1 t) 0 with
      | some j => rw [hde] at h; simp [Tr.fin2] at h
      | none =>
        have key : ∀ (ds : List Nat) (i a : Nat), Tr.deep ds i = none → a ≤ 64 → Tr.mx ds a ≤ 64 := by
          intro ds
          induction ds with
          | nil => intro i a _ ha; exact ha
          | cons d ds ih =>
            intro i a hd ha
            rw [Tr.deep] at hd
            split at hd
            · simp at hd
            · rw [Tr.mx]; exact ih _ _ hd (by omega)
        have := key _ 0 0 hde (by omega)
        rw [Tr.mx_dpT] at this
        omega
    · simp at h

theorem own_mono {w : World} {base base' e size n : Nat} {v : Value} {xs : List Value} (h : w.ownsRow base e size v n xs) (hb : base' ≤ base) : w.ownsRow base' e size v n xs := by
  obtain ⟨h1, h2 | ⟨g, cap, cur, h2, h3, r⟩⟩ := h
  · exact ⟨h1, .inl h2⟩
  · exact ⟨h1, .inr ⟨g, cap, cur, h2, Nat.le_trans hb h3, r⟩⟩
/-- A finder, just made. -/
theorem FS.made (w : World) (v : Value) : FS (((w.alloc (.map #[] 0)).alloc (.map #[] 0)).alloc (.cells #[v, .int .i64 0, .map (some w.heap.size), .map (some (w.heap.size + 1)), .slice none 0 0] 68)) (w.heap.size + 3) (w.heap.size + 2) w.heap.size (w.heap.size + 1) v 0 [] [] 0 0 (.slice none 0 0) := by
  refine ⟨?_, own_nil _ _ _ _, ?_, ⟨fun _ => 0, ?_, fun n => by simp⟩, by omega, by omega, by omega, by omega, by omega, by omega, by simp⟩
  · have := heap_alloc_new ((w.alloc (.map #[] 0)).alloc (.map #[] 0)) (.cells #[v, .int .i64 0, .map (some w.heap.size), .map (some (w.heap.size + 1)), .slice none 0 0] 68)
    simpa [Fn] using this
  · refine ((Cnt.made w).kept (World.grownBy_alloc _ _ none) (by simp)).kept (World.grownBy_alloc _ _ none) (by simp) |>.same (fun l => by simp)
  · have := Cnt.made (w.alloc (.map #[] 0))
    rw [show (w.alloc (.map #[] 0)).heap.size = w.heap.size + 1 by simp] at this
    exact this.kept (World.grownBy_alloc _ _ none) (by simp)
/-- The free names of a list, as the program tells them. -/
def freeN (l : List Tr.Nd) (ns : List (List UInt8)) : Prop := ((chkN l).1 ≠ 0 ∧ ns = []) ∨ ∃ t, (chkN l).1 = 0 ∧ Tr.wf t ∧ l = Tr.flat t ∧ ns = Tr.free t

set_option maxHeartbeats 2000000 in
theorem free_any (l : List Tr.Nd) (hf : Fits l) (v : Value) (w : World) (hl : IsNodes w v l) (hv : Low v w.heap.size) :
    Calls Tryz.prog 14 #[v] w fun e w' => ∃ r ns, e = .returned r ∧ freeN l ns ∧ w'.ownsRow w.heap.size 9 1 r ns.length (tcells ns) ∧ Below w.heap.size w w' := by
  have hmm := @run_makeMap Tryz.prog
  have hc := treeCheck_any l hf v w hl
  obtain ⟨a, c, rfl⟩ := hl.form
  by_cases h0 : (chkN l).1 = 0
  · obtain ⟨t, hw, he, hmay, hlen, _⟩ := chk_tree h0
    have HR : Aside (∀ ns, ns = Tr.free t → freeN l ns) := fun ns h => .inr ⟨t, h0, hw, he, h⟩
    rw [h0] at hc
    have HE : Aside (l = Tr.flat t) := he
    have hpt : ∀ w1 : World, Below w.heap.size w w1 → Calls Tryz.prog 31 #[.pointer (some ⟨w1.heap.size + 2, 0, none⟩)] (((w1.alloc (.map #[] 0)).alloc (.map #[] 0)).alloc (.cells #[.slice a l.length c, .int .i64 0, .map (some w1.heap.size), .map (some (w1.heap.size + 1)), .slice none 0 0] 68)) fun e w' => e = .returned (.tuple #[]) ∧ POut (((w1.alloc (.map #[] 0)).alloc (.map #[] 0)).alloc (.cells #[.slice a l.length c, .int .i64 0, .map (some w1.heap.size), .map (some (w1.heap.size + 1)), .slice none 0 0] 68)) (w1.heap.size + 3) (w1.heap.size + 2) w1.heap.size (w1.heap.size + 1) (.slice a l.length c) t 0 [] [] 0 0 (.slice none 0 0) w' := by
      intro w1 hB1
      have hBs := hB1.size
      have hl2 := hl.below (balloc (balloc (balloc hB1 (.map #[] 0)) (.map #[] 0)) (.cells #[.slice a l.length c, .int .i64 0, .map (some w1.heap.size), .map (some (w1.heap.size + 1)), .slice none 0 0] 68))
      have hlt : (Tr.flat t).length ≤ 4096 := by rw [← he]; exact hlen
      exact part_any l hf hlen hmay _ w.heap.size _ _ _ _ hv ⟨by omega, by omega, by omega, by omega⟩ _ t 0 _ [] [] 0 0 _ (Nat.le_refl _) ⟨hw, ⟨[], by rw [List.drop_zero, List.append_nil]; exact he⟩, hl2, FS.made w1 _, by omega, by omega, by simp; omega, by simp; omega⟩
    clear h0 he
    go_enter Tryz.func14, Tryz.ntmps14
    go_wp2_with (go_at_call 11; refine hc.mono ?_; rintro e w1 ⟨rfl, hB1⟩)
    refine (hpt w1 hB1).mono ?_
    rintro e w3 ⟨rfl, fv, hfs3, hkf3⟩
    obtain ⟨d0, d1, d2, d3, d4⟩ := hfs3.blk.c
    have hrow := hfs3.row
    obtain ⟨fa, fc, rfl⟩ := own_len hrow
    have hBs := hB1.size
    have hB3 : Below w.heap.size w w3 := (balloc (balloc (balloc hB1 _) _) _).trans (hkf3.low (R := w1.heap.size + 3) (B0 := w.heap.size) ⟨by omega, by omega, by omega, by omega⟩ (by simp; omega) (fun k h => by simp [Value.ownBlock] at h))
    go_wp2_with fail
    go_ret
    exact ⟨_, Tr.free t, rfl, HR.out _ rfl, own_mono hrow (by have := hB1.size; omega), hB3⟩
  · have HR : Aside (freeN l []) := .inl ⟨h0, rfl⟩
    have h0' : (((chkN l).1 : Int) != 0) = true := by simpa using h0
    go_enter Tryz.func14, Tryz.ntmps14
    go_wp2_with (go_at_call 11; refine hc.mono ?_; rintro e w1 ⟨rfl, hB1⟩)
    go_ret
    exact ⟨_, [], rfl, HR.out, own_nil _ _ _ _, hB1⟩
end Go.Proofs.YtkcehgpcimlamabGreatDoor
