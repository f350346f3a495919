/- Of and Named, the program's and the document's. -/
import Derived.Test.YteaolcfpdhlohaaDoorLbE
namespace Go.Proofs.YteaolcfpdhlohaaDoor
open Go.RowKit
set_option maxRecDepth 100000
set_option linter.unusedSimpArgs false

theorem ret_text {a b : ByteArray} {k : Int} (h : a = b) : Ending.returned (.tuple #[.string a, .int .i64 k]) = .returned (.tuple #[.string b, .int .i64 k]) := by rw [h]

set_option maxHeartbeats 2000000 in
theorem of_none (l : List Lb.Si) (_ : l.length ≤ 2199023255552) (b : Int) (h : -9223372036854775808 ≤ b) (h' : b ≤ 9223372036854775807) (hs : Lb.site l b = none) (v : Value) (w : World) (hl : IsSites w v l) :
    Calls Tryd.prog 11 #[v, .int .i64 b] w fun e w' => e = .returned (.tuple #[.agg #[.string ⟨#[]⟩, .string ⟨#[]⟩, .int .i64 0, .int .i64 0, .int .i64 0], .int .i64 1]) ∧ Below w.heap.size w w' := by
  obtain ⟨a, c, rfl⟩ := hl.form
  have ht := side_any b h h'
  obtain ⟨r1, r2⟩ := Lb.lab_range h h'
  have hn := Lb.site_none h h' hs
  generalize Lb.lab b = n at *
  clear hs hl
  by_cases h0 : n = 0
  · subst h0
    go_enter Tryd.func11, Tryd.ntmps11
    go_wp2_with (go_at_call 9; refine (ht _).mono ?_; rintro e w' ⟨rfl, rfl⟩)
    exact bodyPost_ret (v := .tuple #[.agg #[.string ⟨#[]⟩, .string ⟨#[]⟩, .int .i64 0, .int .i64 0, .int .i64 0], .int .i64 1]) (by simp [results, Tryd.results11, go_sem]) rfl ⟨rfl, by repeat (first | exact Below.refl _ _ | refine bset ?_ | refine balloc ?_ _)⟩
  · have h0' : (n == 0) = false := by simpa using h0
    have h1 : ¬ n < 1 := by omega
    have h2 : (l.length : Int) < n := by omega
    go_enter Tryd.func11, Tryd.ntmps11
    go_wp2_with (go_at_call 9; refine (ht _).mono ?_; rintro e w' ⟨rfl, rfl⟩)
    exact bodyPost_ret (v := .tuple #[.agg #[.string ⟨#[]⟩, .string ⟨#[]⟩, .int .i64 0, .int .i64 0, .int .i64 0], .int .i64 1]) (by simp [results, Tryd.results11, go_sem]) rfl ⟨rfl, by repeat (first | exact Below.refl _ _ | refine bset ?_ | refine balloc ?_ _)⟩

set_option maxHeartbeats 2000000 in
theorem of_some (l : List Lb.Si) (hlen : l.length ≤ 2199023255552) (b : Int) (h : -9223372036854775808 ≤ b) (h' : b ≤ 9223372036854775807) (x : Lb.Si) (hs : Lb.site l b = some x) (v : Value) (w : World) (hl : IsSites w v l) :
    Calls Tryd.prog 11 #[v, .int .i64 b] w fun e w' => e = .returned (.tuple #[.agg #[.string x.m, .string x.e, .int .i64 x.ln, .int .i64 x.co, .int .i64 x.ru], .int .i64 0]) ∧ Below w.heap.size w w' := by
  obtain ⟨a, c, rfl⟩ := hl.form
  have ht := side_any b h h'
  obtain ⟨k, hk, hkl, hx⟩ := Lb.site_some h h' hs
  rw [hk] at ht
  clear hs hk
  obtain ⟨b1, o1, rfl, hc1, hl1, hcx⟩ := hl.at hx
  obtain ⟨p0, p1, p2, p3, p4⟩ := agg_cells (o := o1 + k * 5) hcx
  clear hcx hl hx
  have h0' : ((k : Int) + 1 == 0) = false := by simp; omega
  have h1 : ¬ (k : Int) + 1 < 1 := by omega
  have h2 : ¬ (l.length : Int) < (k : Int) + 1 := by omega
  have h3 : (k : Int) < (l.length : Int) := by omega
  have hk0 : (0 : Int) ≤ (k : Int) := by omega
  go_enter Tryd.func11, Tryd.ntmps11
  go_wp2_with (go_at_call 9; refine (ht _).mono ?_; rintro e w' ⟨rfl, rfl⟩)
  exact bodyPost_ret (v := .tuple #[.agg #[.string x.m, .string x.e, .int .i64 x.ln, .int .i64 x.co, .int .i64 x.ru], .int .i64 0]) (by simp [results, Tryd.results11, go_sem]) rfl ⟨rfl, by repeat (first | exact Below.refl _ _ | refine bset ?_ | refine balloc ?_ _)⟩

set_option maxHeartbeats 2000000 in
theorem refOf_none (l : List Lb.Si) (_ : l.length ≤ 2199023255552) (b : Int) (h : -9223372036854775808 ≤ b) (h' : b ≤ 9223372036854775807) (hs : Lb.site l b = none) (v : Value) (w : World) (hl : IsSites w v l) :
    Calls Tryd.prog 12 #[v, .int .i64 b] w fun e w' => e = .returned (.tuple #[.agg #[.string ⟨#[]⟩, .string ⟨#[]⟩, .int .i64 0, .int .i64 0, .int .i64 0], .int .i64 1]) ∧ Below w.heap.size w w' := by
  obtain ⟨a, c, rfl⟩ := hl.form
  have ht := refSide_any b h h'
  obtain ⟨r1, r2⟩ := Lb.lab_range h h'
  have hn := Lb.site_none h h' hs
  generalize Lb.lab b = n at *
  clear hs hl
  by_cases h0 : n = 0
  · subst h0
    go_enter Tryd.func12, Tryd.ntmps12
    go_wp2_with (go_at_call 10; refine (ht _).mono ?_; rintro e w' ⟨rfl, rfl⟩)
    exact bodyPost_ret (v := .tuple #[.agg #[.string ⟨#[]⟩, .string ⟨#[]⟩, .int .i64 0, .int .i64 0, .int .i64 0], .int .i64 1]) (by simp [results, Tryd.results12, go_sem]) rfl ⟨rfl, by repeat (first | exact Below.refl _ _ | refine bset ?_ | refine balloc ?_ _)⟩
  · have h0' : (n == 0) = false := by simpa using h0
    have h1 : ¬ n < 1 := by omega
    have h2 : (l.length : Int) < n := by omega
    go_enter Tryd.func12, Tryd.ntmps12
    go_wp2_with (go_at_call 10; refine (ht _).mono ?_; rintro e w' ⟨rfl, rfl⟩)
    exact bodyPost_ret (v := .tuple #[.agg #[.string ⟨#[]⟩, .string ⟨#[]⟩, .int .i64 0, .int .i64 0, .int .i64 0], .int .i64 1]) (by simp [results, Tryd.results12, go_sem]) rfl ⟨rfl, by repeat (first | exact Below.refl _ _ | refine bset ?_ | refine balloc ?_ _)⟩

set_option maxHeartbeats 2000000 in
theorem refOf_some (l : List Lb.Si) (hlen : l.length ≤ 2199023255552) (b : Int) (h : -9223372036854775808 ≤ b) (h' : b ≤ 9223372036854775807) (x : Lb.Si) (hs : Lb.site l b = some x) (v : Value) (w : World) (hl : IsSites w v l) :
    Calls Tryd.prog 12 #[v, .int .i64 b] w fun e w' => e = .returned (.tuple #[.agg #[.string x.m, .string x.e, .int .i64 x.ln, .int .i64 x.co, .int .i64 x.ru], .int .i64 0]) ∧ Below w.heap.size w w' := by
  obtain ⟨a, c, rfl⟩ := hl.form
  have ht := refSide_any b h h'
  obtain ⟨k, hk, hkl, hx⟩ := Lb.site_some h h' hs
  rw [hk] at ht
  clear hs hk
  obtain ⟨b1, o1, rfl, hc1, hl1, hcx⟩ := hl.at hx
  obtain ⟨p0, p1, p2, p3, p4⟩ := agg_cells (o := o1 + k * 5) hcx
  clear hcx hl hx
  have h0' : ((k : Int) + 1 == 0) = false := by simp; omega
  have h1 : ¬ (k : Int) + 1 < 1 := by omega
  have h2 : ¬ (l.length : Int) < (k : Int) + 1 := by omega
  have h3 : (k : Int) < (l.length : Int) := by omega
  have hk0 : (0 : Int) ≤ (k : Int) := by omega
  go_enter Tryd.func12, Tryd.ntmps12
  go_wp2_with (go_at_call 10; refine (ht _).mono ?_; rintro e w' ⟨rfl, rfl⟩)
  exact bodyPost_ret (v := .tuple #[.agg #[.string x.m, .string x.e, .int .i64 x.ln, .int .i64 x.co, .int .i64 x.ru], .int .i64 0]) (by simp [results, Tryd.results12, go_sem]) rfl ⟨rfl, by repeat (first | exact Below.refl _ _ | refine bset ?_ | refine balloc ?_ _)⟩
end Go.Proofs.YteaolcfpdhlohaaDoor
