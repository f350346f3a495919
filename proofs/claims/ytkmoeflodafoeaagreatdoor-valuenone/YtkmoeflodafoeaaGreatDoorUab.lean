/- Plain functions: what layer 2 of the document says Make answers. Nothing of the program is named here. -/
import Derived.Test.YtkmoeflodafoeaaGreatDoorUaa
namespace Go.Proofs.YtkmoeflodafoeaaGreatDoor.T3
namespace Tp

/-- The error of the first part that is no type; 0: all are. -/
def firstBad : List (List UInt8) → Nat
  | [] => 0
  | p :: r => if (chk p).1 = 0 then firstBad r else (chk p).1
theorem firstBad_app : ∀ (a b : List (List UInt8)), firstBad a = 0 → firstBad (a ++ b) = firstBad b
  | [], _, _ => rfl
  | p :: r, b, h => by
    unfold firstBad at h
    by_cases hp : (chk p).1 = 0
    · rw [if_pos hp] at h
      rw [List.cons_append, firstBad, if_pos hp, firstBad_app r b h]
    · rw [if_neg hp] at h
      exact absurd h hp
/-- P2.3: the error, and the type. -/
def mkF (h : UInt8) (ps : List (List UInt8)) : Nat × List UInt8 :=
  if ar h.toNat ≠ ps.length then (1, [])
  else if firstBad ps ≠ 0 then (firstBad ps, [])
  else if 64 < 1 + ps.flatten.length then (21, [])
  else (0, h :: ps.flatten)
theorem mk_arg {h : UInt8} {ps : List (List UInt8)} (e : ar h.toNat ≠ ps.length) : mkF h ps = (1, []) := by unfold mkF; rw [if_pos e]
theorem mk_bad {h : UInt8} {ps : List (List UInt8)} (e : ar h.toNat = ps.length) (e2 : firstBad ps ≠ 0) : mkF h ps = (firstBad ps, []) := by unfold mkF; rw [if_neg (by simpa using e), if_pos e2]
theorem mk_large {h : UInt8} {ps : List (List UInt8)} (e : ar h.toNat = ps.length) (e2 : firstBad ps = 0) (e3 : 64 < 1 + ps.flatten.length) : mkF h ps = (21, []) := by unfold mkF; rw [if_neg (by simpa using e), if_neg (by simpa using e2), if_pos e3]
theorem mk_ok {h : UInt8} {ps : List (List UInt8)} (e : ar h.toNat = ps.length) (e2 : firstBad ps = 0) (e3 : ¬ 64 < 1 + ps.flatten.length) : mkF h ps = (0, h :: ps.flatten) := by unfold mkF; rw [if_neg (by simpa using e), if_neg (by simpa using e2), if_neg e3]
theorem firstBad_encs : ∀ (ts : List Ty), (∀ t ∈ ts, (enc t).length ≤ 64) → firstBad (ts.map enc) = 0
  | [], _ => rfl
  | t :: ts, h => by
    rw [List.map_cons, firstBad, chk_enc t (h t (by simp)), if_pos rfl]
    exact firstBad_encs ts (fun u hu => h u (by simp [hu]))
theorem kid_len (t : Ty) : ∀ u ∈ kids t, (enc u).length < (enc t).length := by
  cases t <;> simp [kids, enc] <;> omega
theorem kid_high (t : Ty) : ∀ u ∈ kids t, high u < high t := by
  cases t <;> simp [kids, high] <;> omega
/-- Make of a type's head and parts is it. -/
theorem mk_parts (t : Ty) (h : (enc t).length ≤ 64) : mkF (hd t) ((kids t).map enc) = (0, enc t) := by
  have e : enc t = hd t :: ((kids t).map enc).flatten := enc_eq t
  rw [mk_ok (by rw [List.length_map]; exact ar_hd t) (firstBad_encs _ (fun u hu => by have := kid_len t u hu; omega)), ← e]
  rw [e] at h
  simpa [Nat.add_comm] using h
/-- What the program holds of a type that was read: nothing, if it is too large. -/
def val (t : Ty) : List UInt8 := if (enc t).length ≤ 64 then enc t else []
theorem val_len (t : Ty) : (val t).length ≤ 64 := by unfold val; split <;> simp_all
theorem chk_val (t : Ty) : ((chk (val t)).1 = 0) ↔ (enc t).length ≤ 64 := by
  unfold val
  split
  · rename_i h; simp [chk_enc t h, h]
  · rename_i h; simp [h, chk, beh]
theorem mk_len (h : UInt8) (ps : List (List UInt8)) : (mkF h ps).2.length ≤ 64 := by
  unfold mkF
  repeat' split
  all_goals simp at *
  omega
theorem made_val (t : Ty) : (mkF (hd t) ((kids t).map val)).2 = val t := by
  by_cases h : ∀ u ∈ kids t, (enc u).length ≤ 64
  · have hm : (kids t).map val = (kids t).map enc := List.map_congr_left (fun u hu => by simp [val, h u hu])
    rw [hm]
    have e : enc t = hd t :: ((kids t).map enc).flatten := enc_eq t
    by_cases h64 : (enc t).length ≤ 64
    · rw [mk_parts t h64]; simp [val, h64]
    · rw [mk_large (by rw [List.length_map]; exact ar_hd t) (firstBad_encs _ h)]
      · simp [val, h64]
      · rw [e] at h64; simp at h64 ⊢; omega
  · have h1 : ¬ (enc t).length ≤ 64 := fun h64 => h (fun u hu => by have := kid_len t u hu; omega)
    have hb : firstBad ((kids t).map val) ≠ 0 := by
      intro hb
      apply h
      clear h h1
      revert hb
      generalize kids t = ks
      induction ks with
      | nil => simp
      | cons a r ih =>
        intro hb u hu
        rw [List.map_cons, firstBad] at hb
        by_cases ha : (chk (val a)).1 = 0
        · rw [if_pos ha] at hb
          rcases List.mem_cons.1 hu with rfl | hu
          · exact (chk_val _).1 ha
          · exact ih hb u hu
        · rw [if_neg ha] at hb
          exact absurd hb ha
    rw [mk_bad (by rw [List.length_map]; exact ar_hd t) hb]
    simp [val, h1]
end Tp
end Go.Proofs.YtkmoeflodafoeaaGreatDoor.T3
