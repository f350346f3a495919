/- InsertChecks, plain: the term's nodes fit; which labels have been seen; a row of bools; a row of sites. -/
import Derived.Test.YthdlfeejeboboaaGreatDoorUbj
import Derived.Test.YthdlfeejeboboaaGreatDoorUbs
import Derived.Test.YthdlfeejeboboaaGreatDoorUbu
namespace Go.Proofs.YthdlfeejeboboaaGreatDoor
open Go.RowKit Ck
open T3.Tp (Ty enc cns met sta)
open Tr (T Nd nm flat flats wf)
set_option maxRecDepth 100000
set_option linter.unusedVariables false
set_option linter.unusedSimpArgs false

theorem Ex.one {l : List Tr.Nd} {N Th : List (List UInt8)} {r r' : List (List UInt8)} {er er' p p' : Int} (hx : Ex l N Th r er p) (hy : Ex l N Th r' er' p') : r = r' ∧ er = er' := by
  cases hy with
  | arg h =>
    cases hx with
    | arg h' => exact ⟨rfl, rfl⟩
    | tree h' => rw [h] at h'; cases h'
    | bad h' => rw [h] at h'; cases h'
    | good h' => rw [h] at h'; cases h'
  | tree h h1 =>
    cases hx with
    | arg h' => rw [h] at h'; cases h'
    | tree h' => exact ⟨rfl, rfl⟩
    | bad h' h2 => exact absurd h2 h1
    | good h' h2 => exact absurd h2 h1
  | bad h h1 ts t h2 h3 h4 h5 q h6 h7 =>
    obtain ⟨e1, e2, _⟩ := Ex.err h h3 h1 h4 h5 h6 hx
    exact ⟨e1, e2⟩
  | good h h1 ts t h2 h3 h4 h5 a h6 h7 h8 =>
    obtain ⟨e1, e2, _⟩ := Ex.ok h h3 h1 h4 h5 h6 hx
    exact ⟨e1, e2⟩
namespace In
def Q (x : Nd) : Prop := (Lit.int .i8 x.kind).wf = true ∧ x.kids ≤ 9223372036854775807 ∧ (x.kind ≠ 30 → -9223372036854775808 ≤ x.n ∧ x.n ≤ 9223372036854775807) ∧ x.s.size ≤ maxLen
def Q0 (x : Nd) : Prop := (Lit.int .i8 x.kind).wf = true ∧ x.kids ≤ 9223372036854775807 ∧ (-9223372036854775808 ≤ x.n ∧ x.n ≤ 9223372036854775807) ∧ x.s.size ≤ maxLen
theorem fold_q {x : Nd} {kx : List Nd} {tk : List Ty} : ∀ (ws : List (Nat × Ty × Int)) (st : List PT × List Si), (∀ y ∈ terms st.1, Q y) → ∀ y ∈ terms (ws.foldl (wish x tk kx) st).1, Q y
  | [], st, h => h
  | w :: r, st, h => by
    rw [List.foldl_cons]
    refine fold_q r _ ?_
    unfold wish
    split
    · exact h
    · intro y hy
      rcases mem_mod hy with rfl | hy
      · exact ⟨by simp only [castN]; decide, by simp [castN], fun e => absurd rfl e, by simp [castN, ByteArray.size]⟩
      · exact h y hy
theorem dist_le (L : List (List UInt8)) (a : List UInt8) : dist [] L a ≤ L.length := by
  unfold dist
  split
  · omega
  · have : outer [] a = 0 := by
      unfold outer
      split
      · simp
      · rfl
    omega
theorem inn_len (x : Nd) (j : Nat) (L : List (List UInt8)) : (inn x j L).length ≤ L.length + 2 := by
  unfold inn within
  split
  · omega
  · split
    · simp
    · split <;> simp
theorem nodeP_q (L : List (List UInt8)) (τ : Ty) (x : Nd) (hL : L.length ≤ 1000000) (h : Q0 x) : ∀ y ∈ nodeP [] L τ x, Q y := by
  obtain ⟨h1, h2, h3, h4⟩ := h
  have hd := dist_le L (nm x)
  have hz : (⟨#[]⟩ : ByteArray).size ≤ maxLen := by simp [ByteArray.size]
  intro y hy
  unfold nodeP at hy
  split at hy
  · simp at hy
  · rw [List.mem_singleton] at hy
    subst hy
    repeat' split
    all_goals first
      | exact ⟨h1, h2, fun _ => h3, hz⟩
      | exact ⟨h1, h2, fun _ => ⟨by show (_ : Int) ≤ 0; omega, by show (0 : Int) ≤ _; omega⟩, h4⟩
      | exact ⟨h1, h2, fun _ => ⟨by show (_ : Int) ≤ 0; omega, by show (0 : Int) ≤ _; omega⟩, hz⟩
      | exact ⟨h1, h2, fun _ => ⟨by show (_ : Int) ≤ ((dist [] L (nm x) : Nat) : Int); omega, by show ((dist [] L (nm x) : Nat) : Int) ≤ _; omega⟩, hz⟩
mutual
theorem q_T (ts : List Ty) : ∀ (t : T) (L : List (List UInt8)) (i : Nat) (ss : List Si), L.length + 2 * (flat t).length ≤ 1000000 → (∀ y ∈ flat t, Q0 y) → ∀ y ∈ term (inT [] ts L t i ss).1, Q y
  | .nd x ks, L, i, ss, hb, h => by
    rw [inT]
    simp only [term]
    intro y hy
    rcases List.mem_append.1 hy with hy | hy
    · exact nodeP_q L _ x (by omega) (h x (by simp [flat])) y hy
    · exact fold_q _ _ (q_L ts ks L x 0 (i + 1) ss (by simp [flat] at hb; omega) (fun z hz => h z (by simp [flat, hz]))) y hy
theorem q_L (ts : List Ty) : ∀ (ks : List T) (L : List (List UInt8)) (x : Nd) (j i : Nat) (ss : List Si), L.length + 2 + 2 * (flats ks).length ≤ 1000000 → (∀ y ∈ flats ks, Q0 y) → ∀ y ∈ terms (inL [] ts L x j ks i ss).1, Q y
  | [], L, x, j, i, ss, hb, h => by rw [inL]; simp [terms]
  | t :: r, L, x, j, i, ss, hb, h => by
    rw [inL]
    simp only [terms]
    have hi := inn_len x j L
    have hb' : L.length + 2 + 2 * ((flat t).length + (flats r).length) ≤ 1000000 := by simpa [flats] using hb
    intro y hy
    rcases List.mem_append.1 hy with hy | hy
    · exact q_T ts t (inn x j L) i ss (by omega) (fun z hz => h z (by simp [flats, hz])) y hy
    · exact q_L ts r L x (j + 1) _ _ (by omega) (fun z hz => h z (by simp [flats, hz])) y hy
end
theorem fitM {t : T} {ts : List Ty} {S : List Si} (hl : (flat t).length ≤ 2000) (h : ∀ y ∈ flat t, Q0 y) (hS : S.length ≤ 100000) (hL : Lb (term (inT [] ts [] t 0 []).1) [] S) : FitC (term (inT [] ts [] t 0 []).1) := by
  have hq := q_T ts t [] 0 [] (by simp; omega) h
  refine ⟨fun x hx => (hq x hx).1, fun x hx => (hq x hx).2.1, fun x hx => ?_, fun x hx => (hq x hx).2.2.2⟩
  by_cases hk : x.kind = 30
  · obtain ⟨k, f, u, r, e1, e2, _⟩ := hL.ok x hx hk
    have := (List.getElem?_eq_some_iff.1 e2).1
    rw [e1]
    omega
  · exact (hq x hx).2.2.1 hk

def seenB (M : List Nd) (k j : Nat) : Bool := decide (((j + 1 : Nat) : Int) ∈ lab (M.take k))
theorem seenB_zero (M : List Nd) (j : Nat) : seenB M 0 j = false := by simp [seenB, lab]
theorem lab_take {M : List Nd} {k : Nat} {y : Nd} (h : M[k]? = some y) : lab (M.take (k + 1)) = lab (M.take k) ++ lab [y] := by
  rw [List.take_add_one, h, lab_app]
  rfl
theorem seenB_no {M : List Nd} {k : Nat} {y : Nd} (h : M[k]? = some y) (hk : y.kind ≠ 30) (j : Nat) : seenB M (k + 1) j = seenB M k j := by
  unfold seenB
  have e1 : lab [y] = [] := by simp [lab, hk]
  rw [lab_take h, e1, List.append_nil]
theorem upTo_nodup (n : Nat) : (upTo 0 n).Nodup := by
  unfold upTo List.Nodup
  rw [List.pairwise_map]
  refine List.Pairwise.imp ?_ (List.nodup_range (n := n - 0))
  intro a b h e
  exact h (by omega)
theorem seenB_new {M : List Nd} {S : List Si} (hL : Lb M [] S) {k : Nat} {y : Nd} (h : M[k]? = some y) (hk : y.kind = 30) {j : Nat} (hj : y.n = ((j + 1 : Nat) : Int)) : seenB M k j = false := by
  have hn : (lab M).Nodup := hL.perm.nodup_iff.2 (upTo_nodup _)
  have e : lab M = lab (M.take (k + 1)) ++ lab (M.drop (k + 1)) := by rw [← lab_app, List.take_append_drop]
  rw [e, lab_take h] at hn
  have e1 : lab [y] = [y.n] := by simp [lab, hk]
  rw [e1] at hn
  have h2 := (List.nodup_append.1 (List.nodup_append.1 hn).1).2.2
  unfold seenB
  rw [decide_eq_false_iff_not]
  intro hm
  exact h2 _ hm y.n (by simp) hj.symm
theorem seenB_yes {M : List Nd} {k : Nat} {y : Nd} (h : M[k]? = some y) (hk : y.kind = 30) {j : Nat} (hj : y.n = ((j + 1 : Nat) : Int)) (i : Nat) : seenB M (k + 1) i = if i = j then true else seenB M k i := by
  unfold seenB
  rw [lab_take h]
  have e1 : lab [y] = [y.n] := by simp [lab, hk]
  rw [e1, hj]
  by_cases e : i = j
  · subst e; simp
  · rw [if_neg e]
    have : ((i + 1 : Nat) : Int) ≠ ((j + 1 : Nat) : Int) := by omega
    rw [decide_eq_decide]
    simp only [List.mem_append, List.mem_singleton, this, or_false]
theorem seenB_all {M : List Nd} {S : List Si} (hL : Lb M [] S) {j : Nat} (hj : j < S.length) : seenB M M.length j = true := by
  unfold seenB
  rw [List.take_length, decide_eq_true_iff]
  refine hL.perm.mem_iff.2 ?_
  unfold upTo
  refine List.mem_map.2 ⟨j, by simpa using hj, by simp⟩
theorem srow_get (m : ByteArray) : ∀ (ss : List Si) (j : Nat) (s : Si) (i : Nat), ss[j]? = some s → i < 5 → (srow m ss)[j * 5 + i]? = (scell m s)[i]?
  | [], j, s, i, h, _ => by simp at h
  | a :: r, 0, s, i, h, hi => by
    have e : srow m (a :: r) = scell m a ++ srow m r := by simp [srow]
    obtain rfl : a = s := by simpa using h
    rw [e, Nat.zero_mul, Nat.zero_add, List.getElem?_append_left (by simpa [scell] using hi)]
  | a :: r, j + 1, s, i, h, hi => by
    have e : srow m (a :: r) = scell m a ++ srow m r := by simp [srow]
    have hl : (scell m a).length = 5 := rfl
    rw [e, List.getElem?_append_right (by rw [hl]; omega), hl, show (j + 1) * 5 + i - 5 = j * 5 + i by omega]
    exact srow_get m r j s i (by simpa using h) hi
end In
def Sn (w : World) (sb n : Nat) (f : Nat → Bool) : Prop := ∃ C : Array Value, w.heap[sb]? = some (.cells C 4 (0, 0)) ∧ C.size = n ∧ ∀ j, j < n → C[j]? = some (.bool (f j))
theorem Sn.cell {w : World} {sb n : Nat} {f : Nat → Bool} (h : Sn w sb n f) {j : Nat} (hj : j < n) : w.cell? ⟨sb, j, none⟩ = some (.bool (f j)) := by
  obtain ⟨C, h1, h2, h3⟩ := h
  exact ((block_cells h1).1 j).trans (h3 j hj)
theorem Sn.frozen {w : World} {sb n : Nat} {f : Nat → Bool} (h : Sn w sb n f) (j : Nat) : w.frozen? ⟨sb, j, none⟩ = false := by
  obtain ⟨C, h1, h2, h3⟩ := h
  exact (block_cells h1).2 j
theorem Sn.lt {w : World} {sb n : Nat} {f : Nat → Bool} (h : Sn w sb n f) : sb < w.heap.size := by
  obtain ⟨C, h1, _⟩ := h
  exact (Array.getElem?_eq_some_iff.1 h1).1
theorem Sn.below {w w' : World} {sb n : Nat} {f : Nat → Bool} (h : Sn w sb n f) (hB : Below w.heap.size w w') : Sn w' sb n f := by
  have hlt := h.lt
  obtain ⟨C, h1, h2⟩ := h
  exact ⟨C, (hB.block sb hlt).trans h1, h2⟩
theorem Sn.congr {w : World} {sb n : Nat} {f g : Nat → Bool} (h : Sn w sb n f) (e : ∀ j, g j = f j) : Sn w sb n g := by
  obtain rfl : g = f := funext e
  exact h
theorem Sn.set {w : World} {sb n : Nat} {f g : Nat → Bool} (h : Sn w sb n f) {j : Nat} (hj : j < n) (e : ∀ i, g i = if i = j then true else f i) : Sn (w.setCell ⟨sb, j, none⟩ (.bool true)) sb n g := by
  obtain ⟨C, h1, h2, h3⟩ := h
  refine ⟨C.setIfInBounds j (.bool true), by simp [World.setCell, Array.getElem?_modify, h1], by simp [h2], fun i hi => ?_⟩
  rw [e, Array.getElem?_setIfInBounds]
  by_cases hij : i = j
  · subst hij; simp [h2, hj]
  · rw [if_neg (fun q => hij q.symm), if_neg hij]; exact h3 i hi
theorem infoBo : (Tryz.prog.info? 4).map (fun i => (i.zero, i.size, i.bytes)) = some (some (.bool false), 1, 1) := by kernel_rfl
theorem tyBools : Tryz.prog.underlying 67 = some (.slice 4) := by kernel_rfl
theorem make_bools (n : Nat) (hn : n ≤ 100000) (W : World) : (Instr.makeSlice 67 (.int .i64 (n : Int)) (.int .i64 (n : Int))).run Tryz.prog W = .ok (.slice (some ⟨W.heap.size, 0, none⟩) n n) (W.alloc (.cells (madeCells #[.bool false] n) 4)) := by
  obtain ⟨i, hi, hz, hs, hb⟩ := info_parts infoBo
  have := run_make (P := Tryz.prog) W 67 4 i _ tyBools hi hz .i64 .i64 n n (by omega) (by omega) (by rw [hb]; omega) (by omega)
  have hcell : (Value.bool false).cells = #[.bool false] := by first | rfl | decide | simp [Value.cells]
  rw [hs, hcell] at this
  simpa using this
theorem Sn.new (w : World) (n : Nat) (f : Nat → Bool) (hf : ∀ j, f j = false) : Sn (w.alloc (.cells (madeCells #[.bool false] n) 4)) w.heap.size n f := by
  refine ⟨madeCells #[.bool false] n, heap_alloc_new w _, by simp [size_madeCells], fun j hj => ?_⟩
  rw [hf]
  have hj' : j < (madeCells #[Value.bool false] n).size := by rw [size_madeCells]; exact hj
  rw [Array.getElem?_eq_getElem hj']
  simp [madeCells, Nat.mod_one]
theorem own_siteC {w : World} {base n : Nat} {v : Value} {md : ByteArray} {ss : List In.Si} (h : w.ownsRow base 75 5 v n (In.srow md ss)) (hn : n = ss.length) {j : Nat} {s : In.Si} (hj : ss[j]? = some s) :
    ∃ g cap, v = .slice (some ⟨g, 0, none⟩) n cap ∧ n ≤ cap ∧ g < w.heap.size ∧ w.cell? ⟨g, j * 5 + 2, none⟩ = some (.int .i64 s.ln) ∧ w.cell? ⟨g, j * 5 + 3, none⟩ = some (.int .i64 s.co) := by
  have hlt := (List.getElem?_eq_some_iff.1 hj).1
  obtain ⟨g, cap, hv, hc, _, hcell⟩ := own_cells h (by omega)
  refine ⟨g, cap, hv, hc, ?_, ?_, ?_⟩
  · exact (h.lt g (by rw [hv]; rfl)).2
  · exact (hcell (j * 5 + 2) (by omega)).trans (In.srow_get md ss j s 2 hj (by omega))
  · exact (hcell (j * 5 + 3) (by omega)).trans (In.srow_get md ss j s 3 hj (by omega))
end Go.Proofs.YthdlfeejeboboaaGreatDoor
