/- What the program's Looser answers. -/
import Derived.Test.YtgkmoifibcmooaaDoorRelF
namespace Go.Proofs.YtgkmoifibcmooaaDoor
open Go.RowKit
set_option maxRecDepth 100000

/-- What a step leaves: all old blocks but two. -/
structure Two (w w' : World) (B : Nat) (row : Option Nat) : Prop where
  os : w'.os = w.os
  tape : w'.tape = w.tape
  output : w'.output = w.output
  size : w.heap.size ≤ w'.heap.size
  block : ∀ k, k < w.heap.size → k ≠ B → some k ≠ row → w'.heap[k]? = w.heap[k]?
theorem Two.refl (w : World) (B : Nat) (row : Option Nat) : Two w w B row := ⟨rfl, rfl, rfl, Nat.le_refl _, fun _ _ _ _ => rfl⟩
theorem Two.below {w w1 w2 : World} {B : Nat} {row : Option Nat} (h : Two w w1 B row) (hB : Below w1.heap.size w1 w2) : Two w w2 B row :=
  ⟨hB.os.trans h.os, hB.tape.trans h.tape, hB.output.trans h.output, Nat.le_trans h.size hB.size, fun k hk h1 h2 => (hB.block k (Nat.lt_of_lt_of_le hk h.size)).trans (h.block k hk h1 h2)⟩
theorem Two.drew {w w1 : World} {B : Nat} {row : Option Nat} (h : Two w w1 B row) : Two w w1.drew B row := ⟨h.os, h.tape, h.output, h.size, h.block⟩
theorem Two.trans {w w1 w2 : World} {B : Nat} {r r1 : Option Nat} (h : Two w w1 B r) (k : Two w1 w2 B r1) (hr : r1 = r ∨ ∀ g, r1 = some g → w.heap.size ≤ g) : Two w w2 B r :=
  ⟨k.os.trans h.os, k.tape.trans h.tape, k.output.trans h.output, Nat.le_trans h.size k.size, fun x hx h1 h2 => by
    refine (k.block x (Nat.lt_of_lt_of_le hx h.size) h1 ?_).trans (h.block x hx h1 h2)
    rcases hr with rfl | hr
    · exact h2
    · intro e; have := hr x e.symm; omega⟩
theorem Two.cell {w w' : World} {B : Nat} {row : Option Nat} (h : Two w w' B row) {b o : Nat} {v : Value} (hb : b ≠ B) (hr : some b ≠ row) (hc : w.cell? ⟨b, o, none⟩ = some v) : w'.cell? ⟨b, o, none⟩ = some v := by
  have hl : b < w.heap.size := World.block_lt_of_cell? w _ hc
  exact (World.cell?_of_block (h.block b hl hb hr)).trans hc
theorem IsTexts.two {w w' : World} {B : Nat} {row : Option Nat} {a : Option Addr} {n c : Nat} {ps : List (List UInt8)} (h : IsTexts w (.slice a n c) ps) (hT : Two w w' B row) (hb : ∀ b o, a = some ⟨b, o, none⟩ → b ≠ B ∧ some b ≠ row) : IsTexts w' (.slice a n c) ps := by
  rcases h with h | ⟨b, o, c', h0, h1, h2, h3⟩
  · exact .inl h
  · obtain ⟨rfl, rfl, rfl⟩ : a = some ⟨b, o, none⟩ ∧ n = ps.length ∧ c = c' := by simpa using h0
    exact .inr ⟨b, o, c, rfl, h1, Nat.lt_of_lt_of_le h2 hT.size, fun j p hp => hT.cell (hb b o rfl).1 (hb b o rfl).2 (h3 j p hp)⟩

theorem enters19 : ∀ args w, (callFunc 19 args).run Tryd.prog w = .ok (.enter 19 args) w := enters_of Tryd.func19 (by kernel_rfl) rfl

/-- Where the list of steps lies, and what it holds. -/
structure Lst (w : World) (H L V : Nat) (v : Value) (ls : List (List UInt8)) : Prop where
  var : w.heap[L]? = some (.cells #[v] 23 (0, 0))
  row : w.ownsRow H 9 1 v ls.length (tcells ls)
  clo : w.cell? ⟨V, 0, none⟩ = some (.func (.func 19) #[] #[.pointer (some ⟨L, 0, none⟩), .pointer (some ⟨V, 0, none⟩)])
  ne : L ≠ V
  nL : v.ownBlock ≠ some L
  nV : v.ownBlock ≠ some V

theorem Lst.below {w w' : World} {H L V : Nat} {v : Value} {ls : List (List UInt8)} (h : Lst w H L V v ls) (hB : Below w.heap.size w w') : Lst w' H L V v ls :=
  ⟨(hB.block L (Array.getElem?_eq_some_iff.1 h.var).1).trans h.var, own_below h.row hB, (hB.cell (p := ⟨V, 0, none⟩) (World.block_lt_of_cell? w _ h.clo)).trans h.clo, h.ne, h.nL, h.nV⟩
theorem Lst.drew {w : World} {H L V : Nat} {v : Value} {ls : List (List UInt8)} (h : Lst w H L V v ls) : Lst w.drew H L V v ls := h.below (Below.refl _ _).drew

set_option maxHeartbeats 4000000 in
theorem visit_any (n : Nat) : ∀ (t : Tp.Ty) (pre post : List UInt8) (w : World) (H L V : Nat) (v : Value) (ls : List (List UInt8)), (Tp.enc t).length ≤ n → pre.length + (Tp.enc t).length + post.length ≤ 64 → ls.length + (Tp.enc t).length ≤ 64 → Lst w H L V v ls → H ≤ w.heap.size →
    Calls Tryd.prog 19 #[.string (S pre), .string (S (Tp.enc t)), .string (S post), .pointer (some ⟨L, 0, none⟩), .pointer (some ⟨V, 0, none⟩)] w fun e w' =>
      e = .returned (.tuple #[]) ∧ ∃ v', Lst w' H L V v' (ls ++ Tp.lo pre post t) ∧ Two w w' L v.ownBlock ∧ (v'.ownBlock = v.ownBlock ∨ ∀ g, v'.ownBlock = some g → w.heap.size ≤ g) := by
  induction n with
  | zero => intro t pre post w H L V v ls h; have := Tp.enc_pos t; omega
  | succ n ih =>
    intro t pre post w H L V v ls hn hsz hls hL hH
    have hg := ground_all t (by omega)
    obtain ⟨i0, hi, hz0, hz1, hz2⟩ := info_parts info9
    obtain ⟨va, vc, rfl⟩ := own_len hL.row
    have hLl : L < w.heap.size := (Array.getElem?_eq_some_iff.1 hL.var).1
    have hzp : (S pre).size = pre.length := S_size _
    have hzq : (S post).size = post.length := S_size _
    by_cases hgr : Tp.gr t = Tp.enc t
    · have HLO : Aside (Tp.lo pre post t = [pre ++ ([63] ++ post)]) := Tp.lo_ground hgr pre post
      have heq : ((S (Tp.gr t)).toList == (S (Tp.enc t)).toList) = true := by rw [hgr]; simp
      have e1 : S pre ++ (⟨#[63]⟩ : ByteArray) = S (pre ++ [63]) := S_add pre [63]
      have e2 : S (pre ++ [63]) ++ S post = S (pre ++ ([63] ++ post)) := by rw [S_add, List.append_assoc]
      have hz3 : (S (pre ++ [63])).size = pre.length + 1 := by rw [S_size]; simp
      clear ih hgr
      generalize S (Tp.gr t) = g at *
      generalize S (Tp.enc t) = s at *
      generalize hr : S (pre ++ ([63] ++ post)) = r at *
      generalize S (pre ++ [63]) = r1 at *
      generalize S pre = p at *
      generalize S post = q at *
      go_enter Tryd.func19, Tryd.ntmps19
      go_wp2_with (first | (go_at_call 20; refine (hg _).mono ?_; rintro e w1 ⟨rfl, hB1⟩; have hL1 := hL.below hB1; have hs1 := hB1.size; have c1 := (block_cells hL1.var).1 0; have c1' : w1.cell? ⟨L, 0, none⟩ = some (.slice va ls.length vc) := c1; clear c1) | (at_builtin; go_must (refine wpList_append_stays _ rfl _ _ 23 rfl H 9 i0 (.string ⟨#[]⟩) 16 ty23 hi hz0 hz1 hz2 rfl (.slice va ls.length vc) _ _ rfl (hL1.row.alloc _) ⟨w1.heap.size, 0, none⟩ 1 (.string r) rfl (cells_list_new _ [.string r] 9) rfl (by unfold maxLen; omega) (by omega) (by simp; omega) ?_); intro g2 cap w2 hown2 hst hloc; have hv2 := (hst.block L (by simp; omega) (fun e => hL1.nL e.symm)).trans ((Below.heap_alloc _ _ _ (show L < w1.heap.size by omega)).trans hL1.var); have c2 := (block_cells hv2).1 0; have c2' : w2.cell? ⟨L, 0, none⟩ = some (.slice va ls.length vc) := c2; have f2 := (block_cells hv2).2 0; clear c2))
      refine bodyPost_ret (v := .tuple #[]) (by simp [results, Tryd.results19, go_sem]) rfl ?_
      have hVl : V < w1.heap.size := World.block_lt_of_cell? w1 _ hL1.clo
      have hLl1 : L < w1.heap.size := by omega
      have hgL : g2 ≠ L := by
        rintro rfl
        rcases hloc with h | ⟨h, _⟩
        · exact hL.nL h
        · simp at h; omega
      have hgV : g2 ≠ V := by
        rintro rfl
        rcases hloc with h | ⟨h, _⟩
        · exact hL.nV h
        · simp at h; omega
      have hss := hst.size
      simp at hss
      refine ⟨rfl, .slice (some ⟨g2, 0, none⟩) (ls.length + 1) cap, ⟨?_, ?_, ?_, hL.ne, by simpa [Value.ownBlock] using hgL, by simpa [Value.ownBlock] using hgV⟩, ?_, ?_⟩
      · exact set_at hv2 0 _
      · rw [HLO.out, tcells_append, List.length_append]
        have : tcells [pre ++ ([63] ++ post)] = [.string r] := by rw [← hr]; rfl
        rw [this]
        exact own_set hown2 (by simpa [Value.ownBlock] using hgL) _
      · rw [World.cell?_of_block (Below.heap_setCell _ _ _ _ (by intro e; exact hL.ne e.symm))]
        rw [World.cell?_of_block (hst.block V (by simp; omega) (fun e => hL1.nV e.symm))]
        rw [World.cell?_of_block (Below.heap_alloc _ _ _ hVl)]
        exact hL1.clo
      · refine ⟨hst.os.trans hB1.os, hst.tape.trans hB1.tape, hst.output.trans hB1.output, by simp [World.setCell]; omega, fun k hk h1 h2 => ?_⟩
        rw [Below.heap_setCell _ _ _ _ (by intro e; exact h1 e), hst.block k (by simp; omega) h2, Below.heap_alloc _ _ _ (by omega)]
        exact hB1.block k hk
      · rcases hloc with h | ⟨h, _⟩
        · left; rw [h]; rfl
        · right
          intro g' hg'
          simp [Value.ownBlock] at hg'
          simp at h
          omega
    · have HLO : Aside (Tp.lo pre post t = Tp.los (pre ++ [Tp.hd t]) post (Tp.kids t)) := Tp.lo_kids hgr pre post
      have heq : ((S (Tp.gr t)).toList == (S (Tp.enc t)).toList) = false := by
        rw [toList_S, toList_S]; simpa using hgr
      have HE : Aside (Tp.enc t = Tp.hd t :: Tp.encs (Tp.kids t)) := Tp.enc_eq t
      have e1 : (S (Tp.enc t)).extract 0 1 = S [Tp.hd t] := by rw [S_cut, HE.out]; simp
      have e2 : (S (Tp.enc t)).extract 1 (S (Tp.enc t)).size = S (Tp.encs (Tp.kids t)) := by
        rw [S_cut, HE.out, S_size]; simp
      have e3 : S pre ++ S [Tp.hd t] = S (pre ++ [Tp.hd t]) := S_add _ _
      have hz5 : (S [Tp.hd t]).size = 1 := S_size _
      have hp1 : (1 : Int) ≤ ((S (Tp.enc t)).size : Int) := by rw [S_size, HE.out]; simp; omega
      have hkd := parts_yes t (by omega)
      have hkl := Tp.kid_len t
      have hk2 : (Tp.kids t).length ≤ 2 := by cases t <;> simp [Tp.kids]
      have henl : Aside ((Tp.enc t).length = 1 + (Tp.encs (Tp.kids t)).length) := by show _ = _; rw [HE.out]; simp; omega
      clear hgr
      generalize S (Tp.gr t) = g at *
      generalize S (Tp.enc t) = s at *
      generalize S [Tp.hd t] = r1 at *
      go_enter Tryd.func19, Tryd.ntmps19
      go_wp2_with (first | (go_at_call 20; refine (hg _).mono ?_; rintro e w1 ⟨rfl, hB1⟩))
      go_quiet (fail)
      go_wp2_with (first | (go_at_call 15; refine (hkd _).mono ?_; rintro e w2 ⟨v2, rfl, O2, hB2⟩; obtain ⟨ka, kc, rfl⟩ := own_len O2))
      have hs1 := hB1.size
      have hs2 : w1.heap.size ≤ w2.heap.size := hB2.size
      have T2 := own_at O2 (by simp)
      have hkb : ∀ b o, ka = some ⟨b, o, none⟩ → w.heap.size ≤ b ∧ b < w2.heap.size := by
        intro b o e
        subst e
        obtain ⟨_, ⟨h0, _⟩ | ⟨g', _, _, h0, hg', hh, _⟩⟩ := O2
        · cases h0
        · obtain ⟨⟨rfl, _⟩, _⟩ : (b = g' ∧ o = 0) ∧ _ := by simpa using h0
          have q : w1.heap.size ≤ b := hg'
          exact ⟨by omega, (Array.getElem?_eq_some_iff.1 hh).1⟩
      have hr0 : ∀ g, (Value.slice va ls.length vc).ownBlock = some g → g < w.heap.size := fun g hg => (own_lt hL.row hg).2
      have hL2 : Lst w2 H L V (.slice va ls.length vc) ls := Lst.below (w := w1) (Lst.below hL hB1) (by
        exact ⟨hB2.os, hB2.tape, hB2.output, hB2.size, hB2.block⟩)
      have hW2 : Two w w2 L (Value.slice va ls.length vc).ownBlock := (Two.below (Two.refl w _ _) hB1).below (by
        exact ⟨hB2.os, hB2.tape, hB2.output, hB2.size, hB2.block⟩)
      clear hkd hg O2
      go_loopg [0, 8, 31] (Tp.kids t).length (fun gh av rv cv wr => ∃ (ds ks : List Tp.Ty) (v' : Value) (X : List (List UInt8)), Aside (Tp.kids t = ds ++ ks) ∧ ks.length = gh ∧ av = .string (S (pre ++ [Tp.hd t] ++ Tp.encs ds)) ∧ rv = .string (S (Tp.encs ks)) ∧ cv = .int .i64 ds.length
        ∧ Lst wr H L V v' (ls ++ X) ∧ Two w wr L (Value.slice va ls.length vc).ownBlock ∧ (v'.ownBlock = (Value.slice va ls.length vc).ownBlock ∨ ∀ g, v'.ownBlock = some g → w2.heap.size ≤ g) ∧ IsTexts wr (.slice ka (Tp.kids t).length kc) ((Tp.kids t).map Tp.enc) ∧ w2.heap.size ≤ wr.heap.size ∧ X.length ≤ (Tp.encs ds).length
        ∧ Aside (Tp.los (pre ++ [Tp.hd t]) post (Tp.kids t) = X ++ Tp.los (pre ++ [Tp.hd t] ++ Tp.encs ds) post ks))
      case atStart => exact ⟨[], Tp.kids t, _, [], rfl, rfl, by simp [Tp.encs], rfl, rfl, by simpa using hL2, hW2, .inl rfl, T2, Nat.le_refl _, by simp, by show _ = _; simp [Tp.encs]⟩
      case round =>
        obtain ⟨ds, ks, v', X, HK, hg, rfl, rfl, rfl, hLr, hTr, hvr, hT, hsr, hX, HX⟩ := hrel
        cases ks with
        | nil =>
          have hd' : decide ((ds.length : Int) < ((Tp.kids t).length : Int)) = false := by
            have := congrArg List.length HK.out
            simp at this ⊢; omega
          have hd2 : decide (ds.length < (Tp.kids t).length) = false := by
            have := congrArg List.length HK.out
            simp at this ⊢; omega
          go_wp2_with fail
          go_end0
          refine ⟨rfl, v', ?_, hTr, ?_⟩
          · rw [HLO.out, HX.out]; simpa [Tp.los] using hLr
          · rcases hvr with h | h
            · exact .inl h
            · exact .inr (fun g hg => by have := h g hg; omega)
        | cons x ks =>
          have hlk : Aside ((Tp.kids t).length = ds.length + (ks.length + 1)) := by show _ = _; have := congrArg List.length HK.out; simpa using this
          have hd' : (ds.length : Int) < ((Tp.kids t).length : Int) := by have := hlk.out; omega
          have hd0 : (0 : Int) ≤ (ds.length : Int) := by omega
          have gx : (Tp.kids t)[ds.length]? = some x := by rw [HK.out]; simp
          have hxl := hkl x (List.mem_of_getElem? gx)
          obtain ⟨b, o, hka, hcap, hbl, hcx⟩ := hT.at (k := ds.length) (p := Tp.enc x) (by rw [List.getElem?_map, gx]; rfl)
          have hkbb := hkb b o hka
          have hencs : (Tp.encs (Tp.kids t)).length = (Tp.encs ds).length + ((Tp.enc x).length + (Tp.encs ks).length) := by rw [HK.out]; simp [Tp.encs]
          have hen := henl.out
          have q1 : (S (Tp.enc x)).size = (Tp.enc x).length := S_size _
          have q2 : (S (Tp.encs (x :: ks))).size = (Tp.enc x).length + (Tp.encs ks).length := by rw [S_size, Tp.encs_cons, List.length_append]
          have q3 : (S (Tp.encs (x :: ks))).extract (Tp.enc x).length ((Tp.enc x).length + (Tp.encs ks).length) = S (Tp.encs ks) := by
            rw [S_cut, Tp.encs_cons, List.drop_left' rfl, List.take_of_length_le (by omega)]
          have q4 : S (Tp.encs ks) ++ S post = S (Tp.encs ks ++ post) := S_add _ _
          have q5 : S (pre ++ [Tp.hd t] ++ Tp.encs ds) ++ S (Tp.enc x) = S (pre ++ [Tp.hd t] ++ Tp.encs (ds ++ [x])) := by rw [S_add]; simp [Tp.encs]
          have q6 : (S (Tp.encs ks)).size = (Tp.encs ks).length := S_size _
          have q7 : (S (pre ++ [Tp.hd t] ++ Tp.encs ds)).size = pre.length + 1 + (Tp.encs ds).length := by rw [S_size]; simp; omega
          have hrec := fun w => ih x (pre ++ [Tp.hd t] ++ Tp.encs ds) (Tp.encs ks ++ post) w H L V v' (ls ++ X) (by omega) (by simp; omega) (by simp; omega)
          have hclo := hLr.clo
          have HXX : Aside (Tp.los (pre ++ [Tp.hd t]) post (Tp.kids t) = (X ++ Tp.lo (pre ++ [Tp.hd t] ++ Tp.encs ds) (Tp.encs ks ++ post) x) ++ Tp.los (pre ++ [Tp.hd t] ++ Tp.encs (ds ++ [x])) post ks) := by
            show _ = _
            rw [HX.out, Tp.los, show Tp.encs (ds ++ [x]) = Tp.encs ds ++ Tp.enc x by simp [Tp.encs]]
            simp
          have hxx := Tp.lo_len (pre ++ [Tp.hd t] ++ Tp.encs ds) (Tp.encs ks ++ post) x
          have hed : (Tp.encs (ds ++ [x])).length = (Tp.encs ds).length + (Tp.enc x).length := by simp [Tp.encs]
          have e38 := enters19
          subst hka
          clear ih gx e2 e3
          generalize S (Tp.encs (x :: ks)) = R0 at *
          generalize S (pre ++ [Tp.hd t] ++ Tp.encs ds) = A0 at *
          generalize hA1 : S (pre ++ [Tp.hd t] ++ Tp.encs (ds ++ [x])) = A1 at *
          generalize S (Tp.encs ks ++ post) = RB at *
          generalize hR1 : S (Tp.encs ks) = R1 at *
          generalize S (Tp.enc x) = px at *
          generalize S post = q at *
          go_wp2_with fail
          refine (hrec _ hLr (by have := hTr.size; omega)).mono ?_
          rintro e w3 ⟨rfl, v3, hL3, hT3, hv3⟩
          go_wp2_with fail
          go_roundg ks.length
          case measure => simp at hg; omega
          case rel =>
            refine ⟨ds ++ [x], ks, v3, X ++ Tp.lo (pre ++ [Tp.hd t] ++ Tp.encs ds) (Tp.encs ks ++ post) x, by show _ = _; rw [HK.out]; simp, rfl, by rw [hA1], by rw [hR1], by simp, by rw [← List.append_assoc]; exact hL3, ?_, ?_, ?_, Nat.le_trans hsr hT3.size, by rw [List.length_append, hed]; omega, HXX⟩
            · refine hTr.trans hT3 ?_
              rcases hvr with h | h
              · exact .inl h
              · exact .inr (fun g hg => by have := h g hg; omega)
            · rcases hv3 with h | h
              · rcases hvr with h' | h'
                · exact .inl (h.trans h')
                · exact .inr (fun g hg => h' g (h ▸ hg))
              · exact .inr (fun g hg => by have := h g hg; omega)
            · refine hT.two hT3 ?_
              intro b' o' e'
              obtain ⟨⟨rfl, rfl⟩⟩ : (b = b' ∧ o = o') ∧ True := by simpa using e'
              refine ⟨by omega, ?_⟩
              intro e
              rcases hvr with h | h
              · rw [h] at e
                have := hr0 b e.symm
                omega
              · have := h b e.symm
                omega

theorem rcheck1 (w : World) (l : List UInt8) (W : World) (hW : W = w.alloc (.cells #[.string (S l)] 9)) (n : Nat) (hn : n = w.heap.size) : Calls Tryd.prog 13 #[.slice (some ⟨n, 0, none⟩) 1 1] W fun e w' => e = .returned (.int .i64 (Tp.firstBad [l])) ∧ w' = W := by
  subst hW hn
  exact rcheck_any _ [l] _ (texts1 w l) (by simp)

set_option maxHeartbeats 2000000 in
theorem looser_no (l : List UInt8) (h : (Tp.chk l).1 ≠ 0) (w : World) :
    Calls Tryd.prog 7 #[.string (S l)] w fun e w' => e = .returned (.slice none 0 0) ∧ Below w.heap.size w w' := by
  have hb' : ((Tp.firstBad [l] : Int) != 0) = true := by simp [Tp.firstBad, h]
  have hc := fun w => rcheck1 w l
  generalize S l = s at *
  go_enter Tryd.func7, Tryd.ntmps7
  go_wp2_with (go_at_call 13; refine (hc _ _ rfl _ (by simp)).mono ?_; rintro e w' ⟨rfl, rfl⟩)
  go_ret
  exact ⟨rfl, below_alloc _ _⟩

set_option maxHeartbeats 2000000 in
theorem looser_yes (t : Tp.Ty) (h : (Tp.enc t).length ≤ 64) (w : World) :
    Calls Tryd.prog 7 #[.string (S (Tp.enc t))] w fun e w' => ∃ v, e = .returned v ∧ w'.ownsRow w.heap.size 9 1 v (Tp.loo t).length (tcells ((Tp.loo t).map Tp.enc)) ∧ Below w.heap.size w w' := by
  have hg : Tp.firstBad [Tp.enc t] = 0 := by simp [Tp.firstBad, Tp.chk_enc t h]
  have hc := fun w => rcheck1 w (Tp.enc t)
  rw [hg] at hc
  have hV := fun w H L V v => visit_any 64 t [] [] w H L V v [] h (by simpa using h) (by simpa using h)
  have hlo : Tp.lo [] [] t = (Tp.loo t).map Tp.enc := by simp [Tp.lo]
  rw [hlo, List.nil_append, show S [] = ⟨#[]⟩ from rfl] at hV
  have e38 := enters19
  have hsf := store_func
  generalize S (Tp.enc t) = s at *
  go_enter Tryd.func7, Tryd.ntmps7
  go_wp2_with (first | (go_at_call 13; refine (hc _ _ rfl _ (by simp)).mono ?_; rintro e w' ⟨rfl, hw'⟩; replace hw' := hw'.symm; subst hw'))
  refine (hV _ w.heap.size _ _ (.slice none 0 0) ⟨?_, own_nil _ _ _ _, cell_new rfl (by simp), by omega, by simp [Value.ownBlock], by simp [Value.ownBlock]⟩ (by simp; omega)).mono ?_
  · rw [Below.heap_alloc _ _ _ (by simp)]
    have := heap_alloc_new (w.alloc (.cells #[.string s] 9)) (.cells #[.slice none 0 0] 23)
    simpa using this
  rintro e w' ⟨rfl, v', hL, hT, -⟩
  have c1 := (block_cells hL.var).1 0
  have c1' : w'.cell? ⟨w.heap.size + 1, 0, none⟩ = some v' := c1
  go_wp2_with fail
  go_ret
  refine ⟨v', rfl, by simpa using hL.row, ?_⟩
  have hs := hT.size
  simp at hs
  refine ⟨hT.os, hT.tape, hT.output, by omega, fun k hk => ?_⟩
  rw [hT.block k (by simp; omega) (by omega) (by simp [Value.ownBlock]), Below.heap_alloc _ _ _ (by simp; omega), Below.heap_alloc _ _ _ (by simp; omega), Below.heap_alloc _ _ _ hk]
end Go.Proofs.YtgkmoifibcmooaaDoor
