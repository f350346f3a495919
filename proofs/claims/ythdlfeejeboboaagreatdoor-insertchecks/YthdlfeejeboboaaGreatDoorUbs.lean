/- Package insert: Expr. -/
import Derived.Test.YthdlfeejeboboaaGreatDoorUbr
import Derived.Test.YthdlfeejeboboaaGreatDoorUbi
import Derived.Test.YthdlfeejeboboaaGreatDoorUbd
namespace Go.Proofs.YthdlfeejeboboaaGreatDoor
open Go.RowKit Go.Maps Ck
open T3.Tp (Ty enc cns met)
open Tr (T Nd nm flat flats)
set_option maxRecDepth 100000
set_option linter.unusedSimpArgs false
set_option linter.unusedVariables false

theorem results_tmp5 {fn : Func} {t u v x y : Tmp} (h : fn.results = #[.tmp t, .tmp u, .tmp v, .tmp x, .tmp y]) (tmps : Array Value) (P : Program) (w : World) :
    (results fn tmps).run P w = .ok (.tuple #[tmps.getD t undef, tmps.getD u undef, tmps.getD v undef, tmps.getD x undef, tmps.getD y undef]) w := by
  simp [results, h]
structure Ins (md : ByteArray) (l : List Nd) (N Th : List (List UInt8)) (ts : List Ty) (t : T) (a : List Ty) : Prop where
  nm : nameB md.data.toList = true
  env : envB N Th = true
  chk : (chkN l).1 = 0
  len : N.length = ts.length
  th : Th = ts.map enc
  wf : Tr.wf t
  fl : l = flat t
  ok : ckT (envOf N ts) t 0 = .ok a
  a64 : ∀ u ∈ a, (enc u).length ≤ 64
  al : a.length = l.length
theorem ex_zero {md : ByteArray} {l : List Nd} {N Th : List (List UInt8)} {r : List (List UInt8)} {er at' : Int} (hnm : nameB md.data.toList = true) (hx : Ex l N Th r er at') (h0 : er = 0) : ∃ ts t a, Ins md l N Th ts t a ∧ r = a.map enc ∧ at' = 0 := by
  cases hx with
  | arg h => simp at h0
  | tree h h1 => exact absurd (by omega) h1
  | bad h h1 ts t h2 h3 h4 h5 q h6 h7 => exact absurd h0 h7
  | good h h1 ts t h2 h3 h4 h5 a h6 h7 h8 => exact ⟨ts, t, a, ⟨hnm, h, h1, h2, h3, h4, h5, h6, h7, h8⟩, rfl, rfl⟩
def IxEnd (w : World) (md : ByteArray) (l : List Nd) (N Th : List (List UInt8)) (e : Ending) (w' : World) : Prop := Below w.heap.size w w' ∧
  ((∃ er at' : Int, er ≠ 0 ∧ e = .returned (.tuple #[.slice none 0 0, .string ⟨#[]⟩, .slice none 0 0, .int .i64 er, .int .i64 at']) ∧ ((nameB md.data.toList = false ∧ er = 1 ∧ at' = 0) ∨ (nameB md.data.toList = true ∧ ∃ r, Ex l N Th r er at'))) ∨
   ∃ (ts : List Ty) (t : T) (a : List Ty) (va vs : Value) (τ : Ty), Ins md l N Th ts t a ∧ a[0]? = some τ ∧ e = .returned (.tuple #[va, .string (S (enc τ)), vs, .int .i64 0, .int .i64 0]) ∧ w'.ownsRow w.heap.size 72 8 va (In.term (In.inT N a [] t 0 []).1).length (nrow (In.term (In.inT N a [] t 0 []).1)) ∧ w'.ownsRow w.heap.size 75 5 vs (In.inT N a [] t 0 []).2.length (In.srow md (In.inT N a [] t 0 []).2))

set_option maxHeartbeats 8000000 in
theorem iexpr_any (md : ByteArray) (hmd : md.size ≤ maxLen) (l : List Nd) (hf : Fits l) (hl : l.length ≤ 2000) (N Th : List (List UInt8)) (hN : N.length ≤ 1000) (hs : ∀ p ∈ N, p.length ≤ maxLen) (v vn vt : Value) (w : World) (hv : IsNodes w v l) (hn : T3.IsTexts w vn N) (ht : T3.IsTexts w vt Th) (hG : HasG w) (hg : 8 ≤ w.heap.size) :
    Calls Tryz.prog 9 #[.string md, v, vn, vt] w (IxEnd w md l N Th) := by
  have hnm := isName_any md hmd w
  have HEX : Aside (∀ W, Below w.heap.size w W → Calls Tryz.prog 19 #[v, vn, vt] W (ExEnd W l N Th)) := fun W hW => expr_any l hf N Th hN hs v vn vt W (hv.below hW) (txs_below hn hW) (txs_below ht hW) (hG.below hW) (Nat.le_trans hg hW.size)
  have HDI : Aside (∀ W, Below w.heap.size w W → Calls Tryz.prog 25 #[vn] W fun e w' => e = .returned (.map (some W.heap.size)) ∧ Idx w' W.heap.size N.length (farAt N N.length) ∧ Below W.heap.size W w') := fun W hW => distances_any N hN hs vn W (txs_below hn hW)
  have HV : Aside (IsNodes w v l) := hv
  have HSZ : Aside (∀ x ∈ l, x.s.size ≤ maxLen) := hf.str
  clear hv hn ht hG
  cases hb : nameB md.data.toList with
  | false =>
    rw [hb] at hnm
    have HNB : Aside (nameB md.data.toList = false) := hb
    clear hb
    go_enter Tryz.func9, Tryz.ntmps9
    go_wp2_with fail
    refine hnm.mono ?_
    rintro e w1 ⟨rfl, hB1⟩
    go_wp2_with fail
    try simp only [Exit.inBlock, Exit.then]
    refine bodyPost_ret (results_tmp5 rfl _ _ _) rfl ?_
    exact ⟨hB1, .inl ⟨1, 0, by decide, rfl, .inl ⟨HNB.out, rfl, rfl⟩⟩⟩
  | true =>
    rw [hb] at hnm
    have HNB : Aside (nameB md.data.toList = true) := hb
    clear hb
    go_enter Tryz.func9, Tryz.ntmps9
    go_wp2_with fail
    refine hnm.mono ?_
    rintro e w1 ⟨rfl, hB1⟩
    clear hnm
    go_wp2_with fail
    refine (HEX.out w1 hB1).mono ?_
    rintro e w2 ⟨hB2, ta, tn, tc, r, er, at', rfl, hx, hnr, htx, hlo, hrw⟩
    have HB2 : Aside (Below w.heap.size w w2) := hB1.trans (hB2.mono hB1.size)
    clear HEX
    by_cases her : er = 0
    · subst her
      obtain ⟨ts, t, a, hIns, rfl, rfl⟩ := ex_zero HNB.out hx rfl
      have hpos := Tr.flat_pos t
      have hlp : 0 < l.length := by rw [hIns.fl]; exact hpos
      have hap : 0 < a.length := by rw [hIns.al]; exact hlp
      obtain ⟨τ, hτ⟩ : ∃ τ, a[0]? = some τ := ⟨_, List.getElem?_eq_getElem hap⟩
      obtain ⟨nb, no, nc, rfl, hnb, hnbl⟩ : ∃ nb no nc, v = .slice (some ⟨nb, no, none⟩) l.length nc ∧ l.length ≤ nc ∧ nb < w.heap.size := by
        rcases HV.out with ⟨h0, _⟩ | ⟨b, o, c, h1, h2, h3, _⟩
        · rw [h0] at hlp; simp at hlp
        · exact ⟨b, o, c, h1, h2, h3⟩
      obtain ⟨tb, to', rfl, htc, htb, hty⟩ := txs_at htx (k := 0) (p := enc τ) (by rw [List.getElem?_map, hτ]; rfl)
      have htlo := hlo tb to' rfl
      obtain rfl : tn = a.length := by simpa using hnr
      obtain ⟨_, hwt, hft, hmay, _, _⟩ := chk_tree hIns.chk
      have hgd : In.Gd a t 0 := In.gd_T a t (envOf N ts) 0 a hIns.wf (fun x hx => hmay x (by rw [hIns.fl]; exact hx)) hIns.ok (fun j u hu => by rw [Nat.zero_add]; exact hu)
      have hb1 := hB1.size
      have hb2 := hB2.size
      obtain ⟨q, hq⟩ : ∃ q, q = In.inT N a [] t 0 [] := ⟨_, rfl⟩
      have HFIN : Aside (∀ (w3 W4 : World) (ib : Nat), Idx w3 w2.heap.size N.length (farAt N N.length) → Below w2.heap.size w2 w3 → ib = w3.heap.size → W4 = w3.alloc (.cells #[.string md, .slice (some ⟨nb, no, none⟩) l.length nc, .slice (some ⟨tb, to', none⟩) a.length tc, .map (some w2.heap.size), .int .i64 0, .slice none 0 0] 82) →
          Calls Tryz.prog 26 #[.pointer (some ⟨ib, 0, none⟩), .slice none 0 0] W4 fun e w5 => ∃ b sv, e = .returned (.pointer (some ⟨b, 0, none⟩)) ∧ w5.cell? ⟨ib, 5, none⟩ = some sv ∧ (∃ sa sc, sv = .slice sa q.2.length sc) ∧ w5.cell? ⟨tb, to', none⟩ = some (.string (S (enc τ))) ∧ ib < w5.heap.size ∧ tb < w5.heap.size ∧
            Calls Tryz.prog 27 #[.pointer (some ⟨b, 0, none⟩), .slice none 0 0] w5.drew (fun e w6 => ∃ va, e = .returned va ∧ w6.cell? ⟨ib, 5, none⟩ = some sv ∧ w6.cell? ⟨tb, to', none⟩ = some (.string (S (enc τ))) ∧ (∃ ca cc, va = .slice ca (In.term q.1).length cc) ∧ IxEnd w md l N Th (.returned (.tuple #[va, .string (S (enc τ)), sv, .int .i64 0, .int .i64 0])) w6)) := fun w3 W4 ib hI3 hB3 hib hW4 => by
        have hb3 := hB3.size
        have B4 : Below w3.heap.size w3 W4 := by rw [hW4]; exact (Below.refl _ _).alloc (Nat.le_refl _) _
        have z4 : W4.heap.size = ib + 1 := by rw [hW4, hib]; simp
        have k4 : W4.heap[ib]? = some (.cells #[.string md, .slice (some ⟨nb, no, none⟩) l.length nc, .slice (some ⟨tb, to', none⟩) a.length tc, .map (some w2.heap.size), .int .i64 0, .slice none 0 0] 82 (0, 0)) := by rw [hW4, hib]; exact heap_alloc_new _ _
        have B24 : Below w2.heap.size w2 W4 := hB3.trans (B4.mono hb3)
        have Bw4 : Below w.heap.size w W4 := HB2.out.trans (B24.mono HB2.out.size)
        have hIs : In.Is (ib + 1) W4 ib (.slice none 0 0) md (.slice (some ⟨nb, no, none⟩) l.length nc) (.slice (some ⟨tb, to', none⟩) a.length tc) l a N w2.heap.size 0 [] := by
          have hfb : w2.heap.size < w3.heap.size := hI3.lt
          refine ⟨k4, HV.out.below Bw4, fun b o n c e => by cases e; omega, txs_below htx B24, fun b o n c e => by cases e; omega, hI3.kept ⟨B4.os, B4.tape, B4.output, B4.size, fun k hk _ => B4.block k hk⟩ (by simp : some w2.heap.size ≠ none), ⟨by simp [In.srow], .inl ⟨rfl, rfl⟩⟩, ⟨by omega, by omega, by omega⟩, fun b o n c e => by cases e; omega, fun b o n c e => by cases e; omega, by omega⟩
        have hcall := ipart_any (ib + 1) ib w2.heap.size md _ _ l a N hmay HSZ.out hl hIns.a64 hN (flat t).length t 0 [] [] W4 (.slice none 0 0) (.slice none 0 0) [] (Nat.le_refl _) hIns.wf (by rw [List.drop_zero, List.append_nil]; exact hIns.fl) hgd (by simp) (by simp) hIs (.inl ⟨rfl, rfl⟩)
        rw [← hq] at hcall
        refine hcall.mono ?_
        rintro e w5 ⟨b, sv, rfl, hPT, hIs5, hF5⟩
        have hb5 := hF5.size
        have low : ∀ k, k < ib → w5.heap[k]? = W4.heap[k]? := fun k hk => hF5.block k (by omega) (by omega) (.inl (by omega))
        have Bw5 : Below w.heap.size w w5 := ⟨hF5.os.trans Bw4.os, hF5.tape.trans Bw4.tape, hF5.output.trans Bw4.output, Nat.le_trans Bw4.size hb5, fun k hk => (low k (by omega)).trans (Bw4.block k hk)⟩
        have ht5 : w5.cell? ⟨tb, to', none⟩ = some (.string (S (enc τ))) := (World.cell?_of_block (a := ⟨tb, to', none⟩) (low tb (by omega))).trans ((B24.cell (p := ⟨tb, to', none⟩) htb).trans hty)
        obtain ⟨_, _, _, _, _, c5, _⟩ := hIs5.cells
        obtain ⟨sa, sc, rfl⟩ := own_len hIs5.own
        obtain ⟨z1, z2, z3⟩ := In.size_T N a t [] 0 []
        have z5 := In.sites_T N a t [] 0 []
        rw [← hq] at z1 z2 z3 z5
        have hft2 : (flat t).length ≤ 2000 := by rw [← hIns.fl]; exact hl
        have Bd : Below w5.heap.size w5 w5.drew := ⟨rfl, rfl, rfl, Nat.le_refl _, fun _ _ => rfl⟩
        have hterm := term_any w5.drew (flat t).length q.1 W4.heap.size w5.heap.size b (.slice none 0 0) [] w5.drew (by omega) (z2 (by omega)) (In.isPT_keep _ hPT (In.Kp.below Bd)) (Below.refl _ _) ⟨by simp [nrow], .inl ⟨rfl, rfl⟩⟩ (by simp at z3 z5 ⊢; omega) (by omega)
        refine ⟨b, _, rfl, c5, ⟨sa, sc, rfl⟩, ht5, by omega, by omega, hterm.mono ?_⟩
        rintro e w6 ⟨va, rfl, ho6, hB6⟩
        rw [List.nil_append] at ho6
        have hB6' : Below w5.heap.size w5 w6 := ⟨hB6.os, hB6.tape, hB6.output, hB6.size, hB6.block⟩
        have hB6s : w5.heap.size ≤ w6.heap.size := hB6'.size
        obtain ⟨ca, cc, rfl⟩ := own_len ho6
        refine ⟨_, rfl, (hB6'.cell (p := ⟨ib, 5, none⟩) (by show ib < _; omega)).trans c5, (hB6'.cell (p := ⟨tb, to', none⟩) (by show tb < _; omega)).trans ht5, ⟨ca, cc, rfl⟩, Bw5.trans (hB6'.mono Bw5.size), .inr ⟨ts, t, a, _, _, τ, hIns, hτ, rfl, ?_, ?_⟩⟩
        · rw [← hq]
          exact own_low ho6 Bw5.size
        · rw [← hq]
          exact own_low (own_keepG hIs5.own fun g cur _ hc => hB6'.block g (Array.getElem?_eq_some_iff.1 hc).1) (by omega)
      have h0t : (0 : Int) < (a.length : Int) := by omega
      clear hx htx hlo hrw hty hIns hgd hmay hft hwt hτ hnr HV hq
      generalize S (enc τ) = sτ at *
      go_wp2_with fail
      refine (HDI.out w2 HB2.out).mono ?_
      rintro e w3 ⟨rfl, hI3, hB3⟩
      have hcall := HFIN.out w3 _ _ hI3 hB3 rfl rfl
      clear HDI HFIN hI3 hB3
      go_wp2_with fail
      refine hcall.mono ?_
      rintro e w5 ⟨b, sv, rfl, c5, ⟨sa, sc, rfl⟩, t5, l5, l6, hterm⟩
      clear hcall
      go_wp2_with fail
      go_region_held3 (fun W => W.cell? ⟨w3.heap.size, 5, none⟩ = some (.slice sa q.2.length sc) ∧ W.cell? ⟨tb, to', none⟩ = some (.string sτ)) (first | exact ⟨s5, s6⟩ | exact ⟨c5, t5⟩ | go_keep) (first | (go_at_call 27; refine hterm.mono ?_; rintro e w6 ⟨va, rfl, s5, s6, ⟨ca, cc, rfl⟩, hEnd⟩))
      all_goals
        go_wp2_with fail
        try simp only [Exit.inBlock, Exit.then]
        refine bodyPost_ret (results_tmp5 rfl _ _ _) rfl ?_
        exact hEnd
    · have her' : (er != 0) = true := by simpa using her
      have HX : Aside (∃ r, Ex l N Th r er at') := ⟨r, hx⟩
      clear hx htx hlo hrw hB1 hB2
      go_wp2_with fail
      try simp only [Exit.inBlock, Exit.then]
      refine bodyPost_ret (results_tmp5 rfl _ _ _) rfl ?_
      exact ⟨HB2.out, .inl ⟨er, at', her, rfl, .inr ⟨HNB.out, HX.out⟩⟩⟩
end Go.Proofs.YthdlfeejeboboaaGreatDoor
