/- Which nodes a reading makes. Plain functions on tokens: the modules that layer 6 of the document reads, and the limits that are passed on the way. Nothing of the program is named here. The program's tree: an expression as a list of nodes, with the limits that it passes. What the program says behind a reading: is there more, was a limit passed? What the program says behind a reading: was a limit passed? Where readings of imports, defs, modules end; how many nodes there are. The tokens of a source, as the parser holds them. -/
import Derived.Test.YtohjfikjbeafiaaGreatDoorGai
import Derived.Test.YtohjfikjbeafiaaGreatDoorGar
import Derived.Deep.RegionWith
import Derived.Test.YtohjfikjbeafiaaGreatDoorGac
namespace Go.Proofs.YtohjfikjbeafiaaGreatDoor
namespace Ps
open Tr (T Nd)
/-- Kinds whose nodes tell nothing but their kids. -/
def bare (kind : Int) (m : Nat) : Prop := (kind = 7 ∧ m = 2) ∨ (kind = 9 ∧ m = 3) ∨ (10 ≤ kind ∧ kind ≤ 15 ∧ m = 2) ∨ (kind = 16 ∧ m = 1) ∨ (kind = 17 ∧ m = 1) ∨ (kind = 18 ∧ m = 2) ∨ (kind = 19 ∧ m = 1) ∨ (kind = 20 ∧ m = 1) ∨ (22 ≤ kind ∧ kind ≤ 24 ∧ m = 1) ∨ (kind = 25 ∧ m = 2) ∨ (kind = 26 ∧ m = 1) ∨ (kind = 27 ∧ m = 1) ∨ (kind = 28 ∧ m = 2) ∨ kind = 21
/-- A node that is made above so many kids (g: no type was too large). -/
inductive Made (L : List PT) (e : PT) (g : Prop) : Nd → Nat → Prop
  | num (k : Nat) (h : kd L k = 3) : Made L e g { mkN 1 0 (tok L e k) with n := (tok L e k).n, s := bs (tok L e k).s } 0
  | str (k : Nat) (h : kd L k = 4) : Made L e g { mkN 2 0 (tok L e k) with n := (tok L e k).n, s := bs (tok L e k).s } 0
  | var (k : Nat) (h : kd L k = 2) : Made L e g { mkN 4 0 (tok L e k) with n := (tok L e k).n, s := bs (tok L e k).s } 0
  | truth (p : PT) (n : Int) (h : n = 0 ∨ n = 1) : Made L e g { mkN 3 0 p with n := n } 0
  | fn (p : PT) (k : Nat) (t u : Option T2.Tp.Ty) (h : kd L k = 2) : Made L e g { mkN 5 1 p with s := bs ([] ++ (tok L e k).s), t := bs (valA t), u := bs (valA u) } 1
  | rc (p : PT) (i k : Nat) (t u : Option T2.Tp.Ty) (hi : kd L i = 2) (h : kd L k = 2) : Made L e g { mkN 6 1 p with s := bs ((tok L e i).s ++ [32] ++ (tok L e k).s), t := bs (valA t), u := bs (valA u) } 1
  | lt (p : PT) (k : Nat) (t : Option T2.Tp.Ty) (h : kd L k = 2) : Made L e g { mkN 8 2 p with s := bs (tok L e k).s, t := bs (valA t) } 2
  | as (p : PT) (t : T2.Tp.Ty) (h : g → (T2.Tp.enc t).length ≤ 64) : Made L e g { mkN 29 1 p with t := bs (T2.Tp.val t) } 1
  | bare (p : PT) (kind : Int) (m : Nat) (h : bare kind m) : Made L e g (mkN kind m p) m
inductive AllM (L : List PT) (e : PT) (g : Prop) : T → Prop
  | mk (x : Nd) (ks : List T) (h : Made L e g x ks.length) (hk : ∀ t ∈ ks, AllM L e g t) : AllM L e g (.nd x ks)
theorem Made.mono {L : List PT} {e : PT} {g g' : Prop} {x : Nd} {m : Nat} (h : Made L e g x m) (hg : g' → g) : Made L e g' x m := by
  cases h with
  | num k h => exact .num k h
  | str k h => exact .str k h
  | var k h => exact .var k h
  | truth p n h => exact .truth p n h
  | fn p k t u h => exact .fn p k t u h
  | rc p i k t u hi h => exact .rc p i k t u hi h
  | lt p k t h => exact .lt p k t h
  | «as» p t h => exact .as p t (fun q => h (hg q))
  | bare p kind m h => exact .bare p kind _ h
theorem AllM.mono {L : List PT} {e : PT} {g g' : Prop} {t : T} (h : AllM L e g t) (hg : g' → g) : AllM L e g' t := by
  induction h with
  | mk x ks h _ ih => exact .mk x ks (h.mono hg) ih
theorem Made.kids {L : List PT} {e : PT} {g : Prop} {x : Nd} {m : Nat} (h : Made L e g x m) : x.kids = m := by cases h <;> rfl
theorem wfs_of : ∀ (ks : List T), (∀ t ∈ ks, Tr.wf t) → Tr.wfs ks
  | [], _ => trivial
  | t :: r, h => ⟨h t (by simp), wfs_of r fun u hu => h u (by simp [hu])⟩
theorem AllM.wf {L : List PT} {e : PT} {g : Prop} {t : T} (h : AllM L e g t) : Tr.wf t := by
  induction h with
  | mk x ks h _ ih => exact ⟨h.kids, wfs_of ks ih⟩
theorem flats_mem : ∀ (ks : List T) (x : Nd), x ∈ Tr.flats ks → ∃ t ∈ ks, x ∈ Tr.flat t
  | [], x, h => by simp [Tr.flats] at h
  | t :: r, x, h => by
    rw [Tr.flats, List.mem_append] at h
    rcases h with h | h
    · exact ⟨t, by simp, h⟩
    · obtain ⟨u, hu, hx⟩ := flats_mem r x h
      exact ⟨u, by simp [hu], hx⟩
theorem AllM.nodes {L : List PT} {e : PT} {g : Prop} {t : T} (h : AllM L e g t) : ∀ x ∈ Tr.flat t, ∃ m, Made L e g x m := by
  induction h with
  | mk x ks h _ ih =>
    intro y hy
    rw [Tr.flat, List.mem_cons] at hy
    rcases hy with rfl | hy
    · exact ⟨_, h⟩
    · obtain ⟨t, ht, hx⟩ := flats_mem ks y hy
      exact ih t ht y hx
section
variable {L : List PT} {e : PT}
def Gdl (L : List PT) (e : PT) (g : Prop) : Re T → Prop
  | .error _ => True
  | .ok (t, _, m) => AllM L e (g ∧ m = []) t
theorem Gdl.mono {g g' : Prop} {r : Re T} (h : Gdl L e g r) (hg : g' → g) : Gdl L e g' r := by
  cases r with
  | error j => trivial
  | ok q => obtain ⟨t, j, m⟩ := q; exact AllM.mono h fun ⟨a, b⟩ => ⟨hg a, b⟩
theorem bnd_gd {α : Type} {g : Prop} {r : Re α} {f : α → Nat → Re T} (h : ∀ a j l, r = .ok (a, j, l) → Gdl L e (g ∧ l = []) (f a j)) : Gdl L e g (bnd r f) := by
  cases r with
  | error j => trivial
  | ok q =>
    obtain ⟨a, j, l⟩ := q
    have := h a j l rfl
    unfold bnd
    simp only
    cases hf : f a j with
    | error i => trivial
    | ok q =>
      obtain ⟨t, i, m⟩ := q
      rw [hf] at this
      refine AllM.mono this ?_
      rintro ⟨h1, h2⟩
      simp at h2
      exact ⟨⟨h1, h2.1⟩, h2.2⟩
theorem Gdl.at {g : Prop} {r : Re T} {t : T} {j : Nat} {l : List Nat} (h : Gdl L e g r) (hr : r = .ok (t, j, l)) : AllM L e (g ∧ l = []) t := by rw [hr] at h; exact h
theorem ok_gd {g : Prop} {t : T} {j : Nat} (h : AllM L e g t) : Gdl L e g (.ok (t, j, [])) := AllM.mono h fun q => q.1
theorem nam_at {k j : Nat} {p : PT} {l : List Nat} (h : nam L e k = .ok (p, j, l)) : p = tok L e k ∧ kd L k = 2 := by
  unfold nam at h; split at h
  · rename_i hk; cases h; exact ⟨rfl, hk⟩
  · cases h
theorem wh_at {k j : Nat} {t : T2.Tp.Ty} {l : List Nat} (h : wh L k = .ok (t, j, l)) : l = [] → (T2.Tp.enc t).length ≤ 64 := by
  unfold wh at h
  cases hn : tyW' L k with
  | error i => rw [hn] at h; cases h
  | ok q =>
    obtain ⟨u, i⟩ := q
    rw [hn] at h
    simp only [Except.ok.injEq, Prod.mk.injEq] at h
    obtain ⟨rfl, _, rfl⟩ := h
    intro hl
    split at hl
    · assumption
    · cases hl
theorem two_all {g : Prop} {kind : Int} {p : PT} {a b : T} (hk : bare kind 2) (ha : AllM L e g a) (hb : AllM L e g b) : AllM L e g (two kind p a b) := .mk _ _ (.bare p kind 2 hk) (by simp; exact ⟨ha, hb⟩)
theorem one_all {g : Prop} {kind : Int} {p : PT} {a : T} (hk : bare kind 1) (ha : AllM L e g a) : AllM L e g (one kind p a) := .mk _ _ (.bare p kind 1 hk) (by simp; exact ha)
theorem sumK_bare {s : List UInt8} (h : sumK s ≠ 0) : bare (sumK s) 2 := by
  unfold sumK at *
  unfold bare
  repeat' split
  all_goals simp_all
theorem relK_bare {s : List UInt8} (h : relK s ≠ 0) : bare (relK s) 2 := by
  unfold relK at *
  unfold bare
  repeat' split
  all_goals simp_all
theorem appK_bare {s : List UInt8} (h : appK s ≠ 0) : bare (appK s) 1 := by
  unfold appK at *
  unfold bare
  repeat' split
  all_goals simp_all
abbrev ExG (L : List PT) (e : PT) (ex : Nat → Re T) : Prop := ∀ k, Gdl L e True (ex k)
theorem ExG.at {ex : Nat → Re T} (h : ExG L e ex) {k j : Nat} {t : T} {l : List Nat} (hr : ex k = .ok (t, j, l)) {g : Prop} (hg : g → l = []) : AllM L e g t := ((h k).at hr).mono fun q => ⟨trivial, hg q⟩
theorem bin_gd {g : Prop} {kind : Int} {a : T} {right : Nat → Re T} {k : Nat} (hx : ExG L e right) (hk : bare kind 2) (ha : AllM L e g a) : Gdl L e g (binR L e kind a right k) := by
  unfold binR
  refine bnd_gd fun b j l h => ok_gd (two_all hk (ha.mono fun q => q.1) (hx.at h fun q => q.2))
theorem un_gd {g : Prop} {kind : Int} {right : Nat → Re T} {k : Nat} (hx : ExG L e right) (hk : bare kind 1) : Gdl L e g (unR L e kind right k) := by
  unfold unR
  refine bnd_gd fun b j l h => ok_gd (one_all hk (hx.at h fun q => q.2))
theorem lam5_gd {ex : Nat → Re T} {p : PT} {k : Nat} {g : Prop} (hx : ExG L e ex) : Gdl L e g (lam L e ex 5 p [] k) := by
  unfold lam
  refine bnd_gd fun _ _ _ _ => bnd_gd fun x _ _ h2 => bnd_gd fun t _ _ _ => bnd_gd fun _ _ _ _ => bnd_gd fun u _ _ _ => bnd_gd fun _ _ _ _ => bnd_gd fun b _ _ h7 => ok_gd ?_
  obtain ⟨rfl, hk⟩ := nam_at h2
  exact .mk _ _ (.fn p _ t u hk) (by simp; exact hx.at h7 fun q => q.2)
theorem lam6_gd {ex : Nat → Re T} {p : PT} {i k : Nat} {g : Prop} (hx : ExG L e ex) (hi : kd L i = 2) : Gdl L e g (lam L e ex 6 p ((tok L e i).s ++ [32]) k) := by
  unfold lam
  refine bnd_gd fun _ _ _ _ => bnd_gd fun x _ _ h2 => bnd_gd fun t _ _ _ => bnd_gd fun _ _ _ _ => bnd_gd fun u _ _ _ => bnd_gd fun _ _ _ _ => bnd_gd fun b _ _ h7 => ok_gd ?_
  obtain ⟨rfl, hk⟩ := nam_at h2
  exact .mk _ _ (.rc p i _ t u hi hk) (by simp; exact hx.at h7 fun q => q.2)
def GAll (L : List PT) (e : PT) (d : Nat) : Prop := ExG L e (pe L e d .ex) ∧ ExG L e (pe L e d .rk) ∧ ExG L e (pe L e d .sm) ∧ ExG L e (pe L e d .tm) ∧ ExG L e (pe L e d .fc) ∧ ExG L e (pe L e d .cl) ∧ ExG L e (pe L e d .at) ∧
  (∀ g a k, AllM L e g a → Gdl L e g (pe L e d (.sml a) k)) ∧ (∀ g a k, AllM L e g a → Gdl L e g (pe L e d (.tml a) k)) ∧ (∀ g a k, AllM L e g a → Gdl L e g (pe L e d (.cll a) k)) ∧ ∀ g p acc k, (∀ t ∈ acc, AllM L e g t) → Gdl L e g (pe L e d (.lsl p acc) k)
theorem pe_gd (L : List PT) (e : PT) : ∀ d, GAll L e d := by
  intro d
  induction d with
  | zero => exact ⟨fun _ => trivial, fun _ => trivial, fun _ => trivial, fun _ => trivial, fun _ => trivial, fun _ => trivial, fun _ => trivial, fun _ _ _ _ => trivial, fun _ _ _ _ => trivial, fun _ _ _ _ => trivial, fun _ _ _ _ _ => trivial⟩
  | succ d ih =>
    obtain ⟨hex, hrk, hsm, htm, hfc, hcl, hat, hsml, html, hcll, hlsl⟩ := ih
    refine ⟨fun k => ?_, fun k => ?_, fun k => ?_, fun k => ?_, fun k => ?_, fun k => ?_, fun k => ?_, fun g a k ha => ?_, fun g a k ha => ?_, fun g a k ha => ?_, fun g p acc k ha => ?_⟩
    · rw [pe]
      split
      · unfold fnR; exact bnd_gd fun _ _ _ _ => lam5_gd hex
      split
      · unfold recR
        refine bnd_gd fun _ _ _ _ => bnd_gd fun f _ _ h2 => ?_
        obtain ⟨rfl, hk⟩ := nam_at h2
        exact lam6_gd hex hk
      split
      · unfold letR
        refine bnd_gd fun p _ _ _ => bnd_gd fun x _ _ h2 => bnd_gd fun t _ _ _ => bnd_gd fun _ _ _ _ => bnd_gd fun a _ _ h5 => bnd_gd fun _ _ _ _ => bnd_gd fun b _ _ h7 => ok_gd ?_
        obtain ⟨rfl, hk⟩ := nam_at h2
        exact .mk _ _ (.lt p _ t hk) (by simp; exact ⟨hex.at h5 fun q => q.1.1.2, hex.at h7 fun q => q.2⟩)
      split
      · unfold ifR
        refine bnd_gd fun p _ _ _ => bnd_gd fun a _ _ h2 => bnd_gd fun _ _ _ _ => bnd_gd fun b _ _ h4 => bnd_gd fun _ _ _ _ => bnd_gd fun c _ _ h6 => ok_gd ?_
        exact .mk _ _ (.bare p 9 3 (by unfold bare; simp)) (by simp; exact ⟨hex.at h2 fun q => q.1.1.1.1.2, hex.at h4 fun q => q.1.1.2, hex.at h6 fun q => q.2⟩)
      refine bnd_gd fun a j l h => ?_
      have h1 := hrk.at h (g := True ∧ l = []) fun q => q.2
      split
      · exact bin_gd hex (by unfold bare; simp) h1
      · exact ok_gd h1
    · rw [pe]
      refine bnd_gd fun a j l h => ?_
      have h1 := hsm.at h (g := True ∧ l = []) fun q => q.2
      split
      · rename_i hs; exact bin_gd hsm (relK_bare hs) h1
      · exact ok_gd h1
    · rw [pe]; exact bnd_gd fun a j l h => hsml _ a j (htm.at h fun q => q.2)
    · rw [pe]; exact bnd_gd fun a j l h => html _ a j (hfc.at h fun q => q.2)
    · rw [pe]
      split
      · exact un_gd hfc (by unfold bare; simp)
      split
      · exact un_gd hfc (by unfold bare; simp)
      exact hcl k
    · rw [pe]; exact bnd_gd fun a j l h => hcll _ a j (hat.at h fun q => q.2)
    · rw [pe]
      split
      · rename_i hs; exact ok_gd (.mk _ _ (.num k hs) (by simp))
      split
      · rename_i hs; exact ok_gd (.mk _ _ (.str k hs) (by simp))
      split
      · rename_i hs; exact ok_gd (.mk _ _ (.var k hs) (by simp))
      split
      · exact ok_gd (.mk _ _ (.truth _ _ (by split <;> simp)) (by simp))
      split
      · unfold brR
        refine bnd_gd fun p _ _ _ => bnd_gd fun a k2 _ h2 => ?_
        split
        · refine bnd_gd fun b _ _ h3 => bnd_gd fun _ _ _ _ => ok_gd (two_all (by unfold bare; simp) (hex.at h2 fun q => q.1.1.2) (hex.at h3 fun q => q.1.2))
        split
        · refine bnd_gd fun t _ _ h3 => bnd_gd fun _ _ _ _ => ok_gd (.mk _ _ (.as _ t (fun q => wh_at h3 q.1.2)) (by simp; exact hex.at h2 fun q => q.1.1.2))
        · exact bnd_gd fun _ _ _ _ => ok_gd (hex.at h2 fun q => q.1.2)
      split
      · unfold lsR
        refine bnd_gd fun p _ _ _ => ?_
        split
        · exact ok_gd (.mk _ _ (.bare p 21 0 (by unfold bare; simp)) (by simp))
        · refine bnd_gd fun a _ _ h2 => hlsl _ p [a] _ (by simp; exact hex.at h2 fun q => q.2)
      split
      · rename_i hs
        unfold appR
        have hb : bare (appK (tok L e k).s) 1 := by
          have : (tok L e k).s = sg L k := by
            cases hh : sg L k with
            | nil => rw [hh] at hs; exact absurd (by decide) hs
            | cons c r =>
              unfold sg at hh; unfold tok
              cases hL : L[k]? with
              | none => rw [hL] at hh; cases hh
              | some t => rw [hL] at hh; simp only at hh; split at hh
                          · exact hh
                          · cases hh
          rw [this]; exact appK_bare hs
        exact bnd_gd fun _ _ _ _ => bnd_gd fun a _ _ h2 => bnd_gd fun _ _ _ _ => ok_gd (one_all hb (hex.at h2 fun q => q.1.2))
      split
      · unfold consR
        exact bnd_gd fun p _ _ _ => bnd_gd fun _ _ _ _ => bnd_gd fun a _ _ h3 => bnd_gd fun _ _ _ _ => bnd_gd fun b _ _ h5 => bnd_gd fun _ _ _ _ => ok_gd (two_all (by unfold bare; simp) (hex.at h3 fun q => q.1.1.1.2) (hex.at h5 fun q => q.1.2))
      trivial
    · rw [pe]
      split
      · rename_i hs
        refine bnd_gd fun b j l h => hsml _ b j ?_
        have := bin_gd (k := k) htm (sumK_bare hs) ha
        exact this.at h
      · exact ok_gd ha
    · rw [pe]
      split
      · refine bnd_gd fun b j l h => html _ b j ?_
        have := bin_gd (kind := 12) (k := k) hfc (by unfold bare; simp) ha
        exact this.at h
      · exact ok_gd ha
    · rw [pe]
      split
      · exact bnd_gd fun b j l h => bnd_gd fun _ _ _ _ => hcll _ _ _ (two_all (by unfold bare; simp) (ha.mono fun q => q.1.1) (hex.at h fun q => q.1.2))
      · exact ok_gd ha
    · rw [pe]
      split
      · refine bnd_gd fun b j l h => hlsl _ p (acc ++ [b]) j ?_
        intro t ht
        rw [List.mem_append] at ht
        rcases ht with ht | ht
        · exact (ha t ht).mono fun q => q.1
        · simp at ht; subst ht; exact hex.at h fun q => q.2
      · exact bnd_gd fun _ _ _ _ => ok_gd (.mk _ _ (.bare p 21 _ (by unfold bare; simp)) fun t ht => (ha t ht).mono fun q => q.1)
end
end Ps
end Go.Proofs.YtohjfikjbeafiaaGreatDoor
namespace Go.Proofs.YtohjfikjbeafiaaGreatDoor
namespace Ps
open Tr (T Nd)

/-- A limit that is passed, and where. -/
abbrev Ev := Nat × (Int × Int)
def pl (p : PT) : Int × Int := (p.ln, p.co)
/-- What is read, the place behind it, and what is passed; or the place of the token that can't stand there. -/
abbrev Rv (α : Type) := Except Nat (α × Nat × List Ev)
def preV {α : Type} (l : List Ev) : Rv α → Rv α
  | .error j => .error j
  | .ok (a, j, m) => .ok (a, j, l ++ m)
theorem preV_nil {α : Type} (r : Rv α) : preV [] r = r := by cases r with
  | error j => rfl
  | ok q => obtain ⟨a, j, m⟩ := q; rfl
theorem preV_pre {α : Type} (a b : List Ev) (r : Rv α) : preV a (preV b r) = preV (a ++ b) r := by cases r with
  | error j => rfl
  | ok q => obtain ⟨x, j, m⟩ := q; simp [preV]
structure Im where
  src : List UInt8
  name : List UInt8
  t : List UInt8
  ln : Int
  co : Int
structure Df where
  name : List UInt8
  ex : Bool
  t : List UInt8
  ls : List Nd
  ln : Int
  co : Int
structure Mo where
  name : List UInt8
  ims : List Im
  dfs : List Df
  ln : Int
  co : Int
abbrev wImport : List UInt8 := [105, 109, 112, 111, 114, 116]
abbrev wExport : List UInt8 := [101, 120, 112, 111, 114, 116]
abbrev wLet : List UInt8 := [108, 101, 116]
abbrev wModule : List UInt8 := [109, 111, 100, 117, 108, 101]
section
variable (L : List PT) (e : PT)
def lgE (l : List Nat) : List Ev := l.map fun i => (0, pl (tok L e i))
/-- An expression, whole. -/
def exW (k : Nat) : Re T := pe L e (10 * (L.length - k) + 7) .ex k
/-- What is passed with a tree, where so many nodes were ahead. -/
def trE (at' : Int × Int) (n : Nat) (t : T) : List Ev := if 4096 < n + sz t then [(3, at')] else if 64 < Tr.high t then [(4, at')] else []
/-- What is handed on of a tree. -/
def trL (n : Nat) (t : T) : List Nd := if 4096 < n + sz t then [] else Tr.flat t
def imR (k : Nat) : Re Im := bnd (expc L e wImport k) fun _ k => bnd (nam L e k) fun f k => bnd (expc L e [46] k) fun _ k => bnd (nam L e k) fun x k => bnd (ann L k) fun t k => bnd (expc L e [59] k) fun _ k =>
  .ok (⟨f.s, x.s, valA t, x.ln, x.co⟩, k, [])
/-- A def, behind export. -/
def dfH (k : Nat) : Re (PT × Option T2.Tp.Ty × T) := bnd (expc L e wLet k) fun _ k => bnd (nam L e k) fun x k => bnd (ann L k) fun t k => bnd (expc L e [61] k) fun _ k => bnd (exW L e k) fun b k => bnd (expc L e [59] k) fun _ k =>
  .ok ((x, t, b), k, [])
/-- A def, where so many nodes are ahead; behind it so many. -/
def dfR (n k : Nat) : Rv (Df × Nat) := match dfH L e (if sg L k = wExport then k + 1 else k) with
  | .error j => .error j
  | .ok ((x, t, b), j, l) => .ok ((⟨x.s, decide (sg L k = wExport), valA t, trL n b, x.ln, x.co⟩, n + sz b), j, lgE L e l ++ trE (pl x) n b)
/-- The imports. -/
def imsR : Nat → List Im → Nat → Rv (List Im)
  | 0, _, k => .error k
  | d + 1, acc, k => if sg L k = wImport then (match imR L e k with
      | .error j => .error j
      | .ok (i, j, l) => preV (lgE L e l ++ if 64 < acc.length + 1 then [(2, (i.ln, i.co))] else []) (imsR d (acc ++ [i]) j)) else .ok (acc, k, [])
/-- The defs, behind so many imports. -/
def dfsR (m : Nat) : Nat → List Df → Nat → Nat → Rv (List Df × Nat)
  | 0, _, _, k => .error k
  | d + 1, acc, n, k => if sg L k = wExport ∨ sg L k = wLet then (match dfR L e n k with
      | .error j => .error j
      | .ok ((x, n'), j, l) => preV (l ++ if 64 < m + (acc.length + 1) then [(2, (x.ln, x.co))] else []) (dfsR m d (acc ++ [x]) n' j)) else .ok ((acc, n), k, [])
/-- Behind a module's {. -/
def moB (x : PT) (n k : Nat) : Rv (Mo × Nat) := match imsR L e (L.length - k + 1) [] k with
  | .error j => .error j
  | .ok (is, j, l) => match dfsR L e is.length (L.length - j + 1) [] n j with
    | .error i => .error i
    | .ok ((ds, n'), i, m) => if sg L i = [125] then .ok ((⟨x.s, is, ds, x.ln, x.co⟩, n'), i + 1, l ++ m) else .error i
def moH (k : Nat) : Re PT := bnd (expc L e wModule k) fun _ k => bnd (nam L e k) fun x k => bnd (expc L e [123] k) fun _ k => .ok (x, k, [])
def moR (n k : Nat) : Rv (Mo × Nat) := match moH L e k with
  | .error j => .error j
  | .ok (x, j, _) => moB L e x n j
def mosR : Nat → List Mo → Nat → Nat → Rv (List Mo × Nat)
  | 0, _, _, k => .error k
  | d + 1, acc, n, k => if sg L k = wModule then (match moR L e n k with
      | .error j => .error j
      | .ok ((x, n'), j, l) => preV (l ++ if 8 < acc.length + 1 then [(1, (x.ln, x.co))] else []) (mosR d (acc ++ [x]) n' j)) else .ok ((acc, n), k, [])
/-- All modules. -/
def mosW : Rv (List Mo × Nat) := mosR L e (L.length + 1) [] 0 0
end
/-- How many nodes a module's trees have is no more than its tokens. -/
theorem exW_in {L : List PT} {e : PT} {k j : Nat} {t : T} {l : List Nat} (hk : k ≤ L.length) (h : exW L e k = .ok (t, j, l)) : k < j ∧ j ≤ L.length ∧ sz t + k ≤ j := (pe_in L e _).1.ok hk h
end Ps
end Go.Proofs.YtohjfikjbeafiaaGreatDoor
namespace Go.Proofs.YtohjfikjbeafiaaGreatDoor
open Go.RowKit Ps
set_option maxRecDepth 100000
set_option linter.unusedSimpArgs false

namespace Ps
/-- A limit is passed. -/
def psE (lm : Lim) (v : Ev) : Lim := match v with
  | (0, p) => { lm with p0 := note lm.p0 p }
  | (1, p) => { lm with p1 := note lm.p1 p }
  | (2, p) => { lm with p2 := note lm.p2 p }
  | (3, p) => { lm with p3 := note lm.p3 p }
  | (_, p) => { lm with p4 := note lm.p4 p }
def effE (lm : Lim) (l : List Ev) : Lim := l.foldl psE lm
theorem effE_nil (lm : Lim) : effE lm [] = lm := rfl
theorem effE_app (lm : Lim) (a b : List Ev) : effE lm (a ++ b) = effE (effE lm a) b := List.foldl_append
theorem eff_lg (L : List PT) (e : PT) (lm : Lim) (l : List Nat) : eff L e lm l = effE lm (lgE L e l) := by
  unfold eff effE lgE
  rw [List.foldl_map]
  rfl
theorem own_base {w : World} {base base' ty size n : Nat} {v : Value} {xs : List Value} (h : w.ownsRow base ty size v n xs) (hb : base' ≤ base) : w.ownsRow base' ty size v n xs := by
  refine ⟨h.1, ?_⟩
  rcases h.2 with h | ⟨g, cap, cur, h1, h2, h3⟩
  · exact .inl h
  · exact .inr ⟨g, cap, cur, h1, by omega, h3⟩
theorem length_flats : ∀ (ks : List Tr.T), ks.length ≤ (Tr.flats ks).length
  | [] => by simp [Tr.flats]
  | t :: r => by have := length_flats r; have := Tr.flat_pos t; simp [Tr.flats]; omega
theorem flat_le_of_mem : ∀ {ks : List Tr.T} {t : Tr.T}, t ∈ ks → (Tr.flat t).length ≤ (Tr.flats ks).length
  | t :: r, u, h => by
    rcases List.mem_cons.1 h with rfl | h
    · simp [Tr.flats]
    · have := flat_le_of_mem h; simp [Tr.flats]; omega
theorem kids_le {L : List PT} {e : PT} {g : Prop} {t : Tr.T} (h : AllM L e g t) : ∀ x ∈ Tr.flat t, x.kids ≤ (Tr.flat t).length := by
  induction h with
  | mk x ks h _ ih =>
    intro y hy
    rw [Tr.flat, List.mem_cons] at hy
    rcases hy with rfl | hy
    · rw [h.kids]; have := length_flats ks; simp [Tr.flat]; omega
    · obtain ⟨u, hu, hx⟩ := flats_mem ks y hy
      have h1 := ih u hu y hx
      have h2 := flat_le_of_mem hu
      simp [Tr.flat]; omega
theorem made_size {L : List PT} {e : PT} (hTS : ∀ j, (tok L e j).s.length ≤ 65536) {g : Prop} {x : Tr.Nd} {m : Nat} (h : Made L e g x m) : x.s.size ≤ 200000 := by
  have hb : ∀ l : List UInt8, (bs l).size = l.length := fun l => by simp [bs, ByteArray.size]
  cases h with
  | num k h => rw [hb]; have := hTS k; omega
  | str k h => rw [hb]; have := hTS k; omega
  | var k h => rw [hb]; have := hTS k; omega
  | truth p n h => simp [mkN, ByteArray.size]
  | fn p k t u h => rw [hb]; have := hTS k; simp; omega
  | rc p i k t u hi h => rw [hb]; have := hTS k; have := hTS i; simp; omega
  | lt p k t h => rw [hb]; have := hTS k; omega
  | «as» p t h => simp [mkN, ByteArray.size]
  | bare p kind _ h => simp [mkN, ByteArray.size]
end Ps
theorem fits_all {L : List PT} {e : PT} (hTS : ∀ j, (tok L e j).s.length ≤ 65536) {g : Prop} {t : Tr.T} (h : AllM L e g t) (hl : (Tr.flat t).length ≤ 400000) : Fits (Tr.flat t) := by
  refine ⟨by omega, fun x hx => ?_, fun x hx => ?_⟩
  · have := kids_le h x hx; omega
  · obtain ⟨m, hm⟩ := h.nodes x hx
    have := made_size hTS hm
    unfold maxLen; omega
theorem deep_flat {t : Tr.T} (hw : Tr.wf t) : deepN (Tr.flat t) = Tr.high t := by
  have hb : bhI (Tr.flat t) 0 = (Tr.flat t).length := by
    unfold bhI
    rw [if_neg (by omega)]
    have := Tr.bh_tree (l := Tr.flat t) (i := 0) (rest := []) (t := t) (by simp) hw
    simpa using this
  have hp := Tr.flat_pos t
  unfold deepN
  rw [hb, if_neg (by omega)]
  have hd := Tr.dps_flat t [] 0 [] hw
  simp only [List.append_nil, List.length_nil, Nat.zero_add] at hd
  rw [hd, show Tr.kd ([] : List Tr.Nd) = [] from rfl, show Tr.dps [] [0] = [] from rfl, List.append_nil, Tr.mx_dpT]
  omega

/-- How a reading of a tree ends. -/
def TrEnd (w : World) (pb : Nat) (L : List PT) (e : PT) (lm : Lim) (fm am : Value) (n : Nat) (at' : Pl) : Re Tr.T → Ending → World → Prop
  | .error j, e', w' => Threw w pb L e j e' w'
  | .ok (t, j, l), e', w' => ∃ v, e' = .returned v ∧ w'.ownsRow w.heap.size 80 8 v (trL n t).length (nrow (trL n t)) ∧ Prs w' pb L e j (effE lm (lgE L e l ++ trE at' n t)) fm am (n + sz t) ∧ w.grownBy w' (some pb)

set_option maxHeartbeats 4000000 in
theorem tree_any {w : World} {pb : Nat} {L : List PT} {e : PT} {k : Nat} {lm : Lim} {fm am : Value} {nd : Nat} (he : e.kind = 0) (hTS : ∀ j, (tok L e j).s.length ≤ 65536) (ln co : Int) (hnd : nd + (L.length - k) ≤ 200000) (hM : Mp w pb fm am) (h : Prs w pb L e k lm fm am nd) :
    Calls Tryz.prog 96 #[.pointer (some ⟨pb, 0, none⟩), .agg #[.int .i64 ln, .int .i64 co]] w (TrEnd w pb L e lm fm am nd (ln, co) (exW L e k)) := by
  have hlt := h.lt
  have hkl := h.at'
  have hll := h.len
  have hBa : Below w.heap.size w (w.alloc (.cells #[.int .i64 ln, .int .i64 co] 28)) := (Below.refl _ _).alloc (Nat.le_refl _) _
  have P1 := h.kept hBa
  have G1 : w.grownBy (w.alloc (.cells #[.int .i64 ln, .int .i64 co] 28)) (some pb) := grown_any hBa _
  have k1 : (w.alloc (.cells #[.int .i64 ln, .int .i64 co] 28)).heap[w.heap.size]? = some (.cells #[.int .i64 ln, .int .i64 co] 28) := heap_alloc_new _ _
  have hE := expr_any he hTS hnd (hM.grown G1) P1
  rw [show pe L e (10 * (L.length - k) + 7) .ex k = exW L e k from rfl] at hE
  clear hBa h hM P1
  cases hr : exW L e k with
  | error j =>
    rw [hr] at hE
    clear hr
    go_enter Tryz.func96, Tryz.ntmps96
    go_wp2_with fail
    refine hE.mono ?_
    rintro e1 w1 ⟨rfl, g1⟩
    have GG := grownBy_trans G1 g1
    clear hE g1 G1 k1
    go_wp2_with fail
    exact ⟨rfl, rfl, GG⟩
  | ok q =>
    obtain ⟨t, j, l⟩ := q
    rw [hr] at hE
    have hin := exW_in hkl hr
    have hall := ((pe_gd L e _).1 k).at hr
    have HD : Aside (deepN (Tr.flat t) = Tr.high t) := deep_flat hall.wf
    have hfit := fits_all hTS hall (by have := hin.2.2; simp only [sz] at this; omega)
    have hsz : sz t ≤ 200000 := by omega
    clear hr hall
    show Calls Tryz.prog 96 #[.pointer (some ⟨pb, 0, none⟩), .agg #[.int .i64 ln, .int .i64 co]] w (fun e' w' => ∃ v, e' = .returned v ∧ w'.ownsRow w.heap.size 80 8 v (trL nd t).length (nrow (trL nd t)) ∧ Prs w' pb L e j (effE lm (lgE L e l ++ trE (ln, co) nd t)) fm am (nd + sz t) ∧ w.grownBy w' (some pb))
    by_cases hn : 4096 < nd + sz t
    · have HT : Aside (trL nd t = [] ∧ trE (ln, co) nd t = [(3, (ln, co))]) := ⟨if_pos hn, if_pos hn⟩
      have hn' : (4096 : Int) < ((nd + sz t : Nat) : Int) := by omega
      clear HD hfit hn
      go_enter Tryz.func96, Tryz.ntmps96
      go_wp2_with fail
      refine hE.mono ?_
      rintro e1 w1 ⟨b, n1, rfl, HB, P1, hn1, g1⟩
      obtain rfl : n1 = nd + sz t := by omega
      have GG := grownBy_trans G1 g1
      have k2 := (g1.block w.heap.size (by simp) (by simp; omega)).trans k1
      have c0 : w1.cell? ⟨w.heap.size, 0, none⟩ = some (.int .i64 ln) := (block_cells k2).1 0
      have c1 : w1.cell? ⟨w.heap.size, 1, none⟩ = some (.int .i64 co) := (block_cells k2).1 1
      obtain ⟨tb, o, c, hb1, _⟩ := P1.blk
      have c14 : w1.cell? ⟨pb, 14, none⟩ = some (.int .i64 ((nd + sz t : Nat) : Int)) := (block_cells hb1).1 14
      have hps := fun W (hW : Prs W pb L e j (eff L e lm l) fm am (nd + sz t)) => ppass3_any hW ln co
      have P3 := P1.drew
      generalize ((nd + sz t : Nat) : Int) = nn at *
      clear hE g1 G1 k1 k2 HB hb1 hn1
      go_upto_region 3 with fail
      go_region_with (go_at_call 83; refine (hps _ (by exact P3)).mono ?_; rintro e3 w3 ⟨rfl, P4, g4⟩; have GG2 : w.grownBy w3 (some pb) := grownBy_trans (grownBy_drew GG) g4)
      all_goals
        go_wp2_with fail
        go_ret
        refine ⟨_, rfl, ?_, ?_, GG2⟩
        · rw [HT.out.1]; exact own_nil _ _ _ _
        · rw [HT.out.2, effE_app, ← eff_lg]; exact P4
    · have HT : Aside (trL nd t = Tr.flat t ∧ trE (ln, co) nd t = if 64 < Tr.high t then [(4, (ln, co))] else []) := ⟨if_neg hn, if_neg hn⟩
      have hn' : ¬ (4096 : Int) < ((nd + sz t : Nat) : Int) := by omega
      have hon := fun (w1 : World) (b : Nat) (HB : Br w1 pb b t) => onto_any b b (Nat.le_refl _) t w1 w1.heap.size (.slice none 0 0) [] HB HB.lt (Nat.le_refl _) (own_nil _ _ _ _) (by simp only [sz] at *; simp; omega)
      simp only [List.nil_append] at hon
      have hdp := fun (w2 : World) (v : Value) (hv : IsNodes w2 v (Tr.flat t)) => deep_any (Tr.flat t) hfit v w2 hv
      rw [HD.out] at hdp
      clear hfit HD hn
      by_cases hh : 64 < Tr.high t
      · have hh' : (64 : Int) < ((Tr.high t : Nat) : Int) := by omega
        have HT2 : Aside (trL nd t = Tr.flat t ∧ trE (ln, co) nd t = [(4, (ln, co))]) := by rw [if_pos hh] at HT; exact HT
        clear HT hh
        generalize ((Tr.high t : Nat) : Int) = hgt at *
        go_enter Tryz.func96, Tryz.ntmps96
        go_wp2_with fail
        refine hE.mono ?_
        rintro e1 w1 ⟨b, n1, rfl, HB, P1, hn1, g1⟩
        obtain rfl : n1 = nd + sz t := by omega
        have GG := grownBy_trans G1 g1
        have k2 := (g1.block w.heap.size (by simp) (by simp; omega)).trans k1
        obtain ⟨tb, o, c, hb1, _⟩ := P1.blk
        have c14 : w1.cell? ⟨pb, 14, none⟩ = some (.int .i64 ((nd + sz t : Nat) : Int)) := (block_cells hb1).1 14
        have hon1 := hon w1 b HB
        have hps := fun W (hW : Prs W pb L e j (eff L e lm l) fm am (nd + sz t)) => ppass4_any hW ln co
        generalize ((nd + sz t : Nat) : Int) = nn at *
        clear hE g1 G1 k1 HB hb1 hn1 hon
        go_wp2_with fail
        refine hon1.mono ?_
        rintro e2 w2 ⟨v2, rfl, hown2, hB2⟩
        have hdp2 := hdp w2 v2 (IsNodes.own hown2)
        clear hon1 hdp
        go_wp2_with fail
        refine hdp2.mono ?_
        rintro e3 w3 ⟨rfl, hB3⟩
        have hB3' := hB2.trans (hB3.mono hB2.size)
        have P3 := (P1.kept hB3').drew
        have GG3 : w.grownBy w3 (some pb) := grownBy_below GG hB3'
        have k3 := (hB3'.block w.heap.size (Array.getElem?_eq_some_iff.1 k2).1).trans k2
        have c0 : w3.cell? ⟨w.heap.size, 0, none⟩ = some (.int .i64 ln) := (block_cells k3).1 0
        have c1 : w3.cell? ⟨w.heap.size, 1, none⟩ = some (.int .i64 co) := (block_cells k3).1 1
        have hown3 := own_base (own_below hown2 hB3) GG.size
        have hlow : ∀ x, v2.ownBlock = some x → pb < x := fun x hx => by have := (hown2.lt x hx).1; have := P1.lt; omega
        clear hdp2 hB2 hB3 hB3' hown2 k2 k3 c14
        go_upto_region 7 with fail
        go_region_with (go_at_call 83; refine (hps _ (by exact P3)).mono ?_; rintro e4 w4 ⟨rfl, P4, g4⟩; have GG4 : w.grownBy w4 (some pb) := grownBy_trans (grownBy_drew GG3) g4)
        all_goals
          have hown4 := hown3.kept (grownBy_trans (grownBy_drew (grownBy_refl w3 (some pb))) g4) (.inr fun e => by have := hlow pb e; omega)
          go_wp2_with fail
          go_ret
          refine ⟨_, rfl, ?_, ?_, GG4⟩
          · rw [HT2.out.1]; exact hown4
          · rw [HT2.out.2, effE_app, ← eff_lg]; exact P4
      · have hh' : ¬ (64 : Int) < ((Tr.high t : Nat) : Int) := by omega
        have HT2 : Aside (trL nd t = Tr.flat t ∧ trE (ln, co) nd t = []) := by rw [if_neg hh] at HT; exact HT
        clear HT hh
        generalize ((Tr.high t : Nat) : Int) = hgt at *
        go_enter Tryz.func96, Tryz.ntmps96
        go_wp2_with fail
        refine hE.mono ?_
        rintro e1 w1 ⟨b, n1, rfl, HB, P1, hn1, g1⟩
        obtain rfl : n1 = nd + sz t := by omega
        have GG := grownBy_trans G1 g1
        obtain ⟨tb, o, c, hb1, _⟩ := P1.blk
        have c14 : w1.cell? ⟨pb, 14, none⟩ = some (.int .i64 ((nd + sz t : Nat) : Int)) := (block_cells hb1).1 14
        have hon1 := hon w1 b HB
        generalize ((nd + sz t : Nat) : Int) = nn at *
        clear hE g1 G1 k1 HB hb1 hn1 hon
        go_wp2_with fail
        refine hon1.mono ?_
        rintro e2 w2 ⟨v2, rfl, hown2, hB2⟩
        have hdp2 := hdp w2 v2 (IsNodes.own hown2)
        clear hon1 hdp
        go_wp2_with fail
        refine hdp2.mono ?_
        rintro e3 w3 ⟨rfl, hB3⟩
        have hB3' := hB2.trans (hB3.mono hB2.size)
        have P3 := P1.kept hB3'
        have GG3 : w.grownBy w3 (some pb) := grownBy_below GG hB3'
        have hown3 := own_base (own_below hown2 hB3) GG.size
        clear hdp2 hB2 hB3 hB3' hown2 c14
        go_wp2_with fail
        go_ret
        refine ⟨_, rfl, ?_, ?_, GG3⟩
        · rw [HT2.out.1]; exact hown3
        · rw [HT2.out.2, List.append_nil, ← eff_lg]; exact P3

set_option maxHeartbeats 2000000 in
theorem only_any {w : World} {pb : Nat} {L : List PT} {e : PT} {k : Nat} {lm : Lim} {fm am : Value} {nd : Nat} (he : e.kind = 0) (hTS : ∀ j, (tok L e j).s.length ≤ 65536) (hnd : nd + (L.length - k) ≤ 200000) (hM : Mp w pb fm am) (h : Prs w pb L e k lm fm am nd) :
    Calls Tryz.prog 57 #[.pointer (some ⟨pb, 0, none⟩)] w (TrEnd w pb L e lm fm am nd (pl (tok L e k)) (exW L e k)) := by
  have hpl := pplace_any h
  have HT : Aside (∀ w1, Below w.heap.size w w1 → Calls Tryz.prog 96 #[.pointer (some ⟨pb, 0, none⟩), .agg #[.int .i64 (tok L e k).ln, .int .i64 (tok L e k).co]] w1 (TrEnd w1 pb L e lm fm am nd (pl (tok L e k)) (exW L e k))) := fun w1 hB => tree_any he hTS _ _ hnd (hM.grown (grown_any hB _)) (h.kept hB)
  clear h hM
  cases hr : exW L e k with
  | error j =>
    rw [hr] at HT
    clear hr
    go_enter Tryz.func57, Tryz.ntmps57
    go_wp2_with fail
    refine hpl.mono ?_
    rintro e1 w1 ⟨rfl, hB1⟩
    have hT1 := HT.out w1 hB1
    clear hpl HT
    go_wp2_with fail
    refine hT1.mono ?_
    rintro e2 w2 ⟨rfl, g2⟩
    have GG : w.grownBy w2 (some pb) := grownBy_trans (grown_any hB1 _) g2
    clear hT1 g2
    go_wp2_with fail
    exact ⟨rfl, rfl, GG⟩
  | ok q =>
    obtain ⟨t, j, l⟩ := q
    rw [hr] at HT
    clear hr
    go_enter Tryz.func57, Tryz.ntmps57
    go_wp2_with fail
    refine hpl.mono ?_
    rintro e1 w1 ⟨rfl, hB1⟩
    have hT1 := HT.out w1 hB1
    clear hpl HT
    go_wp2_with fail
    refine hT1.mono ?_
    rintro e2 w2 ⟨v2, rfl, o2, P2, g2⟩
    have GG : w.grownBy w2 (some pb) := grownBy_trans (grown_any hB1 _) g2
    have o3 := own_base o2 hB1.size
    clear hT1 g2
    go_wp2_with fail
    go_ret
    exact ⟨_, rfl, o3, P2, GG⟩
end Go.Proofs.YtohjfikjbeafiaaGreatDoor
namespace Go.Proofs.YtohjfikjbeafiaaGreatDoor
open Go.RowKit Ps
set_option maxRecDepth 100000
set_option linter.unusedSimpArgs false

set_option maxHeartbeats 1000000 in
theorem finish_no {w : World} {pb : Nat} {L : List PT} {e : PT} {k : Nat} {lm : Lim} {fm am : Value} {nd : Nat} (h : Prs w pb L e k lm fm am nd) (hk : k < L.length) :
    Calls Tryz.prog 79 #[.pointer (some ⟨pb, 0, none⟩)] w fun e' w' => Threw w pb L e k e' w' := by
  obtain ⟨tb, o, c, c0, c1, _⟩ := h.cells
  have hlen := h.len
  have e1 : IntKind.i64.wrap (((L.length + 1 : Nat) : Int) - 1) = (L.length : Int) := by rw [IntWalk.i64_in _ (by omega)]; omega
  have e2 : IntKind.i64.wrap ((L.length : Int) + 1 - 1) = (L.length : Int) := by rw [IntWalk.i64_in _ (by omega)]; omega
  have hk' : (k : Int) < (L.length : Int) := by omega
  have hms := fun n => pmis_any (h.drewN n)
  have HB : Aside (∀ n W, Below (w.drewN n).heap.size (w.drewN n) W → w.grownBy W (some pb)) := fun n W hb => grown_any (show Below w.heap.size w W from ⟨hb.os, hb.tape, hb.output, hb.size, hb.block⟩) _
  clear h
  go_enter Tryz.func79, Tryz.ntmps79
  go_upto_region 0 with fail
  go_quiet (fail)
  go_wp2_with fail
  refine (hms _).mono ?_
  rintro e2 w2 ⟨rfl, hb⟩
  have hg := HB.out _ _ hb
  clear hms HB hb
  go_wp2_with fail
  exact ⟨rfl, rfl, hg⟩

set_option maxHeartbeats 1000000 in
theorem finish_yes {w : World} {pb : Nat} {L : List PT} {e : PT} {lm : Lim} {fm am : Value} {nd : Nat} (h : Prs w pb L e L.length lm fm am nd) :
    Calls Tryz.prog 79 #[.pointer (some ⟨pb, 0, none⟩)] w fun e' w' => e' = .returned (.tuple #[]) ∧ ∃ n, w' = w.drewN n := by
  obtain ⟨tb, o, c, c0, c1, _⟩ := h.cells
  have hlen := h.len
  have e1 : IntKind.i64.wrap (((L.length + 1 : Nat) : Int) - 1) = (L.length : Int) := by rw [IntWalk.i64_in _ (by omega)]; omega
  have e2 : IntKind.i64.wrap ((L.length : Int) + 1 - 1) = (L.length : Int) := by rw [IntWalk.i64_in _ (by omega)]; omega
  have hk' : ¬ (L.length : Int) < (L.length : Int) := by omega
  clear h
  go_enter Tryz.func79, Tryz.ntmps79
  go_upto_region 0 with fail
  go_quiet (fail)
  go_wp2_with fail
  try simp only [Exit.inBlock, Exit.then]
  refine bodyPost_end (results_none rfl _ _ _) rfl ?_
  exact ⟨rfl, _, rfl⟩

def errK (i : Int) : Int := if i = 0 then 21 else if i = 4 then 16 else 17
set_option maxHeartbeats 1000000 in
theorem errorOf_any (i : Int) (w : World) : Calls Tryz.prog 138 #[.int .i64 i] w fun e' w' => e' = .returned (.int .i64 (errK i)) ∧ w' = w := by
  go_enter Tryz.func138, Tryz.ntmps138
  go_wp2
  all_goals
    go_ret
    refine ⟨ret_int ?_, rfl⟩
    unfold errK
    simp_all

namespace Ps
/-- The first limit that was passed, and where. -/
def firstL (lm : Lim) : Option (Int × Pl) := if lm.p0 ≠ (0, 0) then some (21, lm.p0) else if lm.p1 ≠ (0, 0) then some (17, lm.p1) else if lm.p2 ≠ (0, 0) then some (17, lm.p2) else if lm.p3 ≠ (0, 0) then some (17, lm.p3) else if lm.p4 ≠ (0, 0) then some (16, lm.p4) else none
def lims (lm : Lim) : List Pl := [lm.p0, lm.p1, lm.p2, lm.p3, lm.p4]
theorem first_at {lm : Lim} : ∀ (i : Nat) (q : Pl), (∀ j, j < i → (lims lm)[j]? = some (0, 0)) → (lims lm)[i]? = some q → q ≠ (0, 0) → firstL lm = some (errK i, q) := by
  intro i q hz hq hn
  obtain ⟨p0, p1, p2, p3, p4⟩ := lm
  unfold lims at hz hq
  unfold firstL errK
  match i, hz, hq with
  | 0, hz, hq => simp at hq; subst hq; simp [hn]
  | 1, hz, hq => have h0 := hz 0 (by omega); simp at hq h0; subst hq; subst h0; simp [hn]
  | 2, hz, hq => have h0 := hz 0 (by omega); have h1 := hz 1 (by omega); simp at hq h0 h1; subst hq; subst h0; subst h1; simp [hn]
  | 3, hz, hq => have h0 := hz 0 (by omega); have h1 := hz 1 (by omega); have h2 := hz 2 (by omega); simp at hq h0 h1 h2; subst hq; subst h0; subst h1; subst h2; simp [hn]
  | 4, hz, hq => have h0 := hz 0 (by omega); have h1 := hz 1 (by omega); have h2 := hz 2 (by omega); have h3 := hz 3 (by omega); simp at hq h0 h1 h2 h3; subst hq; subst h0; subst h1; subst h2; subst h3; simp [hn]
  | n + 5, hz, hq => simp at hq
theorem first_none {lm : Lim} (h : ∀ j, j < 5 → (lims lm)[j]? = some (0, 0)) : firstL lm = none := by
  obtain ⟨p0, p1, p2, p3, p4⟩ := lm
  have h0 := h 0 (by omega); have h1 := h 1 (by omega); have h2 := h 2 (by omega); have h3 := h 3 (by omega); have h4 := h 4 (by omega)
  simp [lims] at h0 h1 h2 h3 h4
  subst h0; subst h1; subst h2; subst h3; subst h4
  rfl
end Ps
/-- How tell ends. -/
def TlEnd (w : World) (pb : Nat) (r : Option (Int × Pl)) (e' : Ending) (w' : World) : Prop := w.grownBy w' (some pb) ∧ match r with
  | none => e' = .returned (.tuple #[])
  | some (c, p) => e' = .panicked (thrownP c p.1 p.2)
theorem TlEnd.bad {w w' : World} {pb : Nat} {r : Option (Int × Pl)} {c a b : Int} {e' : Ending} (hr : r = some (c, (a, b))) (hg : w.grownBy w' (some pb)) (he : e' = .panicked (thrownP c a b)) : TlEnd w pb r e' w' := by subst hr; exact ⟨hg, he⟩
theorem TlEnd.good {w w' : World} {pb : Nat} {r : Option (Int × Pl)} {e' : Ending} (hr : r = none) (hg : w.grownBy w' (some pb)) (he : e' = .returned (.tuple #[])) : TlEnd w pb r e' w' := by subst hr; exact ⟨hg, he⟩

end Go.Proofs.YtohjfikjbeafiaaGreatDoor
namespace Go.Proofs.YtohjfikjbeafiaaGreatDoor
open Go.RowKit Ps
set_option maxRecDepth 100000
set_option linter.unusedSimpArgs false

set_option maxHeartbeats 400000 in
theorem tell_any {w : World} {pb : Nat} {L : List PT} {e : PT} {k : Nat} {lm : Lim} {fm am : Value} {nd : Nat} (h : Prs w pb L e k lm fm am nd) :
    Calls Tryz.prog 80 #[.pointer (some ⟨pb, 2, none⟩)] w (TlEnd w pb (firstL lm)) := by
  obtain ⟨tb, o, c, hb, _⟩ := h.blk
  clear h
  have HF := fun i q => first_at (lm := lm) i q
  have HN := first_none (lm := lm)
  obtain ⟨⟨a0, b0⟩, ⟨a1, b1⟩, ⟨a2, b2⟩, ⟨a3, b3⟩, ⟨a4, b4⟩⟩ := lm
  have HF' : Aside _ := HF
  have HN' : Aside _ := HN
  clear HF HN
  have hc := (block_cells hb).1
  have c2 : w.cell? ⟨pb, 2, none⟩ = some (.int .i64 a0) := hc 2
  have c3 : w.cell? ⟨pb, 3, none⟩ = some (.int .i64 b0) := hc 3
  have c4 : w.cell? ⟨pb, 4, none⟩ = some (.int .i64 a1) := hc 4
  have c5 : w.cell? ⟨pb, 5, none⟩ = some (.int .i64 b1) := hc 5
  have c6 : w.cell? ⟨pb, 6, none⟩ = some (.int .i64 a2) := hc 6
  have c7 : w.cell? ⟨pb, 7, none⟩ = some (.int .i64 b2) := hc 7
  have c8 : w.cell? ⟨pb, 8, none⟩ = some (.int .i64 a3) := hc 8
  have c9 : w.cell? ⟨pb, 9, none⟩ = some (.int .i64 b3) := hc 9
  have c10 : w.cell? ⟨pb, 10, none⟩ = some (.int .i64 a4) := hc 10
  have c11 : w.cell? ⟨pb, 11, none⟩ = some (.int .i64 b4) := hc 11
  clear hc hb
  have hx0 : ∀ w : World, (Instr.index 128 (.agg #[.int .i64 a0, .int .i64 b0, .int .i64 a1, .int .i64 b1, .int .i64 a2, .int .i64 b2, .int .i64 a3, .int .i64 b3, .int .i64 a4, .int .i64 b4]) (.int .i64 0)).run Tryz.prog w = .ok (.agg #[.int .i64 a0, .int .i64 b0]) w := fun w => by kernel_rfl
  have hx1 : ∀ w : World, (Instr.index 128 (.agg #[.int .i64 a0, .int .i64 b0, .int .i64 a1, .int .i64 b1, .int .i64 a2, .int .i64 b2, .int .i64 a3, .int .i64 b3, .int .i64 a4, .int .i64 b4]) (.int .i64 1)).run Tryz.prog w = .ok (.agg #[.int .i64 a1, .int .i64 b1]) w := fun w => by kernel_rfl
  have hx2 : ∀ w : World, (Instr.index 128 (.agg #[.int .i64 a0, .int .i64 b0, .int .i64 a1, .int .i64 b1, .int .i64 a2, .int .i64 b2, .int .i64 a3, .int .i64 b3, .int .i64 a4, .int .i64 b4]) (.int .i64 2)).run Tryz.prog w = .ok (.agg #[.int .i64 a2, .int .i64 b2]) w := fun w => by kernel_rfl
  have hx3 : ∀ w : World, (Instr.index 128 (.agg #[.int .i64 a0, .int .i64 b0, .int .i64 a1, .int .i64 b1, .int .i64 a2, .int .i64 b2, .int .i64 a3, .int .i64 b3, .int .i64 a4, .int .i64 b4]) (.int .i64 3)).run Tryz.prog w = .ok (.agg #[.int .i64 a3, .int .i64 b3]) w := fun w => by kernel_rfl
  have hx4 : ∀ w : World, (Instr.index 128 (.agg #[.int .i64 a0, .int .i64 b0, .int .i64 a1, .int .i64 b1, .int .i64 a2, .int .i64 b2, .int .i64 a3, .int .i64 b3, .int .i64 a4, .int .i64 b4]) (.int .i64 4)).run Tryz.prog w = .ok (.agg #[.int .i64 a4, .int .i64 b4]) w := fun w => by kernel_rfl
  have hix : ∀ (w : World) (i : Nat) (a b : Int), (lims ⟨(a0, b0), (a1, b1), (a2, b2), (a3, b3), (a4, b4)⟩)[i]? = some (a, b) → (Instr.index 128 (.agg #[.int .i64 a0, .int .i64 b0, .int .i64 a1, .int .i64 b1, .int .i64 a2, .int .i64 b2, .int .i64 a3, .int .i64 b3, .int .i64 a4, .int .i64 b4]) (.int .i64 (i : Int))).run Tryz.prog w = .ok (.agg #[.int .i64 a, .int .i64 b]) w := by
    intro w i a b hi
    match i, hi with
    | 0, hi => simp [lims] at hi; obtain ⟨rfl, rfl⟩ := hi; exact hx0 w
    | 1, hi => simp [lims] at hi; obtain ⟨rfl, rfl⟩ := hi; exact hx1 w
    | 2, hi => simp [lims] at hi; obtain ⟨rfl, rfl⟩ := hi; exact hx2 w
    | 3, hi => simp [lims] at hi; obtain ⟨rfl, rfl⟩ := hi; exact hx3 w
    | 4, hi => simp [lims] at hi; obtain ⟨rfl, rfl⟩ := hi; exact hx4 w
    | n + 5, hi => simp [lims] at hi
  clear hx0 hx1 hx2 hx3 hx4
  have herr := errorOf_any
  go_enter Tryz.func80, Tryz.ntmps80
  go_wp2_with fail
  go_loopg [8] 5 (fun g s wr => ∃ i : Nat, i + g = 5 ∧ s = .int .i64 (i : Int) ∧ Below w.heap.size w wr ∧ ∀ j, j < i → (lims ⟨(a0, b0), (a1, b1), (a2, b2), (a3, b3), (a4, b4)⟩)[j]? = some (0, 0))
  case atStart => exact ⟨0, rfl, rfl, Below.refl _ _, fun j hj => absurd hj (by omega)⟩
  case round =>
    clear c2 c3 c4 c5 c6 c7 c8 c9 c10 c11
    obtain ⟨i, hig, rfl, hB, hz⟩ := hrel
    by_cases hi : i < 5
    · have hi' : (i : Int) < 5 := by omega
      obtain ⟨⟨a, b⟩, hq⟩ : ∃ q, (lims ⟨(a0, b0), (a1, b1), (a2, b2), (a3, b3), (a4, b4)⟩)[i]? = some q := ⟨_, List.getElem?_eq_getElem (by simpa [lims] using hi)⟩
      have hx := fun w => hix w i a b hq
      by_cases hn : (a, b) = (0, 0)
      · obtain ⟨rfl, rfl⟩ := Prod.mk.injEq _ _ _ _ ▸ hn
        have HZ : Aside (∀ j, j < i + 1 → (lims ⟨(a0, b0), (a1, b1), (a2, b2), (a3, b3), (a4, b4)⟩)[j]? = some (0, 0)) := fun j hj => by
          by_cases hji : j = i
          · subst hji; exact hq
          · exact hz j (by omega)
        clear hz hq hix hn
        go_wp2_with fail
        go_roundg (gk - 1)
        case measure => omega
        case rel => exact ⟨i + 1, by omega, by go_num, hB.alloc hB.size _, HZ.out⟩
      · have HX : Aside (firstL ⟨(a0, b0), (a1, b1), (a2, b2), (a3, b3), (a4, b4)⟩ = some (errK i, (a, b))) := HF'.out i _ hz hq hn
        have hab : ((a == 0) && (b == 0)) = false := by
          rw [Bool.eq_false_iff]; simpa using hn
        have hB2 : ∀ o, Below w.heap.size w (wr.alloc o) := fun o => hB.alloc hB.size o
        clear hz hq hix hB HF' HN'
        by_cases ha0 : a = 0
        · subst ha0
          have hb1 : b ≠ 0 := by simpa using hn
          have hb0 : (b == 0) = false := by simpa using hb1
          clear hn hab
          go_upto_region 4 with fail
          go_region_with (first | (go_at_call 138; refine (herr _ _).mono ?_; rintro e3 w3 ⟨rfl, rfl⟩) | (change bodyPost _ _ _ (Exit.panic _) _ _; refine (fun (_ : wpAny Tryz.prog .any #[] (fun _ _ _ => True) 0 #[] ⟨#[], []⟩ w) => ⟨rfl, TlEnd.bad HX.out (grown_any (below_drew (hB2 _)) _) rfl⟩) ?_))
          all_goals trivial
        · have ha1 : (a == 0) = false := by simpa using ha0
          clear hn hab
          go_upto_region 4 with fail
          go_region_with (first | (go_at_call 138; refine (herr _ _).mono ?_; rintro e3 w3 ⟨rfl, rfl⟩) | (change bodyPost _ _ _ (Exit.panic _) _ _; refine (fun (_ : wpAny Tryz.prog .any #[] (fun _ _ _ => True) 0 #[] ⟨#[], []⟩ w) => ⟨rfl, TlEnd.bad HX.out (grown_any (below_drew (hB2 _)) _) rfl⟩) ?_))
          all_goals trivial
    · have hi' : ¬ (i : Int) < 5 := by omega
      obtain rfl : i = 5 := by omega
      have HX := HN'.out hz
      have HX' : Aside _ := HX
      clear hz hix HX HF' HN'
      go_wp2_with fail
      try simp only [Exit.inBlock, Exit.then]
      refine bodyPost_end (results_none rfl _ _ _) rfl ?_
      exact TlEnd.good HX'.out (grown_any hB _) rfl
end Go.Proofs.YtohjfikjbeafiaaGreatDoor
namespace Go.Proofs.YtohjfikjbeafiaaGreatDoor
namespace Ps
open Tr (T Nd)
variable {L : List PT} {e : PT}
theorem bnd_out {α β : Type} {r : Re α} {f : α → Nat → Re β} {b : β} {i : Nat} {m : List Nat} (h : bnd r f = .ok (b, i, m)) : ∃ a j l m', r = .ok (a, j, l) ∧ f a j = .ok (b, i, m') ∧ m = l ++ m' := by
  cases r with
  | error j => cases h
  | ok q =>
    obtain ⟨a, j, l⟩ := q
    unfold bnd at h
    simp only at h
    cases hf : f a j with
    | error i => rw [hf] at h; cases h
    | ok q2 =>
      obtain ⟨b', i', m'⟩ := q2
      rw [hf] at h
      cases h
      exact ⟨a, j, l, m', rfl, hf, rfl⟩
theorem imR_in {k j : Nat} {i : Im} {l : List Nat} (h : imR L e k = .ok (i, j, l)) : k < j ∧ j ≤ L.length := by
  unfold imR at h
  obtain ⟨_, k1, _, _, h1, h, _⟩ := bnd_out h
  obtain ⟨_, k2, _, _, h2, h, _⟩ := bnd_out h
  obtain ⟨_, k3, _, _, h3, h, _⟩ := bnd_out h
  obtain ⟨_, k4, _, _, h4, h, _⟩ := bnd_out h
  obtain ⟨_, k5, _, _, h5, h, _⟩ := bnd_out h
  obtain ⟨_, k6, _, _, h6, h, _⟩ := bnd_out h
  have a1 := expc_lt h1
  have a2 := nam_lt h2
  have a3 := expc_lt h3
  have a4 := nam_lt h4
  have a5 := ann_ok (by omega) h5
  have a6 := expc_lt h6
  cases h
  omega
theorem dfH_in {k j : Nat} {x : PT} {t : Option T2.Tp.Ty} {b : T} {l : List Nat} (h : dfH L e k = .ok ((x, t, b), j, l)) : k < j ∧ j ≤ L.length ∧ sz b + k ≤ j := by
  unfold dfH at h
  obtain ⟨_, k1, _, _, h1, h, _⟩ := bnd_out h
  obtain ⟨_, k2, _, _, h2, h, _⟩ := bnd_out h
  obtain ⟨_, k3, _, _, h3, h, _⟩ := bnd_out h
  obtain ⟨_, k4, _, _, h4, h, _⟩ := bnd_out h
  obtain ⟨_, k5, _, _, h5, h, _⟩ := bnd_out h
  obtain ⟨_, k6, _, _, h6, h, _⟩ := bnd_out h
  have a1 := expc_lt h1
  have a2 := nam_lt h2
  have a3 := ann_ok (by omega) h3
  have a4 := expc_lt h4
  have a5 := exW_in (by omega) h5
  have a6 := expc_lt h6
  cases h
  omega
theorem dfR_in {n k j n' : Nat} {x : Df} {l : List Ev} (h : dfR L e n k = .ok ((x, n'), j, l)) : k < j ∧ j ≤ L.length ∧ n' + k ≤ n + j := by
  unfold dfR at h
  cases hd : dfH L e (if sg L k = wExport then k + 1 else k) with
  | error i => rw [hd] at h; cases h
  | ok q =>
    obtain ⟨⟨x1, t1, b1⟩, j1, l1⟩ := q
    rw [hd] at h
    have := dfH_in hd
    simp only [Except.ok.injEq, Prod.mk.injEq] at h
    obtain ⟨⟨_, h1⟩, h2, _⟩ := h
    split at this <;> omega
theorem preV_out {α : Type} {l m : List Ev} {r : Rv α} {a : α} {j : Nat} (h : preV l r = .ok (a, j, m)) : ∃ m', r = .ok (a, j, m') ∧ m = l ++ m' := by
  cases r with
  | error i => cases h
  | ok q => obtain ⟨b, i, m'⟩ := q; cases h; exact ⟨m', rfl, rfl⟩
theorem imsR_in : ∀ (d : Nat) (acc : List Im) (k : Nat) {is : List Im} {j : Nat} {l : List Ev}, k ≤ L.length → imsR L e d acc k = .ok (is, j, l) → k ≤ j ∧ j ≤ L.length ∧ is.length + k ≤ acc.length + j
  | 0, acc, k, is, j, l, hk, h => by cases h
  | d + 1, acc, k, is, j, l, hk, h => by
    rw [imsR] at h
    split at h
    · cases hi : imR L e k with
      | error i => rw [hi] at h; cases h
      | ok q =>
        obtain ⟨x, j1, l1⟩ := q
        rw [hi] at h
        obtain ⟨m', h, _⟩ := preV_out h
        have a1 := imR_in hi
        have a2 := imsR_in d (acc ++ [x]) j1 a1.2 h
        simp at a2
        omega
    · cases h; omega
theorem dfsR_in {m : Nat} : ∀ (d : Nat) (acc : List Df) (n k : Nat) {ds : List Df} {n' j : Nat} {l : List Ev}, k ≤ L.length → dfsR L e m d acc n k = .ok ((ds, n'), j, l) → k ≤ j ∧ j ≤ L.length ∧ n' + k ≤ n + j ∧ ds.length + k ≤ acc.length + j
  | 0, acc, n, k, ds, n', j, l, hk, h => by cases h
  | d + 1, acc, n, k, ds, n', j, l, hk, h => by
    rw [dfsR] at h
    split at h
    · cases hi : dfR L e n k with
      | error i => rw [hi] at h; cases h
      | ok q =>
        obtain ⟨⟨x, n1⟩, j1, l1⟩ := q
        rw [hi] at h
        obtain ⟨m', h, _⟩ := preV_out h
        have a1 := dfR_in hi
        have a2 := dfsR_in d (acc ++ [x]) n1 j1 a1.2.1 h
        simp at a2
        omega
    · cases h; omega
theorem moH_in {k j : Nat} {x : PT} {l : List Nat} (h : moH L e k = .ok (x, j, l)) : j = k + 3 ∧ j ≤ L.length ∧ x = tok L e (k + 1) ∧ l = [] := by
  unfold moH at h
  obtain ⟨_, k1, _, _, h1, h, e1⟩ := bnd_out h
  obtain ⟨_, k2, _, _, h2, h, e2⟩ := bnd_out h
  obtain ⟨_, k3, _, _, h3, h, e3⟩ := bnd_out h
  have a1 := expc_lt h1
  have a2 := nam_lt h2
  have a3 := expc_lt h3
  unfold expc at h1 h3
  unfold nam at h2
  split at h1
  · split at h2
    · split at h3
      · cases h1; cases h2; cases h3; cases h
        refine ⟨rfl, by omega, rfl, by simp_all⟩
      · cases h3
    · cases h2
  · cases h1
theorem moR_in {n k j n' : Nat} {m : Mo} {l : List Ev} (h : moR L e n k = .ok ((m, n'), j, l)) : k < j ∧ j ≤ L.length ∧ n' + k ≤ n + j := by
  unfold moR at h
  cases hh : moH L e k with
  | error i => rw [hh] at h; cases h
  | ok q =>
    obtain ⟨x, j0, l0⟩ := q
    rw [hh] at h
    obtain ⟨a0, a1, _⟩ := moH_in hh
    simp only [moB] at h
    cases hi : imsR L e (L.length - j0 + 1) [] j0 with
    | error i => rw [hi] at h; cases h
    | ok q =>
      obtain ⟨is, j1, l1⟩ := q
      rw [hi] at h
      simp only at h
      have a2 := imsR_in _ _ _ a1 hi
      cases hd : dfsR L e is.length (L.length - j1 + 1) [] n j1 with
      | error i => rw [hd] at h; cases h
      | ok q =>
        obtain ⟨⟨ds, n1⟩, j2, l2⟩ := q
        rw [hd] at h
        simp only at h
        have a3 := dfsR_in _ _ _ _ a2.2.1 hd
        split at h
        · rename_i hs
          have := sg_lt hs
          cases h
          omega
        · cases h
end Ps
end Go.Proofs.YtohjfikjbeafiaaGreatDoor
namespace Go.Proofs.YtohjfikjbeafiaaGreatDoor
open T1 (Tx.all)
namespace Ps
open T1.Tx
theorem toks_each {bs : List UInt8} : ∀ (f k : Nat) {l : List (Tk × Nat)}, toks bs f k = .ok l → (∀ x ∈ l, k ≤ x.2 ∧ x.2 < bs.length ∧ ∃ j, T1.Tx.one bs x.2 = .ok (x.1, j)) ∧ l.length ≤ bs.length - k
  | 0, k, l, h => by cases h; simp
  | f + 1, k, l, h => by
    by_cases hk : k < bs.length
    · by_cases h35 : (B bs k == 35) = true
      · rw [toks_remark hk h35] at h
        have a := upTo_le notTen bs k
        have b := upTo_le blankB bs (upTo notTen bs k)
        obtain ⟨h1, h2⟩ := toks_each f _ h
        exact ⟨fun x hx => ⟨by have := (h1 x hx).1; omega, (h1 x hx).2⟩, by omega⟩
      · have h35' : (B bs k == 35) = false := by simpa using h35
        by_cases hb : blankB (B bs k) = true
        · rw [toks_blank hk h35' hb] at h
          have a := upTo_le blankB bs k
          obtain ⟨h1, h2⟩ := toks_each f _ h
          exact ⟨fun x hx => ⟨by have := (h1 x hx).1; omega, (h1 x hx).2⟩, by omega⟩
        · have hb' : blankB (B bs k) = false := by simpa using hb
          cases h1 : T1.Tx.one bs k with
          | error er => rw [toks_err hk h35' hb' h1] at h; cases h
          | ok q =>
            obtain ⟨t, j⟩ := q
            have h9 := toks_ok (f := f) [] hk h35' hb' h1
            rw [ahead_nil, h] at h9
            have hj := one_ok hk h1
            cases hr : toks bs f j with
            | error er => rw [hr] at h9; cases h9
            | ok l2 =>
              rw [hr] at h9
              obtain ⟨h2, h3⟩ := toks_each f j hr
              obtain rfl : l = [(t, k)] ++ l2 := Except.ok.inj h9
              refine ⟨fun x hx => ?_, by simp; omega⟩
              rcases List.mem_cons.1 hx with rfl | hx
              · exact ⟨Nat.le_refl _, hk, j, h1⟩
              · exact ⟨by have := (h2 x hx).1; omega, (h2 x hx).2⟩
    · rw [toks_end hk] at h; cases h; simp
theorem txt_len (bs : List UInt8) : ∀ (f k : Nat) (acc s : List UInt8) (j : Nat), acc.length ≤ 64 → txt bs f k acc = some (s, j) → s.length ≤ 64
  | 0, k, acc, s, j, _, h => by cases h
  | f + 1, k, acc, s, j, ha, h => by
    rw [txt] at h
    split at h
    · split at h
      · simp at h; rw [← h.1]; exact ha
      · split at h
        · rename_i h1
          simp only [Bool.and_eq_true, Bool.not_eq_true', beq_eq_false_iff_ne, ne_eq] at h1
          exact txt_len bs f _ _ s j (by simp; omega) h
        · cases h
    · cases h
theorem one_s {bs : List UInt8} {k j : Nat} {t : Tk} (hk : k < bs.length) (h : T1.Tx.one bs k = .ok (t, j)) : t.s.length ≤ bs.length + 64 := by
  have hj := one_ok hk h
  have hs : ∀ m, (sub bs k m).length ≤ bs.length := fun m => by unfold sub; simp; omega
  unfold T1.Tx.one at h
  split at h
  · unfold oneWord at h
    split at h
    · cases h; have := hs (upTo innerB bs k); show (sub bs k (upTo innerB bs k)).length ≤ _; omega
    · split at h
      · cases h
      · cases h; have := hs (upTo innerB bs k); show (sub bs k (upTo innerB bs k)).length ≤ _; omega
  · split at h
    · unfold oneNum at h
      split at h
      · cases h
      · split at h
        · cases h; simp
        · cases h
    · split at h
      · unfold oneText at h
        split at h
        · rename_i s j' hx
          cases h
          have := txt_len bs _ _ [] s j (by simp) hx
          show s.length ≤ _; omega
        · cases h
      · unfold oneMark at h
        split at h
        · cases h; have := hs (k + 2); show (sub bs k (k + 2)).length ≤ _; omega
        · split at h
          · cases h; have := hs (k + 1); show (sub bs k (k + 1)).length ≤ _; omega
          · cases h
/-- A token as the parser holds it. -/
def ptOf (bs : List UInt8) (x : Tk × Nat) : PT := ⟨x.1.kind, x.1.n, x.1.s, (lnTo bs x.2 : Int) + 1, (x.2 : Int) - (stTo bs x.2 : Int) + 1⟩
def ptsOf (bs : List UInt8) (l : List (Tk × Nat)) : List PT := l.map (ptOf bs)
/-- The place behind a source. -/
def ptEnd (bs : List UInt8) : PT := ⟨0, 0, [], (lnTo bs bs.length : Int) + 1, (bs.length : Int) - (stTo bs bs.length : Int) + 1⟩
theorem pts_len {bs : List UInt8} {l : List (Tk × Nat)} (h : T1.Tx.all bs = .ok l) : (ptsOf bs l).length ≤ bs.length := by
  have := (toks_each _ _ h).2
  unfold ptsOf; rw [List.length_map]; omega
theorem pts_s {bs : List UInt8} {l : List (Tk × Nat)} (h : T1.Tx.all bs = .ok l) (hl : bs.length ≤ 60000) : ∀ j, (tok (ptsOf bs l) (ptEnd bs) j).s.length ≤ 65536 := by
  intro j
  unfold tok ptsOf
  rw [List.getElem?_map]
  cases hj : l[j]? with
  | none => simp [ptEnd]
  | some x =>
    obtain ⟨_, h2, i, h3⟩ := (toks_each _ _ h).1 x (List.mem_of_getElem? hj)
    have := one_s h2 h3
    show x.1.s.length ≤ _
    omega
/-- Each token has a place. -/
theorem tok_ln {bs : List UInt8} {l : List (Tk × Nat)} (j : Nat) : 1 ≤ (tok (ptsOf bs l) (ptEnd bs) j).ln := by
  unfold tok ptsOf
  rw [List.getElem?_map]
  cases hj : l[j]? with
  | none => simp [ptEnd]; omega
  | some x => show (1 : Int) ≤ (lnTo bs x.2 : Int) + 1; omega
end Ps
end Go.Proofs.YtohjfikjbeafiaaGreatDoor
