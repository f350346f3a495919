/- Package core: part. -/
import Derived.Test.YtnhihajhhlilfaaMgav
import Derived.Test.YtnhihajhhlilfaaMgaw
import Derived.Test.YtnhihajhhlilfaaMgax
import Derived.Test.YtnhihajhhlilfaaMgay
import Derived.Test.YtnhihajhhlilfaaMgaz
namespace Go.Proofs.Ytnhihajhhlilfaa
open Go.RowKit Co
open T3.Tp (Ty enc cns)
open Tr (T flat flats)
set_option maxRecDepth 100000
set_option linter.unusedSimpArgs false
set_option linter.unusedVariables false

/-- Each kind's function tells its type. -/
theorem kind_any {B cb : Nat} {nv : Value} {l : List Tr.Nd} {rb N : Nat} {x : Tr.Nd} {ks : List T} {i : Nat} {rest : List Tr.Nd} (h : Kn B cb nv l rb N x ks i rest) {q : Int × Nat} (hq : rowF x.kind = some q) : KindC B cb nv l rb q.2 x ks i := by
  have hm := rowF_mem hq
  obtain ⟨q1, q2⟩ := q
  simp only [rowL, List.mem_cons, Prod.mk.injEq, List.not_mem_nil, or_false] at hm
  rcases hm with ⟨hκ, -, hf⟩ | ⟨hκ, -, hf⟩ | ⟨hκ, -, hf⟩ | ⟨hκ, -, hf⟩ | ⟨hκ, -, hf⟩ | ⟨hκ, -, hf⟩ | ⟨hκ, -, hf⟩ | ⟨hκ, -, hf⟩ | ⟨hκ, -, hf⟩ | ⟨hκ, -, hf⟩ | ⟨hκ, -, hf⟩ | ⟨hκ, -, hf⟩ | ⟨hκ, -, hf⟩ | ⟨hκ, -, hf⟩ | ⟨hκ, -, hf⟩ | ⟨hκ, -, hf⟩ | ⟨hκ, -, hf⟩ | ⟨hκ, -, hf⟩ | ⟨hκ, -, hf⟩ | ⟨hκ, -, hf⟩ | ⟨hκ, -, hf⟩ | ⟨hκ, -, hf⟩ | ⟨hκ, -, hf⟩ | ⟨hκ, -, hf⟩ | ⟨hκ, -, hf⟩ | ⟨hκ, -, hf⟩ | ⟨hκ, -, hf⟩ | ⟨hκ, -, hf⟩ | ⟨hκ, -, hf⟩
  all_goals (show KindC B cb nv l rb q2 x ks i; rw [hf])
  · exact kind_number h hκ
  · exact kind_text h hκ
  · exact kind_truth h hκ
  · exact kind_variable h hκ
  · exact kind_function h hκ
  · exact kind_recursive h hκ
  · exact kind_call h hκ
  · exact kind_let h hκ
  · exact kind_choice h hκ
  · exact kind_reckoning h (.inl hκ)
  · exact kind_reckoning h (.inr (.inl hκ))
  · exact kind_reckoning h (.inr (.inr (.inl hκ)))
  · exact kind_join h hκ
  · exact kind_comparison h (.inl hκ)
  · exact kind_comparison h (.inr hκ)
  · exact kind_reckoning h (.inr (.inr (.inr hκ)))
  · exact kind_size h hκ
  · exact kind_pair h hκ
  · exact kind_first h hκ
  · exact kind_second h hκ
  · exact kind_list h hκ
  · exact kind_head h hκ
  · exact kind_tail h hκ
  · exact kind_empty h hκ
  · exact kind_cons h hκ
  · exact kind_box h hκ
  · exact kind_get h hκ
  · exact kind_set h hκ
  · exact kind_cast h hκ
theorem rowL_enters {k : Int} {q : Int × Nat} (hq : rowF k = some q) : ∀ args w, (callFunc q.2 args).run Try.prog w = .ok (.enter q.2 args) w := by
  have hm := rowF_mem hq
  obtain ⟨q1, q2⟩ := q
  simp only [rowL, List.mem_cons, Prod.mk.injEq, List.not_mem_nil, or_false] at hm
  show ∀ args w, (callFunc q2 args).run Try.prog w = .ok (.enter q2 args) w
  rcases hm with ⟨-, -, rfl⟩ | ⟨-, -, rfl⟩ | ⟨-, -, rfl⟩ | ⟨-, -, rfl⟩ | ⟨-, -, rfl⟩ | ⟨-, -, rfl⟩ | ⟨-, -, rfl⟩ | ⟨-, -, rfl⟩ | ⟨-, -, rfl⟩ | ⟨-, -, rfl⟩ | ⟨-, -, rfl⟩ | ⟨-, -, rfl⟩ | ⟨-, -, rfl⟩ | ⟨-, -, rfl⟩ | ⟨-, -, rfl⟩ | ⟨-, -, rfl⟩ | ⟨-, -, rfl⟩ | ⟨-, -, rfl⟩ | ⟨-, -, rfl⟩ | ⟨-, -, rfl⟩ | ⟨-, -, rfl⟩ | ⟨-, -, rfl⟩ | ⟨-, -, rfl⟩ | ⟨-, -, rfl⟩ | ⟨-, -, rfl⟩ | ⟨-, -, rfl⟩ | ⟨-, -, rfl⟩ | ⟨-, -, rfl⟩ | ⟨-, -, rfl⟩
  · exact enters_of Try.func29 (by kernel_rfl) rfl
  · exact enters_of Try.func30 (by kernel_rfl) rfl
  · exact enters_of Try.func31 (by kernel_rfl) rfl
  · exact enters_of Try.func32 (by kernel_rfl) rfl
  · exact enters_of Try.func33 (by kernel_rfl) rfl
  · exact enters_of Try.func34 (by kernel_rfl) rfl
  · exact enters_of Try.func35 (by kernel_rfl) rfl
  · exact enters_of Try.func36 (by kernel_rfl) rfl
  · exact enters_of Try.func37 (by kernel_rfl) rfl
  · exact enters_of Try.func38 (by kernel_rfl) rfl
  · exact enters_of Try.func38 (by kernel_rfl) rfl
  · exact enters_of Try.func38 (by kernel_rfl) rfl
  · exact enters_of Try.func39 (by kernel_rfl) rfl
  · exact enters_of Try.func40 (by kernel_rfl) rfl
  · exact enters_of Try.func40 (by kernel_rfl) rfl
  · exact enters_of Try.func38 (by kernel_rfl) rfl
  · exact enters_of Try.func41 (by kernel_rfl) rfl
  · exact enters_of Try.func42 (by kernel_rfl) rfl
  · exact enters_of Try.func43 (by kernel_rfl) rfl
  · exact enters_of Try.func44 (by kernel_rfl) rfl
  · exact enters_of Try.func45 (by kernel_rfl) rfl
  · exact enters_of Try.func46 (by kernel_rfl) rfl
  · exact enters_of Try.func47 (by kernel_rfl) rfl
  · exact enters_of Try.func48 (by kernel_rfl) rfl
  · exact enters_of Try.func49 (by kernel_rfl) rfl
  · exact enters_of Try.func50 (by kernel_rfl) rfl
  · exact enters_of Try.func51 (by kernel_rfl) rfl
  · exact enters_of Try.func52 (by kernel_rfl) rfl
  · exact enters_of Try.func53 (by kernel_rfl) rfl

end Go.Proofs.Ytnhihajhhlilfaa
