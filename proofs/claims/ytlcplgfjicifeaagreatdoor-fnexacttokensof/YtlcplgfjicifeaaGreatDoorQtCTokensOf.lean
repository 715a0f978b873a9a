/-
  The law FnExactTokensOf returns true at every argument: TokensOf answers as its model does, writes into no argument, and its answer owns its memory.
  Conditions: none beyond the row's own; whatever the arguments. The card ties the listed variables to the program's text.
-/
import Derived.Test.YtlcplgfjicifeaaGreatDoorQtOTokensOf
import Derived.Test.YtlcplgfjicifeaaGreatDoorQtMTokensOf
import Derived.Test.YtlcplgfjicifeaaGreatDoorQtGTokensOf
namespace Go.Proofs.YtlcplgfjicifeaaGreatDoor.fnExactTokensOf
open Go.ChangeShapes Go.WideShapes Go.ChangeAt Go.RowKit Go.Joins
set_option linter.unusedVariables false

theorem proved : Rows.FnExactTokensOfCardSaid :=
  Claim7.holds_tied_plain_at .later [] [.data, .handle, .pinned] true Rows.fnExactTokensOfCard.stood.harness true
    over (fun _ h => by cases h) (by kernel_rfl) (fun _ h => by cases h) fnExactTokensOf_row_tie rfl ⟨rfl, rfl⟩ kMain rfl
    (fun f fn hf hfn => by
      obtain rfl : f = 3 := Option.some.inj ((show Tryz.prog.funcNamed "loop.example/g00829/laws.FnExactTokensOf" = some 3 by kernel_rfl).symm.trans hf) |>.symm
      obtain rfl : fn = Tryz.f3 := (Option.some.inj (Tryz.func3.symm.trans hfn)).symm
      exact ⟨by kernel_rfl, fun j t ht => by
        rw [Tryz.params3] at ht
        have h3 : t = 23 ∨ t = 24 := by
          rcases j with _ | _ | j
          · exact .inl (by simpa using ht.symm)
          · exact .inr (by simpa using ht.symm)
          · simp at ht
        rcases h3 with rfl | rfl
        · exact (show Tryz.prog.wantsStandIn 23 = false by kernel_rfl)
        · exact (show Tryz.prog.wantsStandIn 24 = false by kernel_rfl)⟩)
    kGoes
#print axioms proved
end Go.Proofs.YtlcplgfjicifeaaGreatDoor.fnExactTokensOf
