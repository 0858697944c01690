import Derived.Test.YtfoeeocejcbmlaaGreatDoorRows
import Derived.Test.YtfoeeocejcbmlaaGreatDoorTie
import Derived.Test.YtfoeeocejcbmlaaGreatDoorE1
import Derived.ProofKit
import Derived.LaidMore
import Derived.Lay
import Derived.LaidSub
import Derived.Lib.LaidTab
import Derived.OpenShut
import Derived.Stop.Joined
namespace Go.Proofs.YtfoeeocejcbmlaaGreatDoor
open Go.ChangeShapes Go.WideShapes Go.ChangeAt Go.WideMaps Go.WideElems Go.RowKit
set_option linter.unusedVariables false
set_option linter.unusedSimpArgs false

/-- What the rows list. -/
abbrev laidL : List (String × DataW Unit) := [("unicode/utf8.acceptRanges", Rows.laid_unicode_utf8_acceptRanges), ("countersign/pct.digits", Rows.laid_countersign_pct_digits), ("unicode/utf8.first", Rows.laid_unicode_utf8_first)]

/-- A heap that meets the condition. -/
theorem door_met (os : Os) (args : Array Value) : laidMetH Tryz.prog laidL ((World.laidAll Tryz.prog os laidL).forCall (fun _ _ => 0) ⟨#[], args, []⟩).memory := by
  rw [MakeChecks.laidMetH_plain _ _ _ (by kernel_rfl)]
  exact laidMet_laidAll _ (by kernel_rfl) (by kernel_rfl)

theorem tab16_laid {W : World} (h : laidMetH Tryz.prog laidL W) : Tab16 W.heap.size W := by
  have h1 := h.filter (fun x => x.1 == "countersign/pct.digits")
  rw [show laidL.filter (fun x => x.1 == "countersign/pct.digits") = [("countersign/pct.digits", Lib.tabData .i32 digL)] from rfl] at h1
  rw [MakeChecks.laidMetH_plain _ _ _ (by kernel_rfl)] at h1
  have hg : Tryz.prog.globalNamed "countersign/pct.digits" = some 1 := by kernel_rfl
  have ht : (Tryz.prog.globals[1]?).map (·.type) = some 111 := by kernel_rfl
  have hu : Tryz.prog.underlying 111 = some (.array 16 21) := by kernel_rfl
  exact Lib.tabBelow_of_tabIs (Lib.tabIs_of_head hg ht hu (by kernel_rfl) (by kernel_rfl) (by kernel_rfl) h1)

end Go.Proofs.YtfoeeocejcbmlaaGreatDoor
