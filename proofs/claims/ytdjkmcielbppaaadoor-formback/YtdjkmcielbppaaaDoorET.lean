import Derived.Test.YtdjkmcielbppaaaDoorRows
import Derived.Test.YtdjkmcielbppaaaDoorTie
import Derived.Test.YtdjkmcielbppaaaDoorE1
import Derived.ProofKit
import Derived.LaidMore
import Derived.LaidSub
import Derived.Lib.LaidTab
import Derived.OpenShut
import Derived.Stop.Joined
namespace Go.Proofs.YtdjkmcielbppaaaDoor
open Go.ChangeShapes Go.WideShapes Go.ChangeAt Go.WideMaps Go.WideElems Go.RowKit
set_option linter.unusedVariables false
set_option linter.unusedSimpArgs false

/-- What the rows list. -/
abbrev laidL : List (String × DataW Unit) := [("countersign/pct.digits", Rows.laid_countersign_pct_digits)]

/-- The door's own heap meets the condition. -/
theorem door_met (os : Os) (args : Array Value) : laidMetH Tryd.prog laidL ((World.doorLaid Tryd.prog 14 os).forCall (fun _ _ => 0) ⟨#[], args, []⟩).memory :=
  laidMetH_of_parts3 (fuel := 8) (laidMet_of_run' 8 (by kernel_rfl) (by kernel_rfl)) (by kernel_rfl) (by kernel_rfl)

theorem tab16_laid {W : World} (h : laidMetH Tryd.prog laidL W) : Tab16 W.heap.size W := by
  rw [show laidL = [("countersign/pct.digits", Lib.tabData .i32 digL)] from rfl] at h
  rw [MakeChecks.laidMetH_plain _ _ _ (by kernel_rfl)] at h
  have hg : Tryd.prog.globalNamed "countersign/pct.digits" = some 1 := by kernel_rfl
  have ht : (Tryd.prog.globals[1]?).map (·.type) = some 81 := by kernel_rfl
  have hu : Tryd.prog.underlying 81 = some (.array 16 21) := by kernel_rfl
  exact Lib.tabBelow_of_tabIs (Lib.tabIs_of_head hg ht hu (by kernel_rfl) (by kernel_rfl) (by kernel_rfl) h)

end Go.Proofs.YtdjkmcielbppaaaDoor
