import Derived.Test.YtbjneijgbikcpaaDoorW9
namespace Go.Proofs.YtbjneijgbikcpaaDoor
open Go.RowKit
set_option linter.unusedVariables false
set_option linter.unusedSimpArgs false

/-- No term of the row, nor one within, is the term (b, m). -/
def missF (b : Nd) (m : Fo) : Fo → Bool
  | .nil => true
  | .node _ _ a l r => (ordT a l b m != 0) && (missF b m l && missF b m r)

def missT (b : Nd) (m : Fo) (a : Nd) (l : Fo) : Bool := (ordT a l b m != 0) && missF b m l

theorem missF_node (b : Nd) (m : Fo) (c d : Nat) (a : Nd) (l r : Fo) : missF b m (.node c d a l r) = (missT b m a l && missF b m r) := by rw [missF, missT, Bool.and_assoc]

end Go.Proofs.YtbjneijgbikcpaaDoor
