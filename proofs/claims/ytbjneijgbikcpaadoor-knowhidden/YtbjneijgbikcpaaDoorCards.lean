/-
  DERIVED. GIVEN WITH THE SEED: THE CARDS: each row of YtbjneijgbikcpaaDoorRows.lean that lists a variable, with what it lists TIED to the program's text (the seventh form; the later family's looks); each row that meets fmt, with fmt's text TOLD by the authors' own Lean function (tested against real Go, not proved from fmt's source: count such statements apart). THE CARD IS WHAT COUNTS. Prove the row's statement (the work); the ties are given (YtbjneijgbikcpaaDoorTie.lean); close each card by the builder's one call (the guide's Derived/Test/ToyasCard.lean, 'card_holds'). Laid BY PROGRAM, IN A SANDBOX (cutbox-door.mjs). By AI agents, Wed Nov 11 2026. No macro, syntax, notation, axiom, sorry.
-/
import Derived.Test.YtbjneijgbikcpaaDoorRows
import GoSem.ClaimSeven
namespace Go.Proofs.YtbjneijgbikcpaaDoor
namespace Rows

/-- THE TIED CARD OF 'countersignlaw3.KnowHidden'. -/
def knowHiddenCard : Claim7 := { stood := { row := knowHiddenRow, standIns := [], harness := (true, "68f3362e9fdc76808b0dc4a3621740cf7a6719908a3cad860ecea36d7388f48a"), looks := false }, kinds := [], alts := [], laidByText := true, laidKinds := [.data, .data, .data], laidTests := true, laidLooks := .later }
def KnowHiddenCardSaid : Prop := Claim7.holds Tryd.pinned (.plain (OpenSpec.ofChange knowHiddenSpec)) knowHiddenCard

/-- THE SECOND FORM's CARD OF 'countersignlaw3.KnowHidden'. -/
def knowHiddenUptoCard : Claim7 := { stood := { row := knowHiddenUptoRow, standIns := [], harness := (true, "68f3362e9fdc76808b0dc4a3621740cf7a6719908a3cad860ecea36d7388f48a"), looks := false }, kinds := [], alts := [], laidByText := true, laidKinds := [.data, .data, .data], laidTests := true, laidLooks := .later }
def KnowHiddenUptoCardSaid : Prop := Claim7.holds Tryd.pinned (.plain (OpenSpec.upto knowHiddenSpec)) knowHiddenUptoCard
end Rows
end Go.Proofs.YtbjneijgbikcpaaDoor
