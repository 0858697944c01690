/-
  DERIVED. GIVEN WITH THE SEED: THE CARDS: each row of YtgmmbfnmojjbkaaGreatDoorRows.lean that lists a variable, with what it lists TIED to the program's text (the seventh form; the later family's looks); each row that meets fmt, with fmt's text TOLD by the authors' own Lean function (tested against real Go, not proved from fmt's source: count such statements apart). THE CARD IS WHAT COUNTS. Prove the row's statement (the work); the ties are given (YtgmmbfnmojjbkaaGreatDoorTie.lean); close each card by the builder's one call (the guide's Derived/Test/ToyasCard.lean, 'card_holds'). Laid BY PROGRAM, IN A SANDBOX (cutbox-door.mjs). By AI agents, Wed Nov 11 2026. No macro, syntax, notation, axiom, sorry.
-/
import Derived.Test.YtgmmbfnmojjbkaaGreatDoorRows
import GoSem.ClaimSeven
namespace Go.Proofs.YtgmmbfnmojjbkaaGreatDoor
namespace Rows

/-- THE TIED CARD OF 'countersignlaw9.MarkAll'. -/
def markAllCard : Claim7 := { stood := { row := markAllRow, standIns := [], harness := (true, "f1a5affb01b5f0d95d00ff329e8dd15eb37e1967c1e6ca37f209169ce0df2091"), looks := true }, kinds := [], alts := [], laidByText := true, laidKinds := [.data, .pinned], laidTests := true, laidLooks := .later }
def MarkAllCardSaid : Prop := Claim7.holds Tryz.pinned (.plain (OpenSpec.ofChange markAllSpec)) markAllCard

/-- THE TIED CARD OF 'countersignlaw9.MarkFind'. -/
def markFindCard : Claim7 := { stood := { row := markFindRow, standIns := [], harness := (true, "f1a5affb01b5f0d95d00ff329e8dd15eb37e1967c1e6ca37f209169ce0df2091"), looks := true }, kinds := [], alts := [], laidByText := true, laidKinds := [.data, .pinned], laidTests := true, laidLooks := .later }
def MarkFindCardSaid : Prop := Claim7.holds Tryz.pinned (.plain (OpenSpec.ofChange markFindSpec)) markFindCard

/-- THE TIED CARD OF 'countersignlaw9.MarkStands'. -/
def markStandsCard : Claim7 := { stood := { row := markStandsRow, standIns := [], harness := (true, "f1a5affb01b5f0d95d00ff329e8dd15eb37e1967c1e6ca37f209169ce0df2091"), looks := true }, kinds := [], alts := [], laidByText := true, laidKinds := [.data, .pinned], laidTests := true, laidLooks := .later }
def MarkStandsCardSaid : Prop := Claim7.holds Tryz.pinned (.plain (OpenSpec.ofChange markStandsSpec)) markStandsCard

/-- THE TIED CARD OF 'countersignlaw9.MarkNone'. -/
def markNoneCard : Claim7 := { stood := { row := markNoneRow, standIns := [], harness := (true, "f1a5affb01b5f0d95d00ff329e8dd15eb37e1967c1e6ca37f209169ce0df2091"), looks := true }, kinds := [], alts := [], laidByText := true, laidKinds := [.data, .pinned], laidTests := true, laidLooks := .later }
def MarkNoneCardSaid : Prop := Claim7.holds Tryz.pinned (.plain (OpenSpec.ofChange markNoneSpec)) markNoneCard

/-- THE SECOND FORM's CARD OF 'countersignlaw9.MarkAll'. -/
def markAllUptoCard : Claim7 := { stood := { row := markAllUptoRow, standIns := [], harness := (true, "f1a5affb01b5f0d95d00ff329e8dd15eb37e1967c1e6ca37f209169ce0df2091"), looks := true }, kinds := [], alts := [], laidByText := true, laidKinds := [.data, .pinned], laidTests := true, laidLooks := .later }
def MarkAllUptoCardSaid : Prop := Claim7.holds Tryz.pinned (.plain (OpenSpec.upto markAllSpec)) markAllUptoCard

/-- THE SECOND FORM's CARD OF 'countersignlaw9.MarkFind'. -/
def markFindUptoCard : Claim7 := { stood := { row := markFindUptoRow, standIns := [], harness := (true, "f1a5affb01b5f0d95d00ff329e8dd15eb37e1967c1e6ca37f209169ce0df2091"), looks := true }, kinds := [], alts := [], laidByText := true, laidKinds := [.data, .pinned], laidTests := true, laidLooks := .later }
def MarkFindUptoCardSaid : Prop := Claim7.holds Tryz.pinned (.plain (OpenSpec.upto markFindSpec)) markFindUptoCard

/-- THE SECOND FORM's CARD OF 'countersignlaw9.MarkStands'. -/
def markStandsUptoCard : Claim7 := { stood := { row := markStandsUptoRow, standIns := [], harness := (true, "f1a5affb01b5f0d95d00ff329e8dd15eb37e1967c1e6ca37f209169ce0df2091"), looks := true }, kinds := [], alts := [], laidByText := true, laidKinds := [.data, .pinned], laidTests := true, laidLooks := .later }
def MarkStandsUptoCardSaid : Prop := Claim7.holds Tryz.pinned (.plain (OpenSpec.upto markStandsSpec)) markStandsUptoCard

/-- THE SECOND FORM's CARD OF 'countersignlaw9.MarkNone'. -/
def markNoneUptoCard : Claim7 := { stood := { row := markNoneUptoRow, standIns := [], harness := (true, "f1a5affb01b5f0d95d00ff329e8dd15eb37e1967c1e6ca37f209169ce0df2091"), looks := true }, kinds := [], alts := [], laidByText := true, laidKinds := [.data, .pinned], laidTests := true, laidLooks := .later }
def MarkNoneUptoCardSaid : Prop := Claim7.holds Tryz.pinned (.plain (OpenSpec.upto markNoneSpec)) markNoneUptoCard
end Rows
end Go.Proofs.YtgmmbfnmojjbkaaGreatDoor
