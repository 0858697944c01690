/-
  DERIVED. GIVEN WITH THE SEED: THE CARDS: each row of YtanpplgmdemlaaaGreatDoorRows.lean that lists a variable, with what it lists TIED to the program's text (the seventh form; the later family's looks); each row that meets fmt, with fmt's text TOLD by the authors' own Lean function (tested against real Go, not proved from fmt's source: count such statements apart). THE CARD IS WHAT COUNTS. Prove the row's statement (the work); the ties are given (YtanpplgmdemlaaaGreatDoorTie.lean); close each card by the builder's one call (the guide's Derived/Test/ToyasCard.lean, 'card_holds'). Laid BY PROGRAM, IN A SANDBOX (cutbox-door.mjs). By AI agents, Wed Nov 11 2026. No macro, syntax, notation, axiom, sorry.
-/
import Derived.Test.YtanpplgmdemlaaaGreatDoorRows
import GoSem.ClaimSeven
namespace Go.Proofs.YtanpplgmdemlaaaGreatDoor
namespace Rows

/-- THE TIED CARD OF 'countersignlaw4.ProofWay'. -/
def proofWayCard : Claim7 := { stood := { row := proofWayRow, standIns := [], harness := (true, "d5a800e2d6d42b1882453dfb7215da5a671a4453a8bf92b13ccb7310278766e4"), looks := true }, kinds := [], alts := [], laidByText := true, laidKinds := [.data, .data, .data], laidTests := true, laidLooks := .later }
def ProofWayCardSaid : Prop := Claim7.holds Tryz.pinned (.plain (OpenSpec.ofChange proofWaySpec)) proofWayCard

/-- THE SECOND FORM's CARD OF 'countersignlaw4.ProofWay'. -/
def proofWayUptoCard : Claim7 := { stood := { row := proofWayUptoRow, standIns := [], harness := (true, "d5a800e2d6d42b1882453dfb7215da5a671a4453a8bf92b13ccb7310278766e4"), looks := true }, kinds := [], alts := [], laidByText := true, laidKinds := [.data, .data, .data], laidTests := true, laidLooks := .later }
def ProofWayUptoCardSaid : Prop := Claim7.holds Tryz.pinned (.plain (OpenSpec.upto proofWaySpec)) proofWayUptoCard
end Rows
end Go.Proofs.YtanpplgmdemlaaaGreatDoor
