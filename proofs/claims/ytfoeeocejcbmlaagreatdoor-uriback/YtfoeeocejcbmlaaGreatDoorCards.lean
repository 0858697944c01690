/-
  DERIVED. GIVEN WITH THE SEED: THE CARDS: each row of YtfoeeocejcbmlaaGreatDoorRows.lean that lists a variable, with what it lists TIED to the program's text (the seventh form; the later family's looks); each row that meets fmt, with fmt's text TOLD by the authors' own Lean function (tested against real Go, not proved from fmt's source: count such statements apart). THE CARD IS WHAT COUNTS. Prove the row's statement (the work); the ties are given (YtfoeeocejcbmlaaGreatDoorTie.lean); close each card by the builder's one call (the guide's Derived/Test/ToyasCard.lean, 'card_holds'). Laid BY PROGRAM, IN A SANDBOX (cutbox-door.mjs). By AI agents, Wed Nov 11 2026. No macro, syntax, notation, axiom, sorry.
-/
import Derived.Test.YtfoeeocejcbmlaaGreatDoorRows
import GoSem.ClaimSeven
namespace Go.Proofs.YtfoeeocejcbmlaaGreatDoor
namespace Rows

/-- THE TIED CARD OF 'countersignlaw11.UriAll'. -/
def uriAllCard : Claim7 := { stood := { row := uriAllRow, standIns := [], harness := (true, "59ca44bc0dcab8ff8d2423bbc4566ef2ee306f1df9dd45020ba4b999a3bc865e"), looks := false }, kinds := [], alts := [], laidByText := true, laidKinds := [.data, .data, .pinned], laidTests := true, laidLooks := .later }
def UriAllCardSaid : Prop := Claim7.holds Tryz.pinned (.plain (OpenSpec.ofChange uriAllSpec)) uriAllCard

/-- THE TIED CARD OF 'countersignlaw11.UriBack'. -/
def uriBackCard : Claim7 := { stood := { row := uriBackRow, standIns := [], harness := (true, "59ca44bc0dcab8ff8d2423bbc4566ef2ee306f1df9dd45020ba4b999a3bc865e"), looks := false }, kinds := [], alts := [], laidByText := true, laidKinds := [.data, .data, .pinned], laidTests := true, laidLooks := .later }
def UriBackCardSaid : Prop := Claim7.holds Tryz.pinned (.plain (OpenSpec.ofChange uriBackSpec)) uriBackCard

/-- THE SECOND FORM's CARD OF 'countersignlaw11.UriAll'. -/
def uriAllUptoCard : Claim7 := { stood := { row := uriAllUptoRow, standIns := [], harness := (true, "59ca44bc0dcab8ff8d2423bbc4566ef2ee306f1df9dd45020ba4b999a3bc865e"), looks := false }, kinds := [], alts := [], laidByText := true, laidKinds := [.data, .data, .pinned], laidTests := true, laidLooks := .later }
def UriAllUptoCardSaid : Prop := Claim7.holds Tryz.pinned (.plain (OpenSpec.upto uriAllSpec)) uriAllUptoCard

/-- THE SECOND FORM's CARD OF 'countersignlaw11.UriBack'. -/
def uriBackUptoCard : Claim7 := { stood := { row := uriBackUptoRow, standIns := [], harness := (true, "59ca44bc0dcab8ff8d2423bbc4566ef2ee306f1df9dd45020ba4b999a3bc865e"), looks := false }, kinds := [], alts := [], laidByText := true, laidKinds := [.data, .data, .pinned], laidTests := true, laidLooks := .later }
def UriBackUptoCardSaid : Prop := Claim7.holds Tryz.pinned (.plain (OpenSpec.upto uriBackSpec)) uriBackUptoCard
end Rows
end Go.Proofs.YtfoeeocejcbmlaaGreatDoor
