/-
  DERIVED. GIVEN WITH THE SEED: THE CARDS: each row of YtfoeeocejcbmlaaDoorRows.lean that lists a variable, with what it lists TIED to the program's text (the seventh form; the later family's looks); each row that meets fmt, with fmt's text TOLD by the authors' own Lean function (tested against real Go, not proved from fmt's source: count such statements apart). THE CARD IS WHAT COUNTS. Prove the row's statement (the work); the ties are given (YtfoeeocejcbmlaaDoorTie.lean); close each card by the builder's one call (the guide's Derived/Test/ToyasCard.lean, 'card_holds'). Laid BY PROGRAM, IN A SANDBOX (cutbox-door.mjs). By AI agents, Wed Nov 11 2026. No macro, syntax, notation, axiom, sorry.
-/
import Derived.Test.YtfoeeocejcbmlaaDoorRows
import GoSem.ClaimSeven
namespace Go.Proofs.YtfoeeocejcbmlaaDoor
namespace Rows

/-- THE TIED CARD OF 'countersignlaw11.UriMay'. -/
def uriMayCard : Claim7 := { stood := { row := uriMayRow, standIns := [], harness := (true, "67b31f245c253676b91d0f58f1e22da05160781e456f6000b03a235ffd1232c4"), looks := false }, kinds := [], alts := [], laidByText := true, laidKinds := [.data, .data, .pinned], laidTests := true, laidLooks := .later }
def UriMayCardSaid : Prop := Claim7.holds Tryd.pinned (.plain (OpenSpec.ofChange uriMaySpec)) uriMayCard

/-- THE TIED CARD OF 'countersignlaw11.UriBounds'. -/
def uriBoundsCard : Claim7 := { stood := { row := uriBoundsRow, standIns := [], harness := (true, "67b31f245c253676b91d0f58f1e22da05160781e456f6000b03a235ffd1232c4"), looks := false }, kinds := [], alts := [], laidByText := true, laidKinds := [.data, .data, .pinned], laidTests := true, laidLooks := .later }
def UriBoundsCardSaid : Prop := Claim7.holds Tryd.pinned (.plain (OpenSpec.ofChange uriBoundsSpec)) uriBoundsCard

/-- THE SECOND FORM's CARD OF 'countersignlaw11.UriMay'. -/
def uriMayUptoCard : Claim7 := { stood := { row := uriMayUptoRow, standIns := [], harness := (true, "67b31f245c253676b91d0f58f1e22da05160781e456f6000b03a235ffd1232c4"), looks := false }, kinds := [], alts := [], laidByText := true, laidKinds := [.data, .data, .pinned], laidTests := true, laidLooks := .later }
def UriMayUptoCardSaid : Prop := Claim7.holds Tryd.pinned (.plain (OpenSpec.upto uriMaySpec)) uriMayUptoCard

/-- THE SECOND FORM's CARD OF 'countersignlaw11.UriBounds'. -/
def uriBoundsUptoCard : Claim7 := { stood := { row := uriBoundsUptoRow, standIns := [], harness := (true, "67b31f245c253676b91d0f58f1e22da05160781e456f6000b03a235ffd1232c4"), looks := false }, kinds := [], alts := [], laidByText := true, laidKinds := [.data, .data, .pinned], laidTests := true, laidLooks := .later }
def UriBoundsUptoCardSaid : Prop := Claim7.holds Tryd.pinned (.plain (OpenSpec.upto uriBoundsSpec)) uriBoundsUptoCard
end Rows
end Go.Proofs.YtfoeeocejcbmlaaDoor
