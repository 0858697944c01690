/-
  DERIVED. GIVEN WITH THE SEED: THE CARDS: each row of YtldpnhlifgkmiaaDoorRows.lean that lists a variable, with what it lists TIED to the program's text (the seventh form; the later family's looks); each row that meets fmt, with fmt's text TOLD by the authors' own Lean function (tested against real Go, not proved from fmt's source: count such statements apart). THE CARD IS WHAT COUNTS. Prove the row's statement (the work); the ties are given (YtldpnhlifgkmiaaDoorTie.lean); close each card by the builder's one call (the guide's Derived/Test/ToyasCard.lean, 'card_holds'). Laid BY PROGRAM, IN A SANDBOX (cutbox-door.mjs). By AI agents, Wed Nov 11 2026. No macro, syntax, notation, axiom, sorry.
-/
import Derived.Test.YtldpnhlifgkmiaaDoorRows
import GoSem.ClaimSeven
namespace Go.Proofs.YtldpnhlifgkmiaaDoor
namespace Rows

/-- THE TIED CARD OF 'countersignlaw3.KnowAll'. -/
def knowAllCard : Claim7 := { stood := { row := knowAllRow, standIns := [], harness := (true, "899cfba73697e9fc186ef70b9cfd3d60fa6f6bcac21c37b671aa0bb4ada31ad8"), looks := true }, kinds := [], alts := [], laidByText := true, laidKinds := [.data, .data, .data], laidTests := true, laidLooks := .later }
def KnowAllCardSaid : Prop := Claim7.holds Tryd.pinned (.plain (OpenSpec.ofChange knowAllSpec)) knowAllCard

/-- THE TIED CARD OF 'countersignlaw3.KnowGrows'. -/
def knowGrowsCard : Claim7 := { stood := { row := knowGrowsRow, standIns := [], harness := (true, "899cfba73697e9fc186ef70b9cfd3d60fa6f6bcac21c37b671aa0bb4ada31ad8"), looks := true }, kinds := [], alts := [], laidByText := true, laidKinds := [.data, .data, .data], laidTests := true, laidLooks := .later }
def KnowGrowsCardSaid : Prop := Claim7.holds Tryd.pinned (.plain (OpenSpec.ofChange knowGrowsSpec)) knowGrowsCard

/-- THE TIED CARD OF 'countersignlaw3.KnowOpened'. -/
def knowOpenedCard : Claim7 := { stood := { row := knowOpenedRow, standIns := [], harness := (true, "899cfba73697e9fc186ef70b9cfd3d60fa6f6bcac21c37b671aa0bb4ada31ad8"), looks := true }, kinds := [], alts := [], laidByText := true, laidKinds := [.data, .data, .data], laidTests := true, laidLooks := .later }
def KnowOpenedCardSaid : Prop := Claim7.holds Tryd.pinned (.plain (OpenSpec.ofChange knowOpenedSpec)) knowOpenedCard

/-- THE TIED CARD OF 'countersignlaw3.KnowHidden'. -/
def knowHiddenCard : Claim7 := { stood := { row := knowHiddenRow, standIns := [], harness := (true, "899cfba73697e9fc186ef70b9cfd3d60fa6f6bcac21c37b671aa0bb4ada31ad8"), looks := true }, kinds := [], alts := [], laidByText := true, laidKinds := [.data, .data, .data], laidTests := true, laidLooks := .later }
def KnowHiddenCardSaid : Prop := Claim7.holds Tryd.pinned (.plain (OpenSpec.ofChange knowHiddenSpec)) knowHiddenCard

/-- THE TIED CARD OF 'countersignlaw4.ProofSound'. -/
def proofSoundCard : Claim7 := { stood := { row := proofSoundRow, standIns := [], harness := (true, "899cfba73697e9fc186ef70b9cfd3d60fa6f6bcac21c37b671aa0bb4ada31ad8"), looks := true }, kinds := [], alts := [], laidByText := true, laidKinds := [.data, .data, .data], laidTests := true, laidLooks := .later }
def ProofSoundCardSaid : Prop := Claim7.holds Tryd.pinned (.plain (OpenSpec.ofChange proofSoundSpec)) proofSoundCard

/-- THE TIED CARD OF 'countersignlaw4.ProofMany'. -/
def proofManyCard : Claim7 := { stood := { row := proofManyRow, standIns := [], harness := (true, "899cfba73697e9fc186ef70b9cfd3d60fa6f6bcac21c37b671aa0bb4ada31ad8"), looks := true }, kinds := [], alts := [], laidByText := true, laidKinds := [.data, .data, .data], laidTests := true, laidLooks := .later }
def ProofManyCardSaid : Prop := Claim7.holds Tryd.pinned (.plain (OpenSpec.ofChange proofManySpec)) proofManyCard

/-- THE SECOND FORM's CARD OF 'countersignlaw3.KnowAll'. -/
def knowAllUptoCard : Claim7 := { stood := { row := knowAllUptoRow, standIns := [], harness := (true, "899cfba73697e9fc186ef70b9cfd3d60fa6f6bcac21c37b671aa0bb4ada31ad8"), looks := true }, kinds := [], alts := [], laidByText := true, laidKinds := [.data, .data, .data], laidTests := true, laidLooks := .later }
def KnowAllUptoCardSaid : Prop := Claim7.holds Tryd.pinned (.plain (OpenSpec.upto knowAllSpec)) knowAllUptoCard

/-- THE SECOND FORM's CARD OF 'countersignlaw3.KnowGrows'. -/
def knowGrowsUptoCard : Claim7 := { stood := { row := knowGrowsUptoRow, standIns := [], harness := (true, "899cfba73697e9fc186ef70b9cfd3d60fa6f6bcac21c37b671aa0bb4ada31ad8"), looks := true }, kinds := [], alts := [], laidByText := true, laidKinds := [.data, .data, .data], laidTests := true, laidLooks := .later }
def KnowGrowsUptoCardSaid : Prop := Claim7.holds Tryd.pinned (.plain (OpenSpec.upto knowGrowsSpec)) knowGrowsUptoCard

/-- THE SECOND FORM's CARD OF 'countersignlaw3.KnowOpened'. -/
def knowOpenedUptoCard : Claim7 := { stood := { row := knowOpenedUptoRow, standIns := [], harness := (true, "899cfba73697e9fc186ef70b9cfd3d60fa6f6bcac21c37b671aa0bb4ada31ad8"), looks := true }, kinds := [], alts := [], laidByText := true, laidKinds := [.data, .data, .data], laidTests := true, laidLooks := .later }
def KnowOpenedUptoCardSaid : Prop := Claim7.holds Tryd.pinned (.plain (OpenSpec.upto knowOpenedSpec)) knowOpenedUptoCard

/-- THE SECOND FORM's CARD OF 'countersignlaw3.KnowHidden'. -/
def knowHiddenUptoCard : Claim7 := { stood := { row := knowHiddenUptoRow, standIns := [], harness := (true, "899cfba73697e9fc186ef70b9cfd3d60fa6f6bcac21c37b671aa0bb4ada31ad8"), looks := true }, kinds := [], alts := [], laidByText := true, laidKinds := [.data, .data, .data], laidTests := true, laidLooks := .later }
def KnowHiddenUptoCardSaid : Prop := Claim7.holds Tryd.pinned (.plain (OpenSpec.upto knowHiddenSpec)) knowHiddenUptoCard

/-- THE SECOND FORM's CARD OF 'countersignlaw4.ProofSound'. -/
def proofSoundUptoCard : Claim7 := { stood := { row := proofSoundUptoRow, standIns := [], harness := (true, "899cfba73697e9fc186ef70b9cfd3d60fa6f6bcac21c37b671aa0bb4ada31ad8"), looks := true }, kinds := [], alts := [], laidByText := true, laidKinds := [.data, .data, .data], laidTests := true, laidLooks := .later }
def ProofSoundUptoCardSaid : Prop := Claim7.holds Tryd.pinned (.plain (OpenSpec.upto proofSoundSpec)) proofSoundUptoCard

/-- THE SECOND FORM's CARD OF 'countersignlaw4.ProofMany'. -/
def proofManyUptoCard : Claim7 := { stood := { row := proofManyUptoRow, standIns := [], harness := (true, "899cfba73697e9fc186ef70b9cfd3d60fa6f6bcac21c37b671aa0bb4ada31ad8"), looks := true }, kinds := [], alts := [], laidByText := true, laidKinds := [.data, .data, .data], laidTests := true, laidLooks := .later }
def ProofManyUptoCardSaid : Prop := Claim7.holds Tryd.pinned (.plain (OpenSpec.upto proofManySpec)) proofManyUptoCard
end Rows
end Go.Proofs.YtldpnhlifgkmiaaDoor
