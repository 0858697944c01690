/-
  NARROWER THAN 'FOR EVERY INPUT', by the rows' own cells (each row's printed sentence says how): FormAll: laid · FormBack: laid · FormOnly: laid · FormMany: laid.
  DERIVED. THE GIVEN ROWS OF THIS SEAT. 4 by the template 'for every input the law returns true; each argument reads behind the call as it read before'; 0 by the template 'total and deterministic' (their statements: YtdjkmcielbppaaaDoorTotals.lean).
  GIVEN WITH THE SEED: the statements are not yours to turn. If you find one false, say at which input.
  Laid BY PROGRAM, IN A SANDBOX (cutbox-rows.mjs): the forced cells as the released guide's own fill.sh prints them over the translation 18794b6899854239… (all of the seat's roots in one cut). By AI agents, Wed Nov 11 2026. No macro, syntax, notation, axiom, sorry.
-/
import Derived.Test.YtdjkmcielbppaaaDoorChecked
import GoSem.Claim
import GoSem.ClaimJoined
import GoSem.ClaimMapViews
import Derived.JoinedTies
import Derived.KernelRfl
namespace Go.Proofs.YtdjkmcielbppaaaDoor
/- THE CELL 'sum', in the pinned program and in every row, IS THE sha256 OF THE DUMP (.gsa) THAT YtdjkmcielbppaaaDoorProg.lean LOADS. Nothing in Lean hashes anything: it is a label: what it is worth is what the hold of that sum in a sandbox is worth. -/
noncomputable def Tryd.pinned : Pinned := { name := "ytdjkmcielbppaaadoor", sum := "18794b6899854239485e13d2a2783974883a5d6b89f5638fd611b1fbee6363a4", checked := Tryd.checked }
namespace Rows
def none {H : Type} : Left H := { results := [], args := [] }

/- WHAT THE LISTED PACKAGE-LEVEL VARIABLES READ AS WHEN THE CALL BEGINS. Each datum BY PROGRAM (the guide's laid-datum.mjs) off the statement by which the dump's own 'gosem.cut.vars' lays the variable. In a bare row this is a premise. The card (YtdjkmcielbppaaaDoorCards.lean) ties it to the program's text. -/
def laid_countersign_pct_digits {H : Type} : DataW H := .agg [.lit (.int .i32 48), .lit (.int .i32 49), .lit (.int .i32 50), .lit (.int .i32 51), .lit (.int .i32 52), .lit (.int .i32 53), .lit (.int .i32 54), .lit (.int .i32 55), .lit (.int .i32 56), .lit (.int .i32 57), .lit (.int .i32 65), .lit (.int .i32 66), .lit (.int .i32 67), .lit (.int .i32 68), .lit (.int .i32 69), .lit (.int .i32 70)]

/-- 'countersignlaw10.FormAll': WHATEVER THE INPUT: true; the input reads as it did. -/
def formAllSpec : ChangeSpec := { name := "formAll", fn := fun _ => fun
  | [d1, d2, d3, d4] => { results := [.lit (.bool true)], args := [d1, d2, d3, d4] }
  | _ => none }
def formAllRow : OpenClaim := { program := "ytdjkmcielbppaaadoor", sum := "18794b6899854239485e13d2a2783974883a5d6b89f5638fd611b1fbee6363a4", func := "countersign/countersignlaw10.FormAll", spec := "formAll", inPlace := ["internal/bytealg.CountString", "internal/bytealg.IndexByteString", "internal/bytealg.IndexString", "internal/abi.NoEscape"], unfollowed := true, recurses := true, named := ["internal/bytealg.MaxLen", "countersign/pct.digits"], apart := false, laid := [("countersign/pct.digits", laid_countersign_pct_digits)] }
def FormAllSaid : Prop := formAllRow.holds Tryd.pinned (OpenSpec.ofChange formAllSpec)

/-- ITS FALSE NEIGHBOUR: 'it returns false'. Refute it at one input. -/
def formAllWrong : ChangeSpec := { name := "formAll", fn := fun _ => fun
  | [d1, d2, d3, d4] => { results := [.lit (.bool false)], args := [d1, d2, d3, d4] }
  | _ => none }
def FormAllWrongFalsely : Prop := formAllRow.holds Tryd.pinned (OpenSpec.ofChange formAllWrong)

/-- 'countersignlaw10.FormBack': WHATEVER THE INPUT: true; the input reads as it did. -/
def formBackSpec : ChangeSpec := { name := "formBack", fn := fun _ => fun
  | [d1, d2] => { results := [.lit (.bool true)], args := [d1, d2] }
  | _ => none }
def formBackRow : OpenClaim := { program := "ytdjkmcielbppaaadoor", sum := "18794b6899854239485e13d2a2783974883a5d6b89f5638fd611b1fbee6363a4", func := "countersign/countersignlaw10.FormBack", spec := "formBack", inPlace := ["internal/bytealg.CountString", "internal/bytealg.IndexByteString", "internal/bytealg.IndexString", "internal/abi.NoEscape"], unfollowed := true, recurses := true, named := ["internal/bytealg.MaxLen", "countersign/pct.digits"], apart := false, laid := [("countersign/pct.digits", laid_countersign_pct_digits)] }
def FormBackSaid : Prop := formBackRow.holds Tryd.pinned (OpenSpec.ofChange formBackSpec)

/-- ITS FALSE NEIGHBOUR: 'it returns false'. Refute it at one input. -/
def formBackWrong : ChangeSpec := { name := "formBack", fn := fun _ => fun
  | [d1, d2] => { results := [.lit (.bool false)], args := [d1, d2] }
  | _ => none }
def FormBackWrongFalsely : Prop := formBackRow.holds Tryd.pinned (OpenSpec.ofChange formBackWrong)

/-- 'countersignlaw10.FormOnly': WHATEVER THE INPUT: true; the input reads as it did. -/
def formOnlySpec : ChangeSpec := { name := "formOnly", fn := fun _ => fun
  | [d1, d2] => { results := [.lit (.bool true)], args := [d1, d2] }
  | _ => none }
def formOnlyRow : OpenClaim := { program := "ytdjkmcielbppaaadoor", sum := "18794b6899854239485e13d2a2783974883a5d6b89f5638fd611b1fbee6363a4", func := "countersign/countersignlaw10.FormOnly", spec := "formOnly", inPlace := ["internal/bytealg.CountString", "internal/bytealg.IndexByteString", "internal/bytealg.IndexString", "internal/abi.NoEscape"], unfollowed := true, recurses := true, named := ["internal/bytealg.MaxLen", "countersign/pct.digits"], apart := false, laid := [("countersign/pct.digits", laid_countersign_pct_digits)] }
def FormOnlySaid : Prop := formOnlyRow.holds Tryd.pinned (OpenSpec.ofChange formOnlySpec)

/-- ITS FALSE NEIGHBOUR: 'it returns false'. Refute it at one input. -/
def formOnlyWrong : ChangeSpec := { name := "formOnly", fn := fun _ => fun
  | [d1, d2] => { results := [.lit (.bool false)], args := [d1, d2] }
  | _ => none }
def FormOnlyWrongFalsely : Prop := formOnlyRow.holds Tryd.pinned (OpenSpec.ofChange formOnlyWrong)

/-- 'countersignlaw10.FormMany': WHATEVER THE INPUT: true; the input reads as it did. -/
def formManySpec : ChangeSpec := { name := "formMany", fn := fun _ => fun
  | [d1, d2] => { results := [.lit (.bool true)], args := [d1, d2] }
  | _ => none }
def formManyRow : OpenClaim := { program := "ytdjkmcielbppaaadoor", sum := "18794b6899854239485e13d2a2783974883a5d6b89f5638fd611b1fbee6363a4", func := "countersign/countersignlaw10.FormMany", spec := "formMany", inPlace := ["internal/bytealg.CountString", "internal/bytealg.IndexByteString", "internal/bytealg.IndexString", "internal/abi.NoEscape"], unfollowed := true, recurses := true, named := ["internal/bytealg.MaxLen", "countersign/pct.digits"], apart := false, laid := [("countersign/pct.digits", laid_countersign_pct_digits)] }
def FormManySaid : Prop := formManyRow.holds Tryd.pinned (OpenSpec.ofChange formManySpec)

/-- ITS FALSE NEIGHBOUR: 'it returns false'. Refute it at one input. -/
def formManyWrong : ChangeSpec := { name := "formMany", fn := fun _ => fun
  | [d1, d2] => { results := [.lit (.bool false)], args := [d1, d2] }
  | _ => none }
def FormManyWrongFalsely : Prop := formManyRow.holds Tryd.pinned (OpenSpec.ofChange formManyWrong)

/- THE SECOND FORM. 'bulk': how many values and letters a reading holds, each counted each time it is reached (what is shared counts as often as it is met; a slice's spare places count too). A statement '..UptoSaid' is the law's where the arguments, and the package variables that the reading takes, are together of bulk at most 1048576: NARROWER than '..Said'. Prove '..Said' where nothing that the law and all that it calls make is longer than what came in: it says more and counts as full. Else prove '..UptoSaid'. A law counts once. -/
mutual
def uptoBulk {H : Type} : DataW H → Nat
  | .lit (.string bytes) => bytes.length + 1
  | .lit _ => 1
  | .nil => 1
  | .ptr d => uptoBulk d + 1
  | .slice elems spare => uptoBulkAll elems + uptoBulkAll spare + 1
  | .agg parts => uptoBulkAll parts + 1
  | .iface _ d => uptoBulk d + 1
  | .map entries => uptoBulkEntries entries + 1
  | .held _ => 1
def uptoBulkAll {H : Type} : List (DataW H) → Nat
  | [] => 0
  | d :: r => uptoBulk d + uptoBulkAll r
def uptoBulkEntries {H : Type} : List (Lit × DataW H) → Nat
  | [] => 0
  | x :: r => uptoBulkEntry x + uptoBulkEntries r
def uptoBulkEntry {H : Type} : Lit × DataW H → Nat
  | (.string bytes, d) => bytes.length + uptoBulk d + 1
  | (_, d) => uptoBulk d + 1
 end
def uptoSmall : (H : Type) → List (DataW H) → Bool := fun _ ds => decide (uptoBulkAll ds ≤ 1048576)
def OpenSpec.upto (s : _root_.Go.ChangeSpec) : _root_.Go.OpenSpec := { _root_.Go.OpenSpec.ofChange s with cond := some uptoSmall }

/-- 'countersignlaw10.FormAll', WHERE WHAT IT READS IS OF BULK AT MOST 1048576: true; the input reads as it did. -/
def formAllUptoRow : OpenClaim := { program := "ytdjkmcielbppaaadoor", sum := "18794b6899854239485e13d2a2783974883a5d6b89f5638fd611b1fbee6363a4", func := "countersign/countersignlaw10.FormAll", spec := "formAll", inPlace := ["internal/bytealg.CountString", "internal/bytealg.IndexByteString", "internal/bytealg.IndexString", "internal/abi.NoEscape"], unfollowed := true, recurses := true, named := ["internal/bytealg.MaxLen", "countersign/pct.digits"], apart := false, laid := [("countersign/pct.digits", laid_countersign_pct_digits)], narrowed := true }
def FormAllUptoSaid : Prop := formAllUptoRow.holds Tryd.pinned (OpenSpec.upto formAllSpec)

/-- 'countersignlaw10.FormBack', WHERE WHAT IT READS IS OF BULK AT MOST 1048576: true; the input reads as it did. -/
def formBackUptoRow : OpenClaim := { program := "ytdjkmcielbppaaadoor", sum := "18794b6899854239485e13d2a2783974883a5d6b89f5638fd611b1fbee6363a4", func := "countersign/countersignlaw10.FormBack", spec := "formBack", inPlace := ["internal/bytealg.CountString", "internal/bytealg.IndexByteString", "internal/bytealg.IndexString", "internal/abi.NoEscape"], unfollowed := true, recurses := true, named := ["internal/bytealg.MaxLen", "countersign/pct.digits"], apart := false, laid := [("countersign/pct.digits", laid_countersign_pct_digits)], narrowed := true }
def FormBackUptoSaid : Prop := formBackUptoRow.holds Tryd.pinned (OpenSpec.upto formBackSpec)

/-- 'countersignlaw10.FormOnly', WHERE WHAT IT READS IS OF BULK AT MOST 1048576: true; the input reads as it did. -/
def formOnlyUptoRow : OpenClaim := { program := "ytdjkmcielbppaaadoor", sum := "18794b6899854239485e13d2a2783974883a5d6b89f5638fd611b1fbee6363a4", func := "countersign/countersignlaw10.FormOnly", spec := "formOnly", inPlace := ["internal/bytealg.CountString", "internal/bytealg.IndexByteString", "internal/bytealg.IndexString", "internal/abi.NoEscape"], unfollowed := true, recurses := true, named := ["internal/bytealg.MaxLen", "countersign/pct.digits"], apart := false, laid := [("countersign/pct.digits", laid_countersign_pct_digits)], narrowed := true }
def FormOnlyUptoSaid : Prop := formOnlyUptoRow.holds Tryd.pinned (OpenSpec.upto formOnlySpec)

/-- 'countersignlaw10.FormMany', WHERE WHAT IT READS IS OF BULK AT MOST 1048576: true; the input reads as it did. -/
def formManyUptoRow : OpenClaim := { program := "ytdjkmcielbppaaadoor", sum := "18794b6899854239485e13d2a2783974883a5d6b89f5638fd611b1fbee6363a4", func := "countersign/countersignlaw10.FormMany", spec := "formMany", inPlace := ["internal/bytealg.CountString", "internal/bytealg.IndexByteString", "internal/bytealg.IndexString", "internal/abi.NoEscape"], unfollowed := true, recurses := true, named := ["internal/bytealg.MaxLen", "countersign/pct.digits"], apart := false, laid := [("countersign/pct.digits", laid_countersign_pct_digits)], narrowed := true }
def FormManyUptoSaid : Prop := formManyUptoRow.holds Tryd.pinned (OpenSpec.upto formManySpec)

end Rows
end Go.Proofs.YtdjkmcielbppaaaDoor
