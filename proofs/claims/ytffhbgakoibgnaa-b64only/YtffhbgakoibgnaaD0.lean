import Derived.Test.YtffhbgakoibgnaaRows
import Derived.WalkKit
import Derived.WalkSpells
import Derived.WalkLawsBesides
import Derived.Deep.QuietTactic
import Derived.BigQuiet
import Derived.OpenShut
import Derived.ChangeOld
import Derived.ProofKit
import Derived.Lib.SmallJoins
namespace Go.Proofs.Ytffhbgakoibgnaa
open Go.ChangeShapes Go.WideShapes Go.ChangeAt Go.RowKit Go.Joins
set_option maxRecDepth 100000
set_option linter.unusedVariables false
set_option linter.unusedSimpArgs false

theorem Try.own : ownKnob Try.prog.godebug = none := by kernel_rfl
theorem Try.cellsInt : Try.prog.cellsOf 3 = 1 := by kernel_rfl
theorem Try.laidOut : laidOutB Try.prog = true := by kernel_rfl

theorem spot_none {w : World} {a : Addr} {v : Value} (h : w.cell? a = some v) : a.spot = none := by
  unfold World.cell? at h
  split at h
  · split at h
    · simp at h
    · rename_i hs; simpa using hs
  · simp at h

theorem cell_lt {w : World} {a : Addr} {v : Value} (h : w.cell? a = some v) : a.block < w.heap.size := by
  rcases Nat.lt_or_ge a.block w.heap.size with h' | h'
  · exact h'
  · simp [World.cell?, Array.getElem?_eq_none h'] at h

theorem tmod_emod (x n : Int) (h0 : 1 ≤ n) : x % n = if x.tmod n < 0 then x.tmod n + n else x.tmod n := by
  have e := Int.mul_tdiv_add_tmod x n
  have l1 := Int.lt_tmod_of_pos x (show 0 < n by omega)
  have l2 := Int.tmod_lt_of_pos x (show 0 < n by omega)
  have e2 : x % n = (x.tmod n) % n := by
    conv => lhs; rw [← e, Int.add_comm]
    exact Int.add_mul_emod_self_left _ _ _
  rw [e2]; split
  · rw [← Int.add_emod_right]; exact Int.emod_eq_of_lt (by omega) (by omega)
  · exact Int.emod_eq_of_lt (by omega) (by omega)

/-- Numbers lie in w, below B. -/
def NumsAt (w : World) (B : Nat) (ns : List Int) (LA : Option Addr) : Prop :=
  ns = [] ∨ ∃ lb lo, LA = some ⟨lb, lo, none⟩ ∧ lb < B ∧ ∀ i, i < ns.length → w.cell? ⟨lb, lo + i, none⟩ = some (.int .i64 (ns.getD i 0))

def NumsFit (ns : List Int) : Prop := ns.length ≤ 9223372036854775807 ∧ ∀ i, -9223372036854775808 ≤ ns.getD i 0 ∧ ns.getD i 0 ≤ 9223372036854775807

variable {H : Type} {enc : TypeId × Value → H} {W : World} {spare : Nat → Bool} {held : Bool}

end Go.Proofs.Ytffhbgakoibgnaa
