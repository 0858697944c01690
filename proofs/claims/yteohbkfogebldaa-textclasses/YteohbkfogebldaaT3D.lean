import Derived.Test.YteohbkfogebldaaT3
import Derived.Laws.IdiomStrings
namespace Go.Proofs.Yteohbkfogebldaa
open Go.RowKit
set_option linter.unusedVariables false
set_option linter.unusedSimpArgs false

set_option maxHeartbeats 4000000 in
theorem firstOk_decode (s : ByteArray) (pos : Nat) (r n : Int) (h : FirstOk (bN s pos) (moreAt s pos 1) (moreAt s pos 2) (moreAt s pos 3) r n) :
    r = ((Utf8.decode s pos).1 : Int) ∧ n = ((Utf8.decode s pos).2 : Int) := by
  have h1 := bN_lt s pos; have h2 := bN_lt s (pos + 1); have h3 := bN_lt s (pos + 2); have h4 := bN_lt s (pos + 3)
  unfold FirstOk moreAt at h
  simp only [Utf8.decode, Nat.add_zero, ← bN.eq_1, Utf8.runeError, Utf8.valid]
  generalize bN s pos = c at *
  generalize bN s (pos + 1) = x1 at *
  generalize bN s (pos + 2) = x2 at *
  generalize bN s (pos + 3) = x3 at *
  generalize s.size = m at *
  repeat' split
  all_goals simp only [Bool.and_eq_true, Bool.or_eq_true, decide_eq_true_eq, beq_iff_eq, ge_iff_le, not_and, not_or] at *
  all_goals omega

end Go.Proofs.Yteohbkfogebldaa
