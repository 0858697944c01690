import Derived.Test.YtgmmbfnmojjbkaaGreatDoorRows
import Derived.Test.YtgmmbfnmojjbkaaGreatDoorR1
namespace Go.Proofs.YtgmmbfnmojjbkaaGreatDoor
open Go.RowKit
set_option linter.unusedVariables false
set_option linter.unusedSimpArgs false

def kidsOf (k : Int) : Int := if k = 1 ∨ k = 2 then 0 else if k = 3 ∨ k = 4 then 1 else if k = 5 ∨ k = 6 ∨ k = 7 then 2 else -1

set_option maxHeartbeats 400000 in
theorem kidsOf_any (k : Int) (w : World) :
    Calls Tryz.prog 85 #[.int .i64 k] w fun e w' => e = .returned (.int .i64 (kidsOf k)) ∧ w' = w := by
  go_enter Tryz.func85, Tryz.ntmps85
  go_wp2
  all_goals go_ret
  all_goals exact ⟨by simp_all [kidsOf], rfl⟩

set_option maxHeartbeats 400000 in
theorem kids_any (k : Int) (w : World) :
    Calls Tryz.prog 81 #[.int .i64 k] w fun e w' => e = .returned (.int .i64 (kidsOf k)) ∧ w' = w := by
  go_enter Tryz.func81, Tryz.ntmps81
  go_wp2
  all_goals go_ret
  all_goals exact ⟨by simp_all [kidsOf], rfl⟩

def formedB (k n : Int) (s : ByteArray) (len : Nat) : Bool :=
  decide ((len : Int) = kidsOf k) && (if k = 1 then decide (n = 0) && decide ((s.size : Int) ≤ 1024) else if k = 2 then s.toList.isEmpty && decide (0 ≤ n) && decide (n ≤ 1073741824) else decide (n = 0) && s.toList.isEmpty)

set_option maxHeartbeats 1000000 in
theorem formed_any (k n : Int) (s : ByteArray) (A : Option Addr) (len cap : Nat) (w : World) (hl : len ≤ 9223372036854775807) (hs : s.size ≤ maxLen) :
    Calls Tryz.prog 72 #[.agg #[.int .i64 k, .int .i64 n, .string s, .slice A len cap]] w fun e w' => e = .returned (.bool (formedB k n s len)) ∧ Below w.heap.size w w' := by
  unfold maxLen at hs
  go_enter Tryz.func72, Tryz.ntmps72
  go_wp2_with fail
  go_quiet ((go_at_call 85; exact Calls.quiet_of_same (kidsOf_any _ _)))
  go_wp2_with fail
  all_goals go_ret
  all_goals refine ⟨ret_bool ?_, (by repeat (first | exact Below.refl _ _ | assumption | refine below_drewN ?_ _ | refine Below.drew ?_ | refine Below.alloc ?_ (by simp <;> omega) _ | refine Below.setCell ?_ (by simp <;> omega) _))⟩
  all_goals first | (simp_all [formedB]; done) | (simp_all [formedB]; omega)

end Go.Proofs.YtgmmbfnmojjbkaaGreatDoor
