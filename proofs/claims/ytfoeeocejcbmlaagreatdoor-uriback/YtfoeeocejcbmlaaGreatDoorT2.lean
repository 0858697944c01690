import Derived.Test.YtfoeeocejcbmlaaGreatDoorT1
namespace Go.Proofs.YtfoeeocejcbmlaaGreatDoor
open Go.RowKit
set_option linter.unusedVariables false
set_option linter.unusedSimpArgs false

theorem toList_size (s : ByteArray) : s.toList = [] ↔ s.size = 0 := by
  have : s.toList = s.data.toList := by rw [ByteArray.toList_eq]
  rw [this]; rcases s with ⟨⟨l⟩⟩; simp [ByteArray.size]

set_option maxHeartbeats 1000000 in
theorem word_any (s : ByteArray) (w : World) :
    Calls Tryz.prog 99 #[.string s] w fun e w' => e = .returned (.bool (decide (1 ≤ s.size ∧ s.size ≤ 128) && eachF plainB s s.size 0)) ∧ Below w.heap.size w w' := by
  go_enter Tryz.func99, Tryz.ntmps99
  by_cases h : 1 ≤ s.size
  · have h1 : (1 : Int) ≤ (s.size : Int) := by omega
    by_cases h' : s.size ≤ 128
    · have h2 : (s.size : Int) ≤ 128 := by omega
      go_wp2_with fail
      refine (each_plain s w).mono ?_
      rintro e w1 ⟨rfl, hb⟩
      go_wp2_with fail
      go_ret
      exact ⟨ret_bool (by simp [h, h']), hb⟩
    · have h2 : ¬ (s.size : Int) ≤ 128 := by omega
      go_wp2_with fail
      go_ret
      exact ⟨ret_bool (by simp [h']), (by repeat (first | exact Below.refl _ _ | assumption | refine below_drewN ?_ _ | refine Below.drew ?_ | refine Below.alloc ?_ (by simp <;> omega) _ | refine Below.setCell ?_ (by simp <;> omega) _))⟩
  · have h1 : ¬ (1 : Int) ≤ (s.size : Int) := by omega
    go_wp2_with fail
    go_ret
    exact ⟨ret_bool (by simp [h]), (by repeat (first | exact Below.refl _ _ | assumption | refine below_drewN ?_ _ | refine Below.drew ?_ | refine Below.alloc ?_ (by simp <;> omega) _ | refine Below.setCell ?_ (by simp <;> omega) _))⟩

end Go.Proofs.YtfoeeocejcbmlaaGreatDoor
