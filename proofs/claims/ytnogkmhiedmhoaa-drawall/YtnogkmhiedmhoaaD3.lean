import Derived.Test.YtnogkmhiedmhoaaD2
import Derived.Deep.RegionHeld3
namespace Go.Proofs.Ytnogkmhiedmhoaa
open Go.RowKit
set_option linter.unusedVariables false
set_option linter.unusedSimpArgs false

theorem field_now (a b c : Int) (w : World) : (Instr.field 25 (.agg #[.int .i64 a, .int .i64 b, .int .i64 c]) 2).run Try.prog w = .ok (.int .i64 c) w := by kernel_rfl

/-- A block of three cells. -/
abbrev Box3 (w : World) (q : Nat) (v0 v1 v2 : Value) : Prop := q < w.heap.size ∧ w.cell? ⟨q, 0, none⟩ = some v0 ∧ w.cell? ⟨q, 1, none⟩ = some v1 ∧ w.cell? ⟨q, 2, none⟩ = some v2

theorem Box3.below {w w' : World} {q : Nat} {v0 v1 v2 : Value} (h : Box3 w q v0 v1 v2) (hb : Below w.heap.size w w') : Box3 w' q v0 v1 v2 :=
  ⟨Nat.lt_of_lt_of_le h.1 hb.size, by rw [hb.cell h.1]; exact h.2.1, by rw [hb.cell h.1]; exact h.2.2.1, by rw [hb.cell h.1]; exact h.2.2.2⟩

set_option maxRecDepth 20000 in
set_option maxHeartbeats 800000 in
theorem known5_any (w : World) : Calls Try.prog 6 #[] w fun e w' => e = .returned (.bool true) ∧ Below w.heap.size w w' := by
  have hfd := field_now
  go_enter Try.func6, Try.ntmps6
  go_wp2_with fail
  refine (new_any _).mono ?_
  rintro e w1 ⟨rfl, ho1⟩
  go_wp2_with fail
  refine (nonce_lo 1 1 0 _ (by omega) (by omega)).mono ?_
  rintro e w2 ⟨rfl, ho2⟩
  go_wp2_with fail
  refine (conn_lo 2 1 0 _ (by omega) (by omega)).mono ?_
  rintro e w3 ⟨rfl, ho3⟩
  have hb2 : Below w.heap.size w w2 := ho1.trans (ho2.mono ho1.size)
  have hx3 : Box3 w3 w2.heap.size (.int .i64 2) (.int .i64 1) (.int .i64 0) := Box3.below ⟨by simp [World.setCell], by simp [go_sem], by simp [go_sem], by simp [go_sem]⟩ ho3
  have hb3 : Below w.heap.size w w3 := hb2.trans (Below.mono (Below.trans (by exact (by repeat (first | exact Below.refl _ _ | assumption | refine below_drewN ?_ _ | refine Below.drew ?_ | refine Below.alloc ?_ (by simp <;> omega) _ | refine Below.setCell ?_ (by simp <;> omega) _))) (ho3.mono (by simp [World.setCell]))) hb2.size)
  clear ho1 ho2 ho3 hb2
  obtain ⟨x0, x1, x2, x3⟩ := hx3
  go_wp2_with fail
  refine (live_any 1 2 _).mono ?_
  rintro e w4 ⟨rfl, rfl⟩
  go_wp2_with fail
  refine (live_any 2 2 _).mono ?_
  rintro e w4 ⟨rfl, rfl⟩
  go_wp2_with fail
  refine (until_any 2 3 _ (by omega) (by omega) (by omega) (by omega)).mono ?_
  rw [show untilI 2 3 = 5 from by decide]
  rintro e w4 ⟨rfl, rfl⟩
  go_wp2_with fail
  refine (tick_any 2 1 0 4 _ (by omega) (by omega) (by omega) (by omega)).mono ?_
  rw [show untilI 0 4 = 4 from by decide]
  rintro e w4 ⟨rfl, ho4⟩
  go_wp2_with fail
  go_ret
  exact ⟨ret_bool (by simp), Below.trans (hb3.alloc hb3.size _) (ho4.mono (by have := hb3.size; simp; omega))⟩

end Go.Proofs.Ytnogkmhiedmhoaa
