import Derived.Test.YtnogkmhiedmhoaaD1
import Derived.Deep.RegionHeld3
namespace Go.Proofs.Ytnogkmhiedmhoaa
open Go.RowKit
set_option linter.unusedVariables false
set_option linter.unusedSimpArgs false

theorem nonce_lo (n c t : Int) (w : World) (h1 : -9223372036854775808 ≤ n) (h2 : n ≤ 1073741824) :
    Calls Try.prog 8 #[(.agg #[.int .i64 (n), .int .i64 (c), .int .i64 (t)])] w fun e w' => e = .returned (.tuple #[.int .i64 n, (.agg #[.int .i64 ((n + 1)), .int .i64 (c), .int .i64 (t)]), .bool true]) ∧ Below w.heap.size w w' :=
  (nonce_any n c t w h1 (by omega)).mono fun e w' ⟨h, hb⟩ => ⟨by rw [h, drawV, if_neg (by omega)], hb⟩

theorem conn_lo (n c t : Int) (w : World) (h1 : -9223372036854775808 ≤ c) (h2 : c ≤ 1073741824) :
    Calls Try.prog 10 #[(.agg #[.int .i64 (n), .int .i64 (c), .int .i64 (t)])] w fun e w' => e = .returned (.tuple #[.int .i64 c, (.agg #[.int .i64 (n), .int .i64 ((c + 1)), .int .i64 (t)]), .bool true]) ∧ Below w.heap.size w w' :=
  (conn_any n c t w h1 (by omega)).mono fun e w' ⟨h, hb⟩ => ⟨by rw [h, drawV, if_neg (by omega)], hb⟩

theorem until_eq (now life : Int) (h1 : 0 ≤ now) (h2 : now ≤ 1099511627776) : untilI now life = min (now + max life 0) 1099511627776 := by unfold untilI; omega

set_option maxHeartbeats 400000 in
theorem refUntil_any (now life : Int) (w : World) (h1 : 0 ≤ now) (h2 : now ≤ 1099511627776) (h3 : -9223372036854775808 ≤ life) (h4 : life ≤ 9223372036854775807) :
    Calls Try.prog 15 #[.int .i64 now, .int .i64 life] w fun e w' => e = .returned (.int .i64 (untilI now life)) ∧ w' = w := by
  go_enter Try.func15, Try.ntmps15
  go_wp2_with fail
  all_goals go_ret
  all_goals exact ⟨ret_int (by unfold untilI; omega), rfl⟩

set_option maxHeartbeats 400000 in
theorem refLive_any (now til : Int) (w : World) :
    Calls Try.prog 17 #[.int .i64 now, .int .i64 til] w fun e w' => e = .returned (.bool (decide (now < til))) ∧ w' = w := by
  go_enter Try.func17, Try.ntmps17
  go_wp2_with fail
  all_goals go_ret
  all_goals exact ⟨rfl, rfl⟩

set_option maxHeartbeats 400000 in
theorem refNew_any (w : World) :
    Calls Try.prog 19 #[] w fun e w' => e = .returned (.agg #[.int .i64 (1), .int .i64 (1), .int .i64 (0)]) ∧ Below w.heap.size w w' := by
  go_enter Try.func19, Try.ntmps19
  go_wp2_with fail
  refine bodyPost_ret (v := (.agg #[.int .i64 (1), .int .i64 (1), .int .i64 (0)])) (by simp [results, Try.results19, go_sem]) rfl ⟨rfl, (by repeat (first | exact Below.refl _ _ | assumption | refine below_drewN ?_ _ | refine Below.drew ?_ | refine Below.alloc ?_ (by simp <;> omega) _ | refine Below.setCell ?_ (by simp <;> omega) _))⟩

set_option maxHeartbeats 800000 in
theorem refTick_any (n c t by_ : Int) (w : World) (h1 : 0 ≤ t) (h2 : t ≤ 1099511627776) (h3 : -9223372036854775808 ≤ by_) (h4 : by_ ≤ 9223372036854775807) :
    Calls Try.prog 13 #[(.agg #[.int .i64 (n), .int .i64 (c), .int .i64 (t)]), .int .i64 by_] w fun e w' => e = .returned (.agg #[.int .i64 (n), .int .i64 (c), .int .i64 ((untilI t by_))]) ∧ Below w.heap.size w w' := by
  go_enter Try.func13, Try.ntmps13
  go_wp2_with fail
  refine (refUntil_any t by_ _ h1 h2 h3 h4).mono ?_
  rintro e w1 ⟨rfl, rfl⟩
  go_wp2_with fail
  refine bodyPost_ret (v := (.agg #[.int .i64 (n), .int .i64 (c), .int .i64 ((untilI t by_))])) (by simp [results, Try.results13, go_sem]) rfl ⟨rfl, (by repeat (first | exact Below.refl _ _ | assumption | refine below_drewN ?_ _ | refine Below.drew ?_ | refine Below.alloc ?_ (by simp <;> omega) _ | refine Below.setCell ?_ (by simp <;> omega) _))⟩

set_option maxHeartbeats 800000 in
theorem refNonce_any (n c t : Int) (w : World) (h1 : -9223372036854775808 ≤ n) (h2 : n ≤ 9223372036854775807) :
    Calls Try.prog 9 #[(.agg #[.int .i64 (n), .int .i64 (c), .int .i64 (t)])] w fun e w' => e = .returned (drawV n (.agg #[.int .i64 (n), .int .i64 (c), .int .i64 (t)]) (.agg #[.int .i64 ((n + 1)), .int .i64 (c), .int .i64 (t)])) ∧ Below w.heap.size w w' := by
  by_cases hn : n > 1073741824
  · go_enter Try.func9, Try.ntmps9
    go_wp2_with fail
    go_region
    all_goals go_wp2_with fail
    all_goals (refine bodyPost_ret (v := .tuple #[.int .i64 0, (.agg #[.int .i64 (n), .int .i64 (c), .int .i64 (t)]), .bool false]) (by simp [results, Try.results9, go_sem]) rfl ⟨by rw [drawV, if_pos (by omega)], (by repeat (first | exact Below.refl _ _ | assumption | refine below_drewN ?_ _ | refine Below.drew ?_ | refine Below.alloc ?_ (by simp <;> omega) _ | refine Below.setCell ?_ (by simp <;> omega) _))⟩)
  · go_enter Try.func9, Try.ntmps9
    go_wp2_with fail
    go_region
    all_goals go_wp2_with fail
    all_goals (refine bodyPost_ret (v := .tuple #[.int .i64 n, (.agg #[.int .i64 ((n + 1)), .int .i64 (c), .int .i64 (t)]), .bool true]) (by simp [results, Try.results9, go_sem]) rfl ⟨by rw [drawV, if_neg (by omega)], (by repeat (first | exact Below.refl _ _ | assumption | refine below_drewN ?_ _ | refine Below.drew ?_ | refine Below.alloc ?_ (by simp <;> omega) _ | refine Below.setCell ?_ (by simp <;> omega) _))⟩)

set_option maxHeartbeats 800000 in
theorem refConn_any (n c t : Int) (w : World) (h1 : -9223372036854775808 ≤ c) (h2 : c ≤ 9223372036854775807) :
    Calls Try.prog 11 #[(.agg #[.int .i64 (n), .int .i64 (c), .int .i64 (t)])] w fun e w' => e = .returned (drawV c (.agg #[.int .i64 (n), .int .i64 (c), .int .i64 (t)]) (.agg #[.int .i64 (n), .int .i64 ((c + 1)), .int .i64 (t)])) ∧ Below w.heap.size w w' := by
  by_cases hn : c > 1073741824
  · go_enter Try.func11, Try.ntmps11
    go_wp2_with fail
    go_region
    all_goals go_wp2_with fail
    all_goals (refine bodyPost_ret (v := .tuple #[.int .i64 0, (.agg #[.int .i64 (n), .int .i64 (c), .int .i64 (t)]), .bool false]) (by simp [results, Try.results11, go_sem]) rfl ⟨by rw [drawV, if_pos (by omega)], (by repeat (first | exact Below.refl _ _ | assumption | refine below_drewN ?_ _ | refine Below.drew ?_ | refine Below.alloc ?_ (by simp <;> omega) _ | refine Below.setCell ?_ (by simp <;> omega) _))⟩)
  · go_enter Try.func11, Try.ntmps11
    go_wp2_with fail
    go_region
    all_goals go_wp2_with fail
    all_goals (refine bodyPost_ret (v := .tuple #[.int .i64 c, (.agg #[.int .i64 (n), .int .i64 ((c + 1)), .int .i64 (t)]), .bool true]) (by simp [results, Try.results11, go_sem]) rfl ⟨by rw [drawV, if_neg (by omega)], (by repeat (first | exact Below.refl _ _ | assumption | refine below_drewN ?_ _ | refine Below.drew ?_ | refine Below.alloc ?_ (by simp <;> omega) _ | refine Below.setCell ?_ (by simp <;> omega) _))⟩)

end Go.Proofs.Ytnogkmhiedmhoaa
