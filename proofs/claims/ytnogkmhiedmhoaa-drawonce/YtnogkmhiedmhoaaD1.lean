import Derived.Test.YtnogkmhiedmhoaaD0
namespace Go.Proofs.Ytnogkmhiedmhoaa
open Go.RowKit
set_option linter.unusedVariables false
set_option linter.unusedSimpArgs false

/-- What Nonce and Conn answer: at n, the source as it is (s), the source with one more (s'). -/
def drawV (n : Int) (s s' : Value) : Value := if n > 1073741824 then .tuple #[.int .i64 0, s, .bool false] else .tuple #[.int .i64 n, s', .bool true]

def nextI (n : Int) : Int := if n > 1073741824 then n else n + 1

def untilI (now life : Int) : Int := min (min now 1099511627776 + min (max life 0) 1099511627776) 1099511627776

theorem wrap_in (x : Int) (h0 : -9223372036854775808 ≤ x) (h1 : x ≤ 9223372036854775807) : IntKind.i64.wrap x = x := by rw [IntKind.wrap_i64]; omega
theorem ret_bool {a b : Bool} (h : a = b) : Ending.returned (.bool a) = .returned (.bool b) := by rw [h]
theorem ret_int {k : IntKind} {a b : Int} (h : a = b) : Ending.returned (.int k a) = .returned (.int k b) := by rw [h]

set_option maxHeartbeats 400000 in
theorem within5_any (x n : Int) (w : World) (h0 : 1 ≤ n) (h1 : n ≤ 9223372036854775807) (h2 : -9223372036854775808 ≤ x) (h3 : x ≤ 9223372036854775807) :
    Calls Try.prog 7 #[.int .i64 x, .int .i64 n] w fun e w' => e = .returned (.int .i64 (x % n)) ∧ w' = w := by
  have l1 := Int.lt_tmod_of_pos x (show 0 < n by omega)
  have l2 := Int.tmod_lt_of_pos x (show 0 < n by omega)
  go_enter Try.func7, Try.ntmps7
  go_wp2_with fail
  all_goals go_ret
  · exact ⟨ret_int (by rw [tmod_emod x n h0, if_pos (by assumption)]), rfl⟩
  · exact ⟨ret_int (by rw [tmod_emod x n h0, if_neg (by omega)]), rfl⟩

set_option maxHeartbeats 400000 in
theorem next_any (n : Int) (w : World) (h1 : -9223372036854775808 ≤ n) (h2 : n ≤ 9223372036854775807) :
    Calls Try.prog 20 #[.int .i64 n] w fun e w' => e = .returned (.int .i64 (nextI n)) ∧ w' = w := by
  go_enter Try.func20, Try.ntmps20
  go_wp2_with fail
  all_goals go_ret
  all_goals exact ⟨ret_int (by unfold nextI; split <;> omega), rfl⟩

set_option maxHeartbeats 400000 in
theorem until_any (now life : Int) (w : World) (h1 : 0 ≤ now) (h2 : now ≤ 1099511627776) (h3 : -9223372036854775808 ≤ life) (h4 : life ≤ 9223372036854775807) :
    Calls Try.prog 14 #[.int .i64 now, .int .i64 life] w fun e w' => e = .returned (.int .i64 (untilI now life)) ∧ w' = w := by
  go_enter Try.func14, Try.ntmps14
  go_wp2_with fail
  all_goals go_ret
  all_goals exact ⟨ret_int (by unfold untilI; omega), rfl⟩

set_option maxHeartbeats 400000 in
theorem live_any (now til : Int) (w : World) :
    Calls Try.prog 16 #[.int .i64 now, .int .i64 til] w fun e w' => e = .returned (.bool (decide (now < til))) ∧ w' = w := by
  go_enter Try.func16, Try.ntmps16
  go_wp2_with fail
  all_goals go_ret
  all_goals exact ⟨rfl, rfl⟩

set_option maxHeartbeats 400000 in
theorem new_any (w : World) :
    Calls Try.prog 18 #[] w fun e w' => e = .returned (.agg #[.int .i64 (1), .int .i64 (1), .int .i64 (0)]) ∧ Below w.heap.size w w' := by
  go_enter Try.func18, Try.ntmps18
  go_wp2_with fail
  refine bodyPost_ret (v := (.agg #[.int .i64 (1), .int .i64 (1), .int .i64 (0)])) (by simp [results, Try.results18, go_sem]) rfl ⟨rfl, (by repeat (first | exact Below.refl _ _ | assumption | refine below_drewN ?_ _ | refine Below.drew ?_ | refine Below.alloc ?_ (by simp <;> omega) _ | refine Below.setCell ?_ (by simp <;> omega) _))⟩

set_option maxHeartbeats 800000 in
theorem tick_any (n c t by_ : Int) (w : World) (h1 : 0 ≤ t) (h2 : t ≤ 1099511627776) (h3 : -9223372036854775808 ≤ by_) (h4 : by_ ≤ 9223372036854775807) :
    Calls Try.prog 12 #[(.agg #[.int .i64 (n), .int .i64 (c), .int .i64 (t)]), .int .i64 by_] w fun e w' => e = .returned (.agg #[.int .i64 (n), .int .i64 (c), .int .i64 ((untilI t by_))]) ∧ Below w.heap.size w w' := by
  go_enter Try.func12, Try.ntmps12
  go_wp2_with fail
  refine (until_any t by_ _ h1 h2 h3 h4).mono ?_
  rintro e w1 ⟨rfl, rfl⟩
  go_wp2_with fail
  refine bodyPost_ret (v := (.agg #[.int .i64 (n), .int .i64 (c), .int .i64 ((untilI t by_))])) (by simp [results, Try.results12, go_sem]) rfl ⟨rfl, (by repeat (first | exact Below.refl _ _ | assumption | refine below_drewN ?_ _ | refine Below.drew ?_ | refine Below.alloc ?_ (by simp <;> omega) _ | refine Below.setCell ?_ (by simp <;> omega) _))⟩

set_option maxHeartbeats 800000 in
theorem drawn_same (n a b c : Int) (w : World) :
    Calls Try.prog 21 #[.int .i64 n, (.agg #[.int .i64 (a), .int .i64 (b), .int .i64 (c)]), (.agg #[.int .i64 (a), .int .i64 (b), .int .i64 (c)])] w fun e w' => e = .returned (.tuple #[.int .i64 0, (.agg #[.int .i64 (a), .int .i64 (b), .int .i64 (c)]), .bool false]) ∧ Below w.heap.size w w' := by
  go_enter Try.func21, Try.ntmps21
  go_wp2_with fail
  all_goals go_region
  all_goals go_wp2_with fail
  all_goals (refine bodyPost_ret (v := .tuple #[.int .i64 0, (.agg #[.int .i64 (a), .int .i64 (b), .int .i64 (c)]), .bool false]) (by simp [results, Try.results21, go_sem]) rfl ⟨rfl, (by repeat (first | exact Below.refl _ _ | assumption | refine below_drewN ?_ _ | refine Below.drew ?_ | refine Below.alloc ?_ (by simp <;> omega) _ | refine Below.setCell ?_ (by simp <;> omega) _))⟩)

set_option maxHeartbeats 800000 in
theorem drawn_new (n a b c x y z : Int) (w : World) (h : ¬ (x = a ∧ y = b ∧ z = c)) :
    Calls Try.prog 21 #[.int .i64 n, (.agg #[.int .i64 (a), .int .i64 (b), .int .i64 (c)]), (.agg #[.int .i64 (x), .int .i64 (y), .int .i64 (z)])] w fun e w' => e = .returned (.tuple #[.int .i64 n, (.agg #[.int .i64 (x), .int .i64 (y), .int .i64 (z)]), .bool true]) ∧ Below w.heap.size w w' := by
  have H : Hid (¬ (x = a ∧ y = b ∧ z = c)) := h
  clear h
  go_enter Try.func21, Try.ntmps21
  go_wp2_with fail
  all_goals try (exfalso; have := H.out; simp_all; done)
  all_goals go_region
  all_goals go_wp2_with fail
  all_goals (refine bodyPost_ret (v := .tuple #[.int .i64 n, (.agg #[.int .i64 (x), .int .i64 (y), .int .i64 (z)]), .bool true]) (by simp [results, Try.results21, go_sem, *]) rfl ⟨rfl, (by repeat (first | exact Below.refl _ _ | assumption | refine below_drewN ?_ _ | refine Below.drew ?_ | refine Below.alloc ?_ (by simp <;> omega) _ | refine Below.setCell ?_ (by simp <;> omega) _))⟩)

/-- Three cells of a block that a call has left as they were. -/
theorem box3 {w w' : World} {q : Nat} {v0 v1 v2 : Value} (hb : Below w.heap.size w w') (hq : q < w.heap.size) (h0 : w.cell? ⟨q, 0, none⟩ = some v0) (h1 : w.cell? ⟨q, 1, none⟩ = some v1) (h2 : w.cell? ⟨q, 2, none⟩ = some v2) (hz : ∀ j, w.frozen? ⟨q, j, none⟩ = false) :
    w'.cell? ⟨q, 0, none⟩ = some v0 ∧ w'.cell? ⟨q, 1, none⟩ = some v1 ∧ w'.cell? ⟨q, 2, none⟩ = some v2 ∧ w'.frozen? ⟨q, 0, none⟩ = false ∧ w'.frozen? ⟨q, 1, none⟩ = false ∧ w'.frozen? ⟨q, 2, none⟩ = false :=
  ⟨by rw [hb.cell hq]; exact h0, by rw [hb.cell hq]; exact h1, by rw [hb.cell hq]; exact h2, by rw [hb.frozen hq]; exact hz 0, by rw [hb.frozen hq]; exact hz 1, by rw [hb.frozen hq]; exact hz 2⟩

theorem Below.set3 {B q : Nat} {a w : World} (h : Below B a w) (hq : B ≤ q) (u0 u1 u2 : Value) : Below B a (((w.setCell ⟨q, 0, none⟩ u0).setCell ⟨q, 1, none⟩ u1).setCell ⟨q, 2, none⟩ u2) :=
  ((h.setCell hq _).setCell hq _).setCell hq _

set_option maxHeartbeats 800000 in
theorem nonce_any (n c t : Int) (w : World) (h1 : -9223372036854775808 ≤ n) (h2 : n ≤ 9223372036854775807) :
    Calls Try.prog 8 #[(.agg #[.int .i64 (n), .int .i64 (c), .int .i64 (t)])] w fun e w' => e = .returned (drawV n (.agg #[.int .i64 (n), .int .i64 (c), .int .i64 (t)]) (.agg #[.int .i64 ((n + 1)), .int .i64 (c), .int .i64 (t)])) ∧ Below w.heap.size w w' := by
  go_enter Try.func8, Try.ntmps8
  go_wp2_with fail
  refine (next_any n _ h1 h2).mono ?_
  rintro e w1 ⟨rfl, rfl⟩
  by_cases hn : n > 1073741824
  · rw [show nextI n = n from if_pos hn]
    have Hn : Hid (n > 1073741824) := hn
    clear hn
    go_wp2_with fail
    refine (drawn_same n n c t _).mono ?_
    rintro e w2 ⟨rfl, ho⟩
    obtain ⟨r0, r1, r2, f0, f1, f2⟩ := box3 (q := w.heap.size + 1) (v0 := .int .i64 0) (v1 := .int .i64 0) (v2 := .int .i64 0) ho (by simp [World.setCell]) (by simp [go_sem]) (by simp [go_sem]) (by simp [go_sem]) (by intro j; simp [go_sem])
    go_wp2_with fail
    refine bodyPost_ret (v := .tuple #[.int .i64 0, (.agg #[.int .i64 (n), .int .i64 (c), .int .i64 (t)]), .bool false]) (by simp [results, Try.results8, go_sem, r0, r1, r2]) rfl ⟨by rw [drawV, if_pos Hn.out], ?_⟩
    exact Below.set3 (Below.trans (by exact (by repeat (first | exact Below.refl _ _ | assumption | refine below_drewN ?_ _ | refine Below.drew ?_ | refine Below.alloc ?_ (by simp <;> omega) _ | refine Below.setCell ?_ (by simp <;> omega) _))) (ho.mono (by simp [World.setCell]; omega))) (by omega) _ _ _
  · rw [show nextI n = n + 1 from if_neg hn]
    have Hn : Hid (¬ n > 1073741824) := hn
    clear hn
    go_wp2_with fail
    refine (drawn_new n n c t (n + 1) c t _ (by omega)).mono ?_
    rintro e w2 ⟨rfl, ho⟩
    obtain ⟨r0, r1, r2, f0, f1, f2⟩ := box3 (q := w.heap.size + 1) (v0 := .int .i64 0) (v1 := .int .i64 0) (v2 := .int .i64 0) ho (by simp [World.setCell]) (by simp [go_sem]) (by simp [go_sem]) (by simp [go_sem]) (by intro j; simp [go_sem])
    go_wp2_with fail
    refine bodyPost_ret (v := .tuple #[.int .i64 n, (.agg #[.int .i64 ((n + 1)), .int .i64 (c), .int .i64 (t)]), .bool true]) (by simp [results, Try.results8, go_sem, r0, r1, r2]) rfl ⟨by rw [drawV, if_neg (by have := Hn.out; omega)], ?_⟩
    exact Below.set3 (Below.trans (by exact (by repeat (first | exact Below.refl _ _ | assumption | refine below_drewN ?_ _ | refine Below.drew ?_ | refine Below.alloc ?_ (by simp <;> omega) _ | refine Below.setCell ?_ (by simp <;> omega) _))) (ho.mono (by simp [World.setCell]; omega))) (by omega) _ _ _

set_option maxHeartbeats 800000 in
theorem conn_any (n c t : Int) (w : World) (h1 : -9223372036854775808 ≤ c) (h2 : c ≤ 9223372036854775807) :
    Calls Try.prog 10 #[(.agg #[.int .i64 (n), .int .i64 (c), .int .i64 (t)])] w fun e w' => e = .returned (drawV c (.agg #[.int .i64 (n), .int .i64 (c), .int .i64 (t)]) (.agg #[.int .i64 (n), .int .i64 ((c + 1)), .int .i64 (t)])) ∧ Below w.heap.size w w' := by
  go_enter Try.func10, Try.ntmps10
  go_wp2_with fail
  refine (next_any c _ h1 h2).mono ?_
  rintro e w1 ⟨rfl, rfl⟩
  by_cases hn : c > 1073741824
  · rw [show nextI c = c from if_pos hn]
    have Hn : Hid (c > 1073741824) := hn
    clear hn
    go_wp2_with fail
    refine (drawn_same c n c t _).mono ?_
    rintro e w2 ⟨rfl, ho⟩
    obtain ⟨r0, r1, r2, f0, f1, f2⟩ := box3 (q := w.heap.size + 1) (v0 := .int .i64 0) (v1 := .int .i64 0) (v2 := .int .i64 0) ho (by simp [World.setCell]) (by simp [go_sem]) (by simp [go_sem]) (by simp [go_sem]) (by intro j; simp [go_sem])
    go_wp2_with fail
    refine bodyPost_ret (v := .tuple #[.int .i64 0, (.agg #[.int .i64 (n), .int .i64 (c), .int .i64 (t)]), .bool false]) (by simp [results, Try.results10, go_sem, r0, r1, r2]) rfl ⟨by rw [drawV, if_pos Hn.out], ?_⟩
    exact Below.set3 (Below.trans (by exact (by repeat (first | exact Below.refl _ _ | assumption | refine below_drewN ?_ _ | refine Below.drew ?_ | refine Below.alloc ?_ (by simp <;> omega) _ | refine Below.setCell ?_ (by simp <;> omega) _))) (ho.mono (by simp [World.setCell]; omega))) (by omega) _ _ _
  · rw [show nextI c = c + 1 from if_neg hn]
    have Hn : Hid (¬ c > 1073741824) := hn
    clear hn
    go_wp2_with fail
    refine (drawn_new c n c t n (c + 1) t _ (by omega)).mono ?_
    rintro e w2 ⟨rfl, ho⟩
    obtain ⟨r0, r1, r2, f0, f1, f2⟩ := box3 (q := w.heap.size + 1) (v0 := .int .i64 0) (v1 := .int .i64 0) (v2 := .int .i64 0) ho (by simp [World.setCell]) (by simp [go_sem]) (by simp [go_sem]) (by simp [go_sem]) (by intro j; simp [go_sem])
    go_wp2_with fail
    refine bodyPost_ret (v := .tuple #[.int .i64 c, (.agg #[.int .i64 (n), .int .i64 ((c + 1)), .int .i64 (t)]), .bool true]) (by simp [results, Try.results10, go_sem, r0, r1, r2]) rfl ⟨by rw [drawV, if_neg (by have := Hn.out; omega)], ?_⟩
    exact Below.set3 (Below.trans (by exact (by repeat (first | exact Below.refl _ _ | assumption | refine below_drewN ?_ _ | refine Below.drew ?_ | refine Below.alloc ?_ (by simp <;> omega) _ | refine Below.setCell ?_ (by simp <;> omega) _))) (ho.mono (by simp [World.setCell]; omega))) (by omega) _ _ _

end Go.Proofs.Ytnogkmhiedmhoaa
