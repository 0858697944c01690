import Derived.Test.YteohbkfogebldaaT10
namespace Go.Proofs.Yteohbkfogebldaa
open Go.RowKit
set_option linter.unusedVariables false
set_option linter.unusedSimpArgs false

set_option maxRecDepth 20000 in
set_option maxHeartbeats 4000000 in
theorem textLong_any (n m : Int) (w : World) (n1 : -9223372036854775808 ≤ n) (n2 : n ≤ 9223372036854775807) (m1 : -9223372036854775808 ≤ m) (m2 : m ≤ 9223372036854775807) :
    Calls Try.prog 7 #[.int .i64 n, .int .i64 m] w fun e w' => e = .returned (.bool true) ∧ Below w.heap.size w w' := by
  go_enter Try.func7, Try.ntmps7
  go_wp2_with fail
  refine (known6_any w).mono ?_
  rintro e w1 ⟨rfl, b1⟩
  go_wp2_with fail
  refine (within6_any n 40 _ (by omega) (by omega) n1 n2).mono ?_
  rintro e v9 ⟨rfl, rfl⟩
  have e1 := Int.emod_nonneg n (show (40 : Int) ≠ 0 by omega)
  have e2 := Int.emod_lt_of_pos n (show (0 : Int) < 40 by omega)
  obtain ⟨k, hk⟩ : ∃ k : Nat, n % 40 = (k : Int) := ⟨(n % 40).toNat, by omega⟩
  rw [hk]
  have hk40 : k < 40 := by omega
  clear hk e1 e2
  go_wp2_with fail
  refine (within6_any m 200 _ (by omega) (by omega) m1 m2).mono ?_
  rintro e v9 ⟨rfl, rfl⟩
  have e1 := Int.emod_nonneg m (show (200 : Int) ≠ 0 by omega)
  have e2 := Int.emod_lt_of_pos m (show (0 : Int) < 200 by omega)
  obtain ⟨j, hj⟩ : ∃ j : Nat, m % 200 = (j : Int) := ⟨(m % 200).toNat, by omega⟩
  rw [hj]
  have hj200 : j < 200 := by omega
  clear hj e1 e2
  go_wp2_with fail
  go_loopw [7, 9] (fun sv iv wr => ∃ i : Nat, iv = .int .i64 (i : Int) ∧ sv = .string (repS ⟨#[226, 130, 172]⟩ i) ∧ wr = v9 ∧ i ≤ k) (fun _ iv _ => k - (intOf iv).toNat)
  case atStart =>
    exact ⟨0, rfl, rfl, rfl, by omega⟩
  case round =>
    obtain ⟨i, rfl, rfl, rfl, hi⟩ := hrel
    have hsz := repW_size ⟨#[226, 130, 172]⟩ i
    rw [show (⟨#[226, 130, 172]⟩ : ByteArray).size = 3 from rfl] at hsz
    by_cases hlt : i < k
    · have hlt' : (i : Int) < (k : Int) := by omega
      have A1 : Hid (repS ⟨#[226, 130, 172]⟩ (i + 1) = repS ⟨#[226, 130, 172]⟩ i ++ ⟨#[226, 130, 172]⟩) := rfl
      have hlen : (repS ⟨#[226, 130, 172]⟩ i).size + (⟨#[226, 130, 172]⟩ : ByteArray).size ≤ 9223372036854775807 := by rw [hsz, show (⟨#[226, 130, 172]⟩ : ByteArray).size = 3 from rfl]; omega
      clear hsz
      go_wp2_with fail
      go_roundw
      case rel =>
        exact ⟨i + 1, by simp, by rw [A1.out], by trivial, by omega⟩
      case measure =>
        simp [intOf]
        omega
    · have hlt' : ¬ (i : Int) < (k : Int) := by omega
      obtain rfl : i = k := by omega
      clear hsz hi
      go_wp2_with fail
      go_loopw [8, 10] (fun sv iv wr' => ∃ h : Nat, iv = .int .i64 (h : Int) ∧ sv = .string (repS ⟨#[119]⟩ h) ∧ wr' = wr ∧ h ≤ j) (fun _ iv _ => j - (intOf iv).toNat)
      case atStart =>
        exact ⟨0, rfl, rfl, rfl, by omega⟩
      case round =>
        obtain ⟨h, rfl, rfl, rfl, hh⟩ := hrel
        have hsz := repW_size1 h
        by_cases hlt2 : h < j
        · have hlt2' : (h : Int) < (j : Int) := by omega
          have A1 : Hid (repS ⟨#[119]⟩ (h + 1) = repS ⟨#[119]⟩ h ++ ⟨#[119]⟩) := rfl
          have hlen : (repS ⟨#[119]⟩ h).size + (⟨#[119]⟩ : ByteArray).size ≤ 9223372036854775807 := by rw [hsz, show (⟨#[119]⟩ : ByteArray).size = 1 from rfl]; omega
          clear hsz
          go_wp2_with fail
          go_roundw
          case rel =>
            exact ⟨h + 1, by simp, by rw [A1.out], by trivial, by omega⟩
          case measure =>
            simp [intOf]
            omega
        · have hlt2' : ¬ (h : Int) < (j : Int) := by omega
          obtain rfl : h = j := by omega
          clear hh
          have q1 := repE_name i hk40
          have q2 := repW_word h
          have q3 := repW_token h
          have q4 := (rep_euro ⟨i, hk40⟩).1
          have hse := repW_size ⟨#[226, 130, 172]⟩ i
          rw [show (⟨#[226, 130, 172]⟩ : ByteArray).size = 3 from rfl] at hse
          simp only at q4
          have hse' : (repS ⟨#[226, 130, 172]⟩ i).size ≤ 9223372036854775807 := by omega
          clear hse hsz
          generalize repS ⟨#[226, 130, 172]⟩ i = X at *
          generalize repS ⟨#[119]⟩ h = Y at *
          go_wp2_with fail
          refine (nameB_any X _ hse').mono ?_
          rintro e w2 ⟨rfl, b2⟩
          rw [q1]
          replace b2 := below_tr b1 b2
          clear b1 q1
          by_cases p1 : (i : Int) ≥ 1 <;> by_cases p2 : (i : Int) ≤ 24 <;> by_cases p3 : (h : Int) ≥ 1 <;> by_cases p4 : (h : Int) ≤ 128
          all_goals try (exfalso; omega)
          all_goals
            first | rw [decide_eq_true (show 1 ≤ i ∧ i ≤ 24 by omega)] | rw [decide_eq_false (show ¬ (1 ≤ i ∧ i ≤ 24) by omega)]
            go_wp2_with fail
            refine (wordB_any Y _).mono ?_
            rintro e w3 ⟨rfl, b3⟩
            rw [q2]
            replace b3 := below_tr b2 b3
            first | rw [decide_eq_true (show 1 ≤ h ∧ h ≤ 128 by omega)] | rw [decide_eq_false (show ¬ (1 ≤ h ∧ h ≤ 128) by omega)]
            go_wp2_with fail
            refine (tokenB_any Y _).mono ?_
            rintro e w4 ⟨rfl, b4⟩
            rw [q3]
            replace b4 := below_tr b3 b4
            first | rw [decide_eq_true (show 1 ≤ h by omega)] | rw [decide_eq_false (show ¬ (1 ≤ h) by omega)]
            go_wp2_with fail
            refine (runes_any X _ hse').mono ?_
            rintro e w5 ⟨rfl, b5⟩
            rw [q4]
            replace b5 := below_tr b4 b5
            go_wp2_with fail
            go_ret
            exact ⟨ret_bool (by first | rfl | (simp; done) | (simp; omega)), b5⟩

end Go.Proofs.Yteohbkfogebldaa
