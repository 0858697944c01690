import Derived.Test.YtgmmbfnmojjbkaaGreatDoorW2
import Derived.Lib.Bytealg
import Derived.Deep.RegionHeld3
namespace Go.Proofs.YtgmmbfnmojjbkaaGreatDoor
open Go.RowKit
set_option linter.unusedVariables false
set_option linter.unusedSimpArgs false

def cmpI (x y : Int) : Int := if x < y then -1 else if y < x then 1 else 0
def orI (x y : Int) : Int := if x = 0 then y else x
def cmpS (x y : ByteArray) : Int := Lib.compareBytes x.data.toList y.data.toList

theorem cmpS_small : ∀ (x y : List UInt8), -1 ≤ Lib.compareBytes x y ∧ Lib.compareBytes x y ≤ 1
  | [], [] => by decide
  | [], _ :: _ => by simp [Lib.compareBytes]
  | _ :: _, [] => by simp [Lib.compareBytes]
  | a :: x, b :: y => by
    rw [Lib.compareBytes]; split
    · decide
    · split
      · decide
      · exact cmpS_small x y

set_option maxRecDepth 100000 in
set_option maxHeartbeats 400000 in
theorem isNaN_any (x : Int) (w : World) :
    Calls Tryz.prog 111 #[.int .i64 x] w fun e w' => e = .returned (.bool false) ∧ w' = w := by
  have h : (x != x) = false := by simp
  go_enter Tryz.func111, Tryz.ntmps111
  go_wp2_with fail
  go_ret
  exact ⟨rfl, rfl⟩

set_option maxRecDepth 100000 in
set_option maxHeartbeats 400000 in
theorem compare_any (x y : Int) (w : World) :
    Calls Tryz.prog 90 #[.int .i64 x, .int .i64 y] w fun e w' => e = .returned (.int .i64 (cmpI x y)) ∧ w' = w := by
  go_enter Tryz.func90, Tryz.ntmps90
  go_wp2_with fail
  refine (isNaN_any x w).mono ?_
  rintro e w1 ⟨rfl, rfl⟩
  go_wp2_with fail
  refine (isNaN_any y _).mono ?_
  rintro e w2 ⟨rfl, rfl⟩
  go_wp2_with fail
  all_goals go_ret
  all_goals exact ⟨ret_int (by simp_all [cmpI] <;> omega), rfl⟩

set_option maxRecDepth 100000 in
set_option maxHeartbeats 400000 in
theorem compareString_any (x y : ByteArray) (w : World) :
    Calls Tryz.prog 112 #[.string x, .string y] w fun e w' => e = .returned (.int .i64 (cmpS x y)) ∧ w' = w := by
  go_enter Tryz.func112, Tryz.ntmps112
  go_wp2
  rw [run_callFunc_extern Tryz.func123 (by kernel_rfl) (by kernel_rfl) (by kernel_rfl) (e := Extern.BytealgCompare.compare) (by kernel_rfl), Lib.run_compareString]
  simp only [Result.andThen]
  rw [Oper.upon_value]
  go_wp2
  go_ret
  exact ⟨rfl, rfl⟩

set_option maxRecDepth 100000 in
set_option maxHeartbeats 400000 in
theorem strCompare_any (x y : ByteArray) (w : World) :
    Calls Tryz.prog 91 #[.string x, .string y] w fun e w' => e = .returned (.int .i64 (cmpS x y)) ∧ w' = w := by
  go_enter Tryz.func91, Tryz.ntmps91
  go_wp2_with fail
  refine (compareString_any x y w).mono ?_
  rintro e w1 ⟨rfl, rfl⟩
  go_wp2_with fail
  go_ret
  exact ⟨rfl, rfl⟩

set_option maxHeartbeats 1000000 in
theorem or3_any (x y z : Int) (vb c : Nat) (w : World) (h0 : w.cell? ⟨vb, 0, none⟩ = some (.int .i64 x)) (h1 : w.cell? ⟨vb, 1, none⟩ = some (.int .i64 y)) (h2 : w.cell? ⟨vb, 2, none⟩ = some (.int .i64 z)) :
    Calls Tryz.prog 89 #[.slice (some ⟨vb, 0, none⟩) 3 c] w fun e w' => e = .returned (.int .i64 (orI x (orI y z))) ∧ w' = w := by
  go_enter Tryz.func89, Tryz.ntmps89
  go_wp2_with fail
  go_loop [8] (fun iv => ∃ i : Nat, iv = .int .i64 i ∧ i ≤ 3 ∧ (1 ≤ i → x = 0) ∧ (2 ≤ i → y = 0) ∧ (3 ≤ i → z = 0)) (fun iv => 3 - (intOf iv).toNat)
  case atStart => exact ⟨0, rfl, by omega, by omega, by omega, by omega⟩
  case round =>
    obtain ⟨i, rfl, hi, k0, k1, k2⟩ := hrel
    have hi4 : i = 0 ∨ i = 1 ∨ i = 2 ∨ i = 3 := by omega
    have K : Hid ((1 ≤ i → x = 0) ∧ (2 ≤ i → y = 0) ∧ (3 ≤ i → z = 0)) := ⟨k0, k1, k2⟩
    clear k0 k1 k2
    rcases hi4 with rfl | rfl | rfl | rfl
    · by_cases hx : x = 0
      · have hx' : (x != 0) = false := by simp [hx]
        have Hx : Hid (x = 0) := hx
        clear hx
        go_wp2_with fail
        go_round
        case rel => exact ⟨1, by go_num, by omega, fun _ => Hx.out, by omega, by omega⟩
        case measure => simp [intOf]
      · have hx' : (x != 0) = true := by simp [hx]
        go_wp2_with fail
        go_ret
        exact ⟨ret_int (by simp [orI, hx]), rfl⟩
    · by_cases hx : y = 0
      · have hx' : (y != 0) = false := by simp [hx]
        have Hx : Hid (y = 0) := hx
        clear hx
        go_wp2_with fail
        go_round
        case rel => exact ⟨2, by go_num, by omega, fun _ => K.out.1 (by omega), fun _ => Hx.out, by omega⟩
        case measure => simp [intOf]
      · have hx' : (y != 0) = true := by simp [hx]
        go_wp2_with fail
        go_ret
        exact ⟨ret_int (by have := K.out.1 (by omega); simp [orI, hx, this]), rfl⟩
    · by_cases hx : z = 0
      · have hx' : (z != 0) = false := by simp [hx]
        have Hx : Hid (z = 0) := hx
        clear hx
        go_wp2_with fail
        go_round
        case rel => exact ⟨3, by go_num, by omega, fun _ => K.out.1 (by omega), fun _ => K.out.2.1 (by omega), fun _ => Hx.out⟩
        case measure => simp [intOf]
      · have hx' : (z != 0) = true := by simp [hx]
        go_wp2_with fail
        go_ret
        exact ⟨ret_int (by have := K.out.1 (by omega); have := K.out.2.1 (by omega); simp_all [orI]), rfl⟩
    · go_wp2_with fail
      go_ret
      exact ⟨ret_int (by have h1 := K.out.1 (by omega); have h2 := K.out.2.1 (by omega); have h3 := K.out.2.2 (by omega); rw [h1, h2, h3]; rfl), rfl⟩

end Go.Proofs.YtgmmbfnmojjbkaaGreatDoor
