import Derived.Test.YteohbkfogebldaaT3A
import Derived.Test.YteohbkfogebldaaT3D
namespace Go.Proofs.Yteohbkfogebldaa
open Go.RowKit
set_option linter.unusedVariables false
set_option linter.unusedSimpArgs false

theorem firstAt (s : ByteArray) (pos : Nat) (w : World) (hs : s.size ≤ 9223372036854775807) (hp : pos < s.size) :
    Calls Try.prog 31 #[.string (s.extract pos s.size)] w fun e w' => e = .returned (.tuple #[.int .i64 ((Utf8.decode s pos).1 : Int), .int .i64 ((Utf8.decode s pos).2 : Int)]) ∧ w' = w := by
  refine (first_any (s.extract pos s.size) w (by simp; omega) (by simp; omega)).mono ?_
  rintro e w1 ⟨r, n, rfl, hf, rfl⟩
  rw [moreAt_from, moreAt_from, moreAt_from, bN_from s pos 0 (by omega), Nat.add_zero] at hf
  obtain ⟨h1, h2⟩ := firstOk_decode s pos r n hf
  exact ⟨ret_two h1 h2, rfl⟩

set_option maxHeartbeats 2000000 in
theorem rrunes_any (s : ByteArray) (w : World) (hs : s.size ≤ 9223372036854775807) :
    Calls Try.prog 13 #[.string s] w fun e w' => e = .returned (.int .i64 (runesF s s.size 0 : Nat)) ∧ w' = w := by
  go_enter Try.func13, Try.ntmps13
  go_wp2_with fail
  go_loopw [3, 4, 5, 6] (fun nv iv _ _ wr => ∃ (n pos fuel : Nat), nv = .int .i64 (n : Int) ∧ iv = .int .i64 (pos : Int) ∧ wr = w ∧ n + runesF s fuel pos = runesF s s.size 0 ∧ s.size ≤ pos + fuel ∧ n ≤ pos ∧ pos ≤ s.size) (fun _ iv _ _ _ => s.size - (intOf iv).toNat)
  case atStart =>
    exact ⟨0, 0, s.size, rfl, rfl, rfl, by omega, by omega, by omega, by omega⟩
  case round =>
    obtain ⟨n, pos, fuel, rfl, rfl, rfl, hacc, hfu, hnp, hps⟩ := hrel
    have Hacc : Hid (n + runesF s fuel pos = runesF s s.size 0) := hacc
    clear hacc
    by_cases hp : pos < s.size
    · have hp' : (pos : Int) < (s.size : Int) := by omega
      have hwd := width_pos s pos hp
      have hwi := width_in s pos hp
      obtain ⟨f, rfl⟩ : ∃ f, fuel = f + 1 := ⟨fuel - 1, by omega⟩
      go_wp2_with (go_at_call 31; refine (firstAt s pos _ hs hp).mono ?_; rintro e W1 ⟨rfl, rfl⟩)
      go_roundw
      case rel =>
        refine ⟨n + 1, pos + (Utf8.decode s pos).2, f, by simp, by simp, by trivial, ?_, by omega, by omega, by omega⟩
        have := Hacc.out; rw [runesF, if_pos hp] at this; omega
      case measure =>
        simp [intOf]
        omega
    · have hp' : ¬ (pos : Int) < (s.size : Int) := by omega
      go_wp2_with fail
      go_ret
      exact ⟨ret_int (by have := Hacc.out; rw [runesF_end _ _ _ hp] at this; omega), rfl⟩

set_option maxHeartbeats 2000000 in
theorem rvalid_any (s : ByteArray) (w : World) (hs : s.size ≤ 9223372036854775807) :
    Calls Try.prog 11 #[.string s] w fun e w' => e = .returned (.bool (eachF knownB s s.size 0)) ∧ w' = w := by
  go_enter Try.func11, Try.ntmps11
  go_wp2_with fail
  go_loopw [3, 4, 5] (fun iv _ _ wr => ∃ (pos fuel : Nat), iv = .int .i64 (pos : Int) ∧ wr = w ∧ eachF knownB s fuel pos = eachF knownB s s.size 0 ∧ s.size ≤ pos + fuel ∧ pos ≤ s.size) (fun iv _ _ _ => s.size - (intOf iv).toNat)
  case atStart =>
    exact ⟨0, s.size, rfl, rfl, rfl, by omega, by omega⟩
  case round =>
    obtain ⟨pos, fuel, rfl, rfl, hacc, hfu, hps⟩ := hrel
    have Hacc : Hid (eachF knownB s fuel pos = eachF knownB s s.size 0) := hacc
    clear hacc
    by_cases hp : pos < s.size
    · have hp' : (pos : Int) < (s.size : Int) := by omega
      have hwd := width_pos s pos hp
      have hwi := width_in s pos hp
      obtain ⟨f, rfl⟩ : ∃ f, fuel = f + 1 := ⟨fuel - 1, by omega⟩
      by_cases hr : ((Utf8.decode s pos).1 : Int) = 65533
      · have hr' : (((Utf8.decode s pos).1 : Int) == 65533) = true := by simpa using hr
        have Hr : Hid (((Utf8.decode s pos).1 : Int) = 65533) := hr
        clear hr
        go_wp2_with (go_at_call 31; refine (firstAt s pos _ hs hp).mono ?_; rintro e W1 ⟨rfl, rfl⟩)
        go_ret
        exact ⟨ret_bool (by have := Hacc.out; rw [eachF, if_pos hp, show knownB ((Utf8.decode s pos).1 : Int) = false by simp [knownB, Hr.out], Bool.false_and] at this; exact this), rfl⟩
      · have hr' : (((Utf8.decode s pos).1 : Int) == 65533) = false := by simpa using hr
        have Hr : Hid (¬ ((Utf8.decode s pos).1 : Int) = 65533) := hr
        clear hr
        go_wp2_with (go_at_call 31; refine (firstAt s pos _ hs hp).mono ?_; rintro e W1 ⟨rfl, rfl⟩)
        go_roundw
        case rel =>
          refine ⟨pos + (Utf8.decode s pos).2, f, by simp, by trivial, ?_, by omega, by omega⟩
          have := Hacc.out; rw [eachF, if_pos hp, show knownB ((Utf8.decode s pos).1 : Int) = true by simpa [knownB] using Hr.out, Bool.true_and] at this; exact this
        case measure =>
          simp [intOf]
          omega
    · have hp' : ¬ (pos : Int) < (s.size : Int) := by omega
      go_wp2_with fail
      go_ret
      exact ⟨ret_bool (by have := Hacc.out; rw [eachF_end _ _ _ _ hp] at this; exact this), rfl⟩

set_option maxHeartbeats 2000000 in
theorem rclip_any (s : ByteArray) (n : Int) (w : World) (hs : s.size ≤ 9223372036854775807) (h1 : -9223372036854775808 ≤ n) (h2 : n ≤ 9223372036854775807) :
    Calls Try.prog 17 #[.string s, .int .i64 n] w fun e w' => e = .returned (.string (s.extract 0 (clipF s s.size 0 n.toNat))) ∧ w' = w := by
  go_enter Try.func17, Try.ntmps17
  go_wp2_with fail
  go_loopw [5, 6, 7, 8] (fun iv kv _ _ wr => ∃ (pos k fuel : Nat), iv = .int .i64 (pos : Int) ∧ kv = .int .i64 (k : Int) ∧ wr = w ∧ clipF s fuel pos (n.toNat - k) = clipF s s.size 0 n.toNat ∧ s.size ≤ pos + fuel ∧ pos ≤ s.size ∧ k ≤ pos) (fun iv _ _ _ _ => s.size - (intOf iv).toNat)
  case atStart =>
    exact ⟨0, 0, s.size, rfl, rfl, rfl, rfl, by omega, by omega, by omega⟩
  case round =>
    obtain ⟨pos, k, fuel, rfl, rfl, rfl, hacc, hfu, hps, hkp⟩ := hrel
    have Hacc : Hid (clipF s fuel pos (n.toNat - k) = clipF s s.size 0 n.toNat) := hacc
    clear hacc
    by_cases hk : (k : Int) < n
    · by_cases hp : pos < s.size
      · have hp' : (pos : Int) < (s.size : Int) := by omega
        have hwd := width_pos s pos hp
        have hwi := width_in s pos hp
        obtain ⟨f, rfl⟩ : ∃ f, fuel = f + 1 := ⟨fuel - 1, by omega⟩
        go_wp2_with (go_at_call 31; refine (firstAt s pos _ hs hp).mono ?_; rintro e W1 ⟨rfl, rfl⟩)
        go_roundw
        case rel =>
          refine ⟨pos + (Utf8.decode s pos).2, k + 1, f, by simp, by simp, by trivial, ?_, by omega, by omega, by omega⟩
          have := Hacc.out; rw [clipF, if_pos ⟨hp, by omega⟩] at this; rw [← this]; congr 1
        case measure =>
          simp [intOf]
          omega
      · have hp' : ¬ (pos : Int) < (s.size : Int) := by omega
        have hpe : pos = s.size := by omega
        have Hpe : Hid (pos = s.size) := hpe
        clear hpe
        go_wp2_with fail
        go_ret
        exact ⟨ret_str (by have := Hacc.out; rw [clipF_end _ _ _ _ hp] at this; rw [← this]), rfl⟩
    · have hk' : ¬ (k : Int) < n := hk
      go_wp2_with fail
      go_ret
      exact ⟨ret_str (by have := Hacc.out; rw [show n.toNat - k = 0 by omega] at this; rw [← this]; cases fuel <;> simp [clipF]), rfl⟩

end Go.Proofs.Yteohbkfogebldaa
