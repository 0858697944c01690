import Derived.Test.YtfoeeocejcbmlaaGreatDoorT3
namespace Go.Proofs.YtfoeeocejcbmlaaGreatDoor
open Go.RowKit
set_option linter.unusedVariables false
set_option linter.unusedSimpArgs false

def letB (c : Nat) : Bool := decide ((65 ≤ c ∧ c ≤ 90) ∨ (97 ≤ c ∧ c ≤ 122))
def digB (c : Nat) : Bool := decide (48 ≤ c ∧ c ≤ 57)

/-- Whether c is among the bytes of s from i on. -/
def inF (c : Nat) (s : ByteArray) : Nat → Nat → Bool
  | 0, _ => false
  | f + 1, i => if i < s.size then decide (bN s i = c) || inF c s f (i + 1) else false

/-- Every byte from i on is as p says. -/
def bytesF (p : Int → Bool) (s : ByteArray) : Nat → Nat → Bool
  | 0, _ => true
  | f + 1, i => if i < s.size then p (bN s i : Int) && bytesF p s f (i + 1) else true

theorem each_bytes (p : Int → Bool) (hp : ∀ r : Int, 128 ≤ r → p r = false) (s : ByteArray) : ∀ f pos, eachF p s f pos = bytesF p s f pos := by
  intro f
  induction f with
  | zero => intro pos; rfl
  | succ f ih =>
    intro pos
    rw [eachF, bytesF]
    by_cases h : pos < s.size
    · rw [if_pos h, if_pos h]
      by_cases ha : (s[pos]'h).toNat < 128
      · rw [decode_ascii s pos h ha]
        simp only [ih]
        rw [bN_at s pos h]
      · have hd := (decode_high s pos h (by omega)).1
        rw [hp _ (by omega), hp (bN s pos : Int) (by rw [← bN_at s pos h]; omega)]
        rfl
    · rw [if_neg h, if_neg h]

theorem bytesF_end (p : Int → Bool) (s : ByteArray) (f pos : Nat) (h : ¬ pos < s.size) : bytesF p s f pos = true := by cases f <;> simp [bytesF, h]

theorem seenB_high (r : Int) (h : 128 ≤ r) : seenB r = false := by simp [seenB]; omega
theorem plainB_high (r : Int) (h : 128 ≤ r) : plainB r = false := by simp [plainB]; omega
theorem tokB_high (r : Int) (h : 128 ≤ r) : tokB r = false := by simp [tokB, plainB]; omega

set_option maxHeartbeats 1000000 in
theorem letter6_any (c : Nat) (w : World) :
    Calls Tryz.prog 66 #[.int .u8 (c : Int)] w fun e w' => e = .returned (.bool (letB c)) ∧ w' = w := by
  go_enter Tryz.func66, Tryz.ntmps66
  go_wp2_with fail
  all_goals go_ret
  all_goals exact ⟨ret_bool (by rw [Bool.eq_iff_iff]; simp only [letB, Bool.or_eq_true, Bool.and_eq_true, decide_eq_true_eq, Bool.false_eq_true, false_iff, true_iff, iff_true, iff_false]; (try omega)), rfl⟩

set_option maxHeartbeats 1000000 in
theorem digit6_any (c : Nat) (w : World) :
    Calls Tryz.prog 48 #[.int .u8 (c : Int)] w fun e w' => e = .returned (.bool (digB c)) ∧ w' = w := by
  go_enter Tryz.func48, Tryz.ntmps48
  go_wp2_with fail
  all_goals go_ret
  all_goals exact ⟨ret_bool (by rw [Bool.eq_iff_iff]; simp only [digB, Bool.or_eq_true, Bool.and_eq_true, decide_eq_true_eq, Bool.false_eq_true, false_iff, true_iff, iff_true, iff_false]; (try omega)), rfl⟩

set_option maxHeartbeats 1000000 in
theorem in6_any (c : Nat) (s : ByteArray) (w : World) (hs : s.size ≤ 9223372036854775807) :
    Calls Tryz.prog 67 #[.int .u8 (c : Int), .string s] w fun e w' => e = .returned (.bool (inF c s s.size 0)) ∧ w' = w := by
  go_enter Tryz.func67, Tryz.ntmps67
  go_wp2_with fail
  go_loopw [5] (fun iv wr => ∃ i : Nat, iv = .int .i64 (i : Int) ∧ wr = w ∧ inF c s (s.size - i) i = inF c s s.size 0 ∧ i ≤ s.size) (fun iv _ => s.size - (intOf iv).toNat)
  case atStart =>
    exact ⟨0, rfl, rfl, rfl, by omega⟩
  case round =>
    obtain ⟨i, rfl, rfl, hacc, hi⟩ := hrel
    have Hacc : Hid (inF c s (s.size - i) i = inF c s s.size 0) := hacc
    clear hacc
    by_cases hp : i < s.size
    · have hp' : (i : Int) < (s.size : Int) := by omega
      have hb := bN_at s i hp
      have A1 : Hid ((decide (bN s i = c) || inF c s (s.size - (i + 1)) (i + 1)) = inF c s s.size 0) := by
        have := Hacc.out; rw [show s.size - i = (s.size - (i + 1)) + 1 by omega, inF, if_pos hp] at this; exact this
      clear Hacc
      by_cases hr : bN s i = c
      · have hr' : (((s[i]'hp).toNat : Int) == (c : Int)) = true := by rw [hb, hr]; simp
        have Hr : Hid (bN s i = c) := hr
        clear hr hb
        go_wp2_with fail
        go_ret
        exact ⟨ret_bool (by rw [← A1.out, Hr.out]; simp), rfl⟩
      · have hr' : (((s[i]'hp).toNat : Int) == (c : Int)) = false := by rw [hb]; simp; omega
        have Hr : Hid (¬ bN s i = c) := hr
        clear hr hb
        go_wp2_with fail
        go_roundw
        case rel =>
          exact ⟨i + 1, by simp, by trivial, by rw [← A1.out, decide_eq_false Hr.out]; simp, by omega⟩
        case measure =>
          simp [intOf]
          omega
    · have hp' : ¬ (i : Int) < (s.size : Int) := by omega
      go_wp2_with fail
      go_ret
      exact ⟨ret_bool (by rw [← Hacc.out, show s.size - i = 0 by omega]; rfl), rfl⟩

theorem in_plain : ∀ c : Fin 256, inF c.1 ⟨#[45, 46, 95, 126]⟩ 4 0 = decide (c.1 = 45 ∨ c.1 = 46 ∨ c.1 = 95 ∨ c.1 = 126) := by decide +kernel
theorem in_tok : ∀ c : Fin 256, inF c.1 ⟨#[33, 35, 36, 37, 38, 39, 42, 43, 45, 46, 94, 95, 124, 126]⟩ 14 0 = (decide (c.1 = 33 ∨ c.1 = 35 ∨ c.1 = 36 ∨ c.1 = 37 ∨ c.1 = 38 ∨ c.1 = 39 ∨ c.1 = 42 ∨ c.1 = 43 ∨ c.1 = 45 ∨ c.1 = 46 ∨ c.1 = 94 ∨ c.1 = 95 ∨ c.1 = 124 ∨ c.1 = 126)) := by decide +kernel

theorem plainB_is (c : Nat) (h : c < 256) : plainB (c : Int) = (letB c || digB c || inF c ⟨#[45, 46, 95, 126]⟩ 4 0) := by
  rw [in_plain ⟨c, h⟩, Bool.eq_iff_iff]; simp only [plainB, letB, digB, Bool.or_eq_true, decide_eq_true_eq]; omega
theorem tokB_is (c : Nat) (h : c < 256) : tokB (c : Int) = (letB c || digB c || inF c ⟨#[33, 35, 36, 37, 38, 39, 42, 43, 45, 46, 94, 95, 124, 126]⟩ 14 0 || decide (c = 96)) := by
  rw [in_tok ⟨c, h⟩, Bool.eq_iff_iff]; simp only [tokB, plainB, letB, digB, Bool.or_eq_true, decide_eq_true_eq]; omega

set_option maxHeartbeats 1000000 in
theorem plain6_any (c : Nat) (hc : c < 256) (w : World) :
    Calls Tryz.prog 49 #[.int .u8 (c : Int)] w fun e w' => e = .returned (.bool (plainB (c : Int))) ∧ w' = w := by
  have Hp : Hid (plainB (c : Int) = (letB c || digB c || inF c ⟨#[45, 46, 95, 126]⟩ 4 0)) := plainB_is c hc
  go_enter Tryz.func49, Tryz.ntmps49
  go_wp2_with fail
  refine (letter6_any c w).mono ?_
  rintro e w1 ⟨rfl, rfl⟩
  generalize h1 : letB c = b1
  have H1 : Hid (letB c = b1) := h1
  clear h1
  cases b1
  · go_wp2_with fail
    refine (digit6_any c _).mono ?_
    rintro e w1 ⟨rfl, rfl⟩
    generalize h2 : digB c = b2
    have H2 : Hid (digB c = b2) := h2
    clear h2
    cases b2
    · go_wp2_with fail
      refine (in6_any c ⟨#[45, 46, 95, 126]⟩ _ (by decide)).mono ?_
      rintro e w1 ⟨rfl, rfl⟩
      go_wp2_with fail
      go_ret
      exact ⟨ret_bool (by rw [Hp.out, H1.out, H2.out]; rfl), rfl⟩
    · go_wp2_with fail
      go_ret
      exact ⟨ret_bool (by rw [Hp.out, H1.out, H2.out]; rfl), rfl⟩
  · go_wp2_with fail
    go_ret
    exact ⟨ret_bool (by rw [Hp.out, H1.out]; rfl), rfl⟩

end Go.Proofs.YtfoeeocejcbmlaaGreatDoor
