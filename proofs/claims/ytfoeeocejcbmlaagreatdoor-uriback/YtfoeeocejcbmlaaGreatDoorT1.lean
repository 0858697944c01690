import Derived.Test.YtfoeeocejcbmlaaGreatDoorT0
namespace Go.Proofs.YtfoeeocejcbmlaaGreatDoor
open Go.RowKit
set_option linter.unusedVariables false
set_option linter.unusedSimpArgs false

/-- Every rune from pos on is as p says. -/
def eachF (p : Int → Bool) (s : ByteArray) : Nat → Nat → Bool
  | 0, _ => true
  | f + 1, pos => if pos < s.size then p (Utf8.decode s pos).1 && eachF p s f (pos + (Utf8.decode s pos).2) else true

/-- How many runes there are from pos on. -/
def runesF (s : ByteArray) : Nat → Nat → Nat
  | 0, _ => 0
  | f + 1, pos => if pos < s.size then runesF s f (pos + (Utf8.decode s pos).2) + 1 else 0

/-- Where n runes end that begin at pos. -/
def clipF (s : ByteArray) : Nat → Nat → Nat → Nat
  | 0, pos, _ => pos
  | f + 1, pos, n => if pos < s.size ∧ 0 < n then clipF s f (pos + (Utf8.decode s pos).2) (n - 1) else pos

def knownB (r : Int) : Bool := decide (r ≠ 65533)
def namedB (r : Int) : Bool := decide (r ≠ 65533 ∧ 32 < r ∧ (r < 127 ∨ 160 < r))
def seenB (r : Int) : Bool := decide (32 ≤ r ∧ r ≤ 126)
def plainB (r : Int) : Bool := decide (r = 45 ∨ r = 46 ∨ r = 95 ∨ r = 126 ∨ (65 ≤ r ∧ r ≤ 90) ∨ (97 ≤ r ∧ r ≤ 122) ∨ (48 ≤ r ∧ r ≤ 57))
def tokB (r : Int) : Bool := decide (r = 33 ∨ r = 35 ∨ r = 36 ∨ r = 37 ∨ r = 38 ∨ r = 39 ∨ r = 42 ∨ r = 43 ∨ r = 94 ∨ r = 96 ∨ r = 124) || plainB r

theorem width_pos (s : ByteArray) (pos : Nat) (h : pos < s.size) : 1 ≤ (Utf8.decode s pos).2 := by
  by_cases ha : (s[pos]'h).toNat < 128
  · rw [decode_ascii s pos h ha]
    exact Nat.le_refl _
  · exact (decode_high s pos h (by omega)).2

theorem width_in (s : ByteArray) (pos : Nat) (h : pos < s.size) : pos + (Utf8.decode s pos).2 ≤ s.size := by
  simp only [Utf8.decode]
  repeat' split
  all_goals simp_all [Utf8.runeError]
  all_goals omega

theorem eachF_end (p : Int → Bool) (s : ByteArray) (f pos : Nat) (h : ¬ pos < s.size) : eachF p s f pos = true := by cases f <;> simp [eachF, h]
theorem runesF_end (s : ByteArray) (f pos : Nat) (h : ¬ pos < s.size) : runesF s f pos = 0 := by cases f <;> simp [runesF, h]
theorem clipF_end (s : ByteArray) (f pos n : Nat) (h : ¬ pos < s.size) : clipF s f pos n = pos := by cases f <;> simp [clipF, h]

theorem runesF_le (s : ByteArray) : ∀ f pos, runesF s f pos ≤ f
  | 0, _ => Nat.le_refl _
  | f + 1, pos => by
    rw [runesF]; split
    · have := runesF_le s f (pos + (Utf8.decode s pos).2); omega
    · omega

theorem clipF_le (s : ByteArray) : ∀ f pos n, pos ≤ s.size → clipF s f pos n ≤ s.size
  | 0, _, _, h => h
  | f + 1, pos, n, h => by
    rw [clipF]; split
    · rename_i hh; exact clipF_le s f _ _ (width_in s pos hh.1)
    · exact h

set_option maxHeartbeats 2000000 in
theorem plain_any (r : Int) (w : World) :
    Calls Tryz.prog 109 #[.int .i32 r] w fun e w' => e = .returned (.bool (plainB r)) ∧ w' = w := by
  go_enter Tryz.func109, Tryz.ntmps109
  go_wp2_with fail
  all_goals go_ret
  all_goals exact ⟨ret_bool (by (try simp only [beq_iff_eq, beq_eq_false_iff_ne, ne_eq] at *); rw [Bool.eq_iff_iff]; simp only [plainB, decide_eq_true_eq, Bool.or_eq_true, bne_iff_ne, ne_eq, Bool.false_eq_true, false_iff, true_iff, iff_true, iff_false, Bool.not_eq_true', decide_eq_false_iff_not]; (try omega)), rfl⟩

set_option maxHeartbeats 2000000 in
theorem each_plain (s : ByteArray) (w : World) :
    Calls Tryz.prog 108 #[.string s, .func (.func 109) #[] #[]] w fun e w' => e = .returned (.bool (eachF plainB s s.size 0)) ∧ Below w.heap.size w w' := by
  go_enter Tryz.func108, Tryz.ntmps108
  go_wp2_with fail
  go_loopw [6] (fun _ wr => ∃ (pos fuel : Nat), wr.heap[w.heap.size]? = some (.stringIter s pos) ∧ Below w.heap.size w wr ∧ eachF plainB s fuel pos = eachF plainB s s.size 0 ∧ s.size ≤ pos + fuel) (fun _ wr => s.size - wr.iterPos w.heap.size)
  case atStart =>
    exact ⟨0, s.size, by simpa using World.iter_heap w s 0, (Below.refl _ w).alloc (Nat.le_refl _) _, rfl, by omega⟩
  case round =>
    obtain ⟨pos, fuel, hit, hbw, hacc, hfu⟩ := hrel
    have Hacc : Hid (eachF plainB s fuel pos = eachF plainB s s.size 0) := hacc
    clear hacc
    have hsz : w.heap.size < wr.heap.size := (Array.getElem?_eq_some_iff.1 hit).1
    by_cases hp : pos < s.size
    · have hnx : ∀ ty, (Instr.next (.pointer (some ⟨w.heap.size, 0, none⟩)) true ty).run Tryz.prog wr = _ := fun ty => Lib.run_next_any_at wr w.heap.size s pos ty hit hp
      have hwd := width_pos s pos hp
      have hit2 := Lib.iterAt_heap wr w.heap.size s pos (pos + (Utf8.decode s pos).2) hit
      have hbw2 := Lib.below_iterAt hbw (k := w.heap.size) (Nat.le_refl _) s (pos + (Utf8.decode s pos).2)
      obtain ⟨f, rfl⟩ : ∃ f, fuel = f + 1 := ⟨fuel - 1, by omega⟩
      by_cases hr : plainB ((Utf8.decode s pos).1 : Int) = true
      · go_wp2_with (go_at_call 109; refine (plain_any _ _).mono ?_; rintro e W1 ⟨rfl, rfl⟩)
        go_roundw
        case rel =>
          refine ⟨pos + (Utf8.decode s pos).2, f, hit2, hbw2, ?_, by omega⟩
          have := Hacc.out; rw [eachF, if_pos hp, hr, Bool.true_and] at this; exact this
        case measure =>
          simp only [World.iterPos, hit2, hit]
          omega
      · have hr' : plainB ((Utf8.decode s pos).1 : Int) = false := by simpa using hr
        go_wp2_with (go_at_call 109; refine (plain_any _ _).mono ?_; rintro e W1 ⟨rfl, rfl⟩)
        go_ret
        exact ⟨ret_bool (by have := Hacc.out; rw [eachF, if_pos hp, hr', Bool.false_and] at this; exact this), hbw2⟩
    · have hnx : ∀ ty, (Instr.next (.pointer (some ⟨w.heap.size, 0, none⟩)) true ty).run Tryz.prog wr = _ := fun ty => Lib.run_next_end_at wr w.heap.size s pos ty hit hp
      go_wp2_with fail
      go_ret
      exact ⟨ret_bool (by have := Hacc.out; rw [eachF_end _ _ _ _ hp] at this; exact this), hbw⟩


end Go.Proofs.YtfoeeocejcbmlaaGreatDoor
