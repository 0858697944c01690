import Derived.Test.YteohbkfogebldaaT1
namespace Go.Proofs.Yteohbkfogebldaa
open Go.RowKit
set_option linter.unusedVariables false
set_option linter.unusedSimpArgs false


theorem valid_any (s : ByteArray) (w : World) :
    Calls Try.prog 10 #[.string s] w fun e w' => e = .returned (.bool (eachF knownB s s.size 0)) ∧ Below w.heap.size w w' := by
  go_enter Try.func10, Try.ntmps10
  go_wp2_with fail
  refine (each_known s w).mono ?_
  rintro e w1 ⟨rfl, hb⟩
  go_wp2_with fail
  go_ret
  exact ⟨rfl, hb⟩

theorem tseen_any (s : ByteArray) (w : World) :
    Calls Try.prog 23 #[.string s] w fun e w' => e = .returned (.bool (eachF seenB s s.size 0)) ∧ Below w.heap.size w w' := by
  go_enter Try.func23, Try.ntmps23
  go_wp2_with fail
  refine (each_seen s w).mono ?_
  rintro e w1 ⟨rfl, hb⟩
  go_wp2_with fail
  go_ret
  exact ⟨rfl, hb⟩

theorem toList_size (s : ByteArray) : s.toList = [] ↔ s.size = 0 := by
  have : s.toList = s.data.toList := by rw [ByteArray.toList_eq]
  rw [this]; rcases s with ⟨⟨l⟩⟩; simp [ByteArray.size]

set_option maxHeartbeats 1000000 in
theorem token_any (s : ByteArray) (w : World) :
    Calls Try.prog 21 #[.string s] w fun e w' => e = .returned (.bool (decide (1 ≤ s.size) && eachF tokB s s.size 0)) ∧ Below w.heap.size w w' := by
  go_enter Try.func21, Try.ntmps21
  go_wp2_with fail
  · rename_i h
    have h' : s.size = 0 := by rw [toList_size] at h; exact h
    go_ret
    exact ⟨ret_bool (by simp [h']), (by repeat (first | exact Below.refl _ _ | assumption | refine below_drewN ?_ _ | refine Below.drew ?_ | refine Below.alloc ?_ (by simp <;> omega) _ | refine Below.setCell ?_ (by simp <;> omega) _))⟩
  · rename_i h K2 a2
    have h' : 1 ≤ s.size := by rw [toList_size] at h; omega
    refine (each_tokened s w).mono ?_
    rintro e w1 ⟨rfl, hb⟩
    go_wp2_with fail
    go_ret
    exact ⟨ret_bool (by simp [h', h]), hb⟩

set_option maxHeartbeats 1000000 in
theorem word_any (s : ByteArray) (w : World) :
    Calls Try.prog 19 #[.string s] w fun e w' => e = .returned (.bool (decide (1 ≤ s.size ∧ s.size ≤ 128) && eachF plainB s s.size 0)) ∧ Below w.heap.size w w' := by
  go_enter Try.func19, Try.ntmps19
  by_cases h : 1 ≤ s.size
  · have h1 : (1 : Int) ≤ (s.size : Int) := by omega
    by_cases h' : s.size ≤ 128
    · have h2 : (s.size : Int) ≤ 128 := by omega
      go_wp2_with fail
      refine (each_plain s w).mono ?_
      rintro e w1 ⟨rfl, hb⟩
      go_wp2_with fail
      go_ret
      exact ⟨ret_bool (by simp [h, h']), hb⟩
    · have h2 : ¬ (s.size : Int) ≤ 128 := by omega
      go_wp2_with fail
      go_ret
      exact ⟨ret_bool (by simp [h']), (by repeat (first | exact Below.refl _ _ | assumption | refine below_drewN ?_ _ | refine Below.drew ?_ | refine Below.alloc ?_ (by simp <;> omega) _ | refine Below.setCell ?_ (by simp <;> omega) _))⟩
  · have h1 : ¬ (1 : Int) ≤ (s.size : Int) := by omega
    go_wp2_with fail
    go_ret
    exact ⟨ret_bool (by simp [h]), (by repeat (first | exact Below.refl _ _ | assumption | refine below_drewN ?_ _ | refine Below.drew ?_ | refine Below.alloc ?_ (by simp <;> omega) _ | refine Below.setCell ?_ (by simp <;> omega) _))⟩

set_option maxHeartbeats 1000000 in
theorem runes_any (s : ByteArray) (w : World) (hs : s.size ≤ 9223372036854775807) :
    Calls Try.prog 12 #[.string s] w fun e w' => e = .returned (.int .i64 (runesF s s.size 0 : Nat)) ∧ Below w.heap.size w w' := by
  go_enter Try.func12, Try.ntmps12
  go_wp2_with fail
  go_loopw [3] (fun nv wr => ∃ (n pos fuel : Nat), nv = .int .i64 (n : Int) ∧ wr.heap[w.heap.size]? = some (.stringIter s pos) ∧ Below w.heap.size w wr ∧ n + runesF s fuel pos = runesF s s.size 0 ∧ s.size ≤ pos + fuel ∧ n ≤ pos) (fun _ wr => s.size - wr.iterPos w.heap.size)
  case atStart =>
    exact ⟨0, 0, s.size, rfl, by simpa using World.iter_heap w s 0, (Below.refl _ w).alloc (Nat.le_refl _) _, by omega, by omega, by omega⟩
  case round =>
    obtain ⟨n, pos, fuel, rfl, hit, hbw, hacc, hfu, hnp⟩ := hrel
    have Hacc : Hid (n + runesF s fuel pos = runesF s s.size 0) := hacc
    clear hacc
    by_cases hp : pos < s.size
    · have hnx : ∀ ty, (Instr.next (.pointer (some ⟨w.heap.size, 0, none⟩)) true ty).run Try.prog wr = _ := fun ty => Lib.run_next_any_at wr w.heap.size s pos ty hit hp
      have hwd := width_pos s pos hp
      have hit2 := Lib.iterAt_heap wr w.heap.size s pos (pos + (Utf8.decode s pos).2) hit
      have hbw2 := Lib.below_iterAt hbw (k := w.heap.size) (Nat.le_refl _) s (pos + (Utf8.decode s pos).2)
      obtain ⟨f, rfl⟩ : ∃ f, fuel = f + 1 := ⟨fuel - 1, by omega⟩
      go_wp2_with fail
      go_roundw
      case rel =>
        refine ⟨n + 1, pos + (Utf8.decode s pos).2, f, by simp, hit2, hbw2, ?_, by omega, by omega⟩
        have := Hacc.out; rw [runesF, if_pos hp] at this; omega
      case measure =>
        simp only [World.iterPos, hit2, hit]
        omega
    · have hnx : ∀ ty, (Instr.next (.pointer (some ⟨w.heap.size, 0, none⟩)) true ty).run Try.prog wr = _ := fun ty => Lib.run_next_end_at wr w.heap.size s pos ty hit hp
      go_wp2_with fail
      go_ret
      exact ⟨ret_int (by have := Hacc.out; rw [runesF_end _ _ _ hp] at this; omega), hbw⟩

set_option maxHeartbeats 1000000 in
theorem name_any (s : ByteArray) (w : World) (hs : s.size ≤ 9223372036854775807) :
    Calls Try.prog 14 #[.string s] w fun e w' => e = .returned (.bool (decide (1 ≤ runesF s s.size 0 ∧ runesF s s.size 0 ≤ 24) && eachF namedB s s.size 0)) ∧ Below w.heap.size w w' := by
  go_enter Try.func14, Try.ntmps14
  go_wp2_with fail
  refine (runes_any s w hs).mono ?_
  rintro e w1 ⟨rfl, hb⟩
  have hsz := hb.size
  generalize hn0 : runesF s s.size 0 = n
  have Hn : Hid (runesF s s.size 0 = n) := hn0
  clear hn0
  by_cases h : 1 ≤ n
  · have h1 : (1 : Int) ≤ (n : Int) := by omega
    by_cases h' : n ≤ 24
    · have h2 : (n : Int) ≤ 24 := by omega
      go_wp2_with fail
      refine (each_named s w1).mono ?_
      rintro e w2 ⟨rfl, hb2⟩
      go_wp2_with fail
      go_ret
      exact ⟨ret_bool (by rw [Hn.out]; simp [h, h']), hb.trans (hb2.mono hsz)⟩
    · have h2 : ¬ (n : Int) ≤ 24 := by omega
      go_wp2_with fail
      go_ret
      exact ⟨ret_bool (by rw [Hn.out]; simp [h']), hb⟩
  · have h1 : ¬ (1 : Int) ≤ (n : Int) := by omega
    go_wp2_with fail
    go_ret
    exact ⟨ret_bool (by rw [Hn.out]; simp [h]), hb⟩

end Go.Proofs.Yteohbkfogebldaa
