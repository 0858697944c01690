import Derived.Test.YtfoeeocejcbmlaaGreatDoorQA
import Derived.Test.YtfoeeocejcbmlaaGreatDoorShelf
import Derived.Lib.IndexLaws
namespace Go.Proofs.YtfoeeocejcbmlaaGreatDoor
open Go.RowKit Go.Shelf
set_option linter.unusedVariables false
set_option linter.unusedSimpArgs false

theorem cut_index (c : UInt8) (s : ByteArray) :
    (Lib.indexByte s.data.toList c = -1 ∧ cutX c s = s ∧ cutY c s = ⟨#[]⟩ ∧ cutZ c s = false) ∨
    ∃ i : Nat, Lib.indexByte s.data.toList c = i ∧ i < s.size ∧ cutX c s = s.extract 0 i ∧ cutY c s = s.extract (i + 1) s.size ∧ cutZ c s = true := by
  have hge := Lib.indexByte_ge s.data.toList c
  rcases Int.lt_or_le (Lib.indexByte s.data.toList c) 0 with h | h
  · left
    have h1 : Lib.indexByte s.data.toList c = -1 := by omega
    have hno := Lib.indexByte_none h1
    have : cutL c s.data.toList = none := cutL_no c _ (fun d hd => by
      rw [beq_eq_false_iff_ne]; rintro rfl
      obtain ⟨j, hj⟩ := List.getElem?_of_mem hd
      exact hno j hj)
    exact ⟨h1, cut_miss this⟩
  · right
    obtain ⟨i, hi⟩ : ∃ i : Nat, Lib.indexByte s.data.toList c = i := ⟨(Lib.indexByte s.data.toList c).toNat, by omega⟩
    obtain ⟨h1, h2⟩ := Lib.indexByte_some hi
    obtain ⟨hl, he⟩ := List.getElem?_eq_some_iff.1 h1
    have hl' : i < s.size := by rw [← size_list]; exact hl
    have e : s.data.toList = s.data.toList.take i ++ c :: s.data.toList.drop (i + 1) := by
      conv => lhs; rw [← List.take_append_drop i s.data.toList, List.drop_eq_getElem_cons hl, he]
    have : cutL c s.data.toList = some (s.data.toList.take i, s.data.toList.drop (i + 1)) := by
      conv => lhs; rw [e]
      exact cutL_app c _ _ (fun d hd => by
        rw [beq_eq_false_iff_ne]; rintro rfl
        obtain ⟨j, hj⟩ := List.getElem?_of_mem hd
        have hji : j < i := by
          obtain ⟨e, _⟩ := List.getElem?_eq_some_iff.1 hj; simp at e; omega
        rw [List.getElem?_take_of_lt hji] at hj
        exact h2 j hji hj)
    obtain ⟨g1, g2, g3⟩ := cut_hit this
    refine ⟨i, hi, hl', ?_, ?_, g3⟩
    · rw [g1]; apply ba_ext; rw [ba_list, ext_list]; simp
    · rw [g2]; apply ba_ext; rw [ba_list, ext_list, List.take_of_length_le (by rw [List.length_drop, size_list]; omega)]

set_option maxRecDepth 100000 in
set_option maxHeartbeats 1000000 in
theorem lcut_any (c : UInt8) (s : ByteArray) (hs : s.size ≤ 1000000) (w : World) :
    Calls Tryz.prog 57 #[.string s, .string ⟨#[c]⟩] w fun e w' => e = .returned (.tuple #[.string (cutX c s), .string (cutY c s), .bool (cutZ c s)]) ∧ ∃ n, w' = w.drewN n := by
  have hix := fun W => Tryz.stringslite_Index_one s c W
  have h1s : (⟨#[c]⟩ : ByteArray).size = 1 := rfl
  rcases cut_index c s with ⟨h1, h2, h3, h4⟩ | ⟨i, h1, hi, h2, h3, h4⟩
  · rw [h2, h3, h4]
    rw [h1] at hix
    clear h1 h2 h3 h4
    go_enter Tryz.func57, Tryz.ntmps57
    go_wp2_with (go_at_call 74; refine (hix _).mono ?_; rintro e w1 ⟨rfl, hw1⟩; rw [hw1]; clear hw1 w1)
    exact bodyPost_ret (v := .tuple #[.string s, .string ⟨#[]⟩, .bool false]) (by simp [results, Tryz.results57, go_sem]) rfl ⟨rfl, 0, rfl⟩
  · rw [h2, h3, h4]
    rw [h1] at hix
    clear h1 h2 h3 h4
    have c1 : (0 : Int) ≤ (i : Int) := by omega
    have c2 : (i : Int) ≤ (s.size : Int) := by omega
    have c3 : (0 : Int) ≤ (i : Int) + 1 := by omega
    have c4 : (i : Int) + 1 ≤ (s.size : Int) := by omega
    go_enter Tryz.func57, Tryz.ntmps57
    go_wp2_with (go_at_call 74; refine (hix _).mono ?_; rintro e w1 ⟨rfl, hw1⟩; rw [hw1]; clear hw1 w1)
    go_region
    go_wp2_with fail
    exact bodyPost_ret (v := .tuple #[.string (s.extract 0 i), .string (s.extract (i + 1) s.size), .bool true]) (by simp [results, Tryz.results57, go_sem]) rfl ⟨rfl, 1, rfl⟩

set_option maxRecDepth 100000 in
set_option maxHeartbeats 1000000 in
theorem cut_any (c : UInt8) (s : ByteArray) (hs : s.size ≤ 1000000) (w : World) :
    Calls Tryz.prog 42 #[.string s, .string ⟨#[c]⟩] w fun e w' => e = .returned (.tuple #[.string (cutX c s), .string (cutY c s), .bool (cutZ c s)]) ∧ ∃ n, w' = w.drewN n := by
  have hix := fun W => lcut_any c s hs W
  generalize cutX c s = x at *
  generalize cutY c s = y at *
  generalize cutZ c s = z at *
  go_enter Tryz.func42, Tryz.ntmps42
  go_wp2_with (go_at_call 57; refine (hix _).mono ?_; rintro e w1 ⟨rfl, n, rfl⟩)
  exact bodyPost_ret (v := .tuple #[.string x, .string y, .bool z]) (by simp [results, Tryz.results42, go_sem]) rfl ⟨rfl, n, rfl⟩

end Go.Proofs.YtfoeeocejcbmlaaGreatDoor
