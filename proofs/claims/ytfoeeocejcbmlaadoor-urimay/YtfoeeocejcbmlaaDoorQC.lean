import Derived.Test.YtfoeeocejcbmlaaDoorQA
namespace Go.Proofs.YtfoeeocejcbmlaaDoor
open Go.RowKit
set_option linter.unusedVariables false
set_option linter.unusedSimpArgs false

theorem list1 (c : UInt8) : (⟨#[c]⟩ : ByteArray).toList = [c] := by rw [ByteArray.toList_eq]
theorem size1 (c : UInt8) : (⟨#[c]⟩ : ByteArray).size = 1 := rfl

theorem heq1 (s : ByteArray) (c : UInt8) (i : Nat) (h : i < s.size) (hc : s[i]'h = c) : ((s.extract i (i + 1)).toList == [c]) = true := by
  have := toList_eq (show s.extract i (i + 1) = ⟨#[c]⟩ by rw [one_ext s i h, hc])
  rwa [list1] at this
theorem hne1 (s : ByteArray) (c : UInt8) (i : Nat) (h : i < s.size) (hc : ¬ s[i]'h = c) : ((s.extract i (i + 1)).toList == [c]) = false := by
  have := toList_ne (show ¬ s.extract i (i + 1) = ⟨#[c]⟩ by rw [one_ext s i h]; intro e; injection e with e; exact hc (by simpa using e))
  rwa [list1] at this

def RPartsRel (c : UInt8) (w : World) (s : ByteArray) (ov fv iv : Value) (wr : World) : Prop :=
  ∃ (done : List ByteArray) (fr i : Nat), fv = .int .i64 (fr : Int) ∧ iv = .int .i64 (i : Int) ∧ fr ≤ i ∧ i ≤ s.size ∧ done.length ≤ i ∧
    done.map (·.data.toList) ++ brk (fun d => d == c) (s.data.toList.drop i) (s.extract fr i).data.toList = brk (fun d => d == c) s.data.toList [] ∧ OwnS wr w.heap.size ov done ∧ Below w.heap.size w wr

theorem cut_at (c : UInt8) (s : ByteArray) (i : Nat) (h : i < s.size) (hc : s[i]'h = c) (hn : ∀ d ∈ s.data.toList.take i, (d == c) = false) : cutX c s = s.extract 0 i ∧ cutY c s = s.extract (i + 1) s.size ∧ cutZ c s = true := by
  have e : s.data.toList = s.data.toList.take i ++ c :: s.data.toList.drop (i + 1) := by
    conv => lhs; rw [← List.take_append_drop i s.data.toList, tail_at s i h, hc]
  have : cutL c s.data.toList = some (s.data.toList.take i, s.data.toList.drop (i + 1)) := by
    conv => lhs; rw [e]
    exact cutL_app c _ _ hn
  obtain ⟨g1, g2, g3⟩ := cut_hit this
  refine ⟨?_, ?_, g3⟩
  · rw [g1]; apply ba_ext; rw [ba_list, ext_list]; simp
  · rw [g2]; apply ba_ext; rw [ba_list, ext_list, List.take_of_length_le (by rw [List.length_drop, size_list]; omega)]

end Go.Proofs.YtfoeeocejcbmlaaDoor
