import Derived.Test.YtffhbgakoibgnaaBY
import Derived.Test.YtffhbgakoibgnaaBA
import Derived.Laws.IdiomStrings
namespace Go.Proofs.Ytffhbgakoibgnaa
open Go.RowKit
set_option linter.unusedVariables false
set_option linter.unusedSimpArgs false

/-- '[]byte(s)': a row of its own. -/
theorem bytes_row (s : ByteArray) (w : World) (hs : s.size ≤ maxLen) : ∃ C W, s.size ≤ C ∧ C ≤ maxLen ∧ (convert 9 22 (.string s)).run Try.prog w = .ok (.slice (some ⟨w.heap.size, 0, none⟩) s.size C) W ∧
    ByAt W W.heap.size (some ⟨w.heap.size, 0, none⟩) s.data.toList ∧ (∀ j, j < s.size → W.frozen? ⟨w.heap.size, j, none⟩ = false) ∧ Below w.heap.size w W ∧ W.heap.size = w.heap.size + 1 := by
  have hc := run_bytes_of_string (P := Try.prog) w 9 22 5 s Try.underlying9 Try.underlying22 Try.underlying5
  have hC := grownCap_ge w s.size 0 5
  have hM : grownCap w s.size 0 5 ≤ maxLen := grownCap_le_maxLen w s.size 0 5 hs
  generalize grownCap w s.size 0 5 = C at hc hC hM
  refine ⟨C, _, hC, hM, hc, .inr ⟨w.heap.size, 0, rfl, by simp, fun j hj => ?_⟩, fun j hj => ?_, Below.alloc (Below.drew (Below.refl _ _)) (Nat.le_refl _) _, by simp⟩
  · rw [size_list] at hj
    show (w.drew.alloc _).cell? ⟨w.drew.heap.size, 0 + j, none⟩ = _
    rw [Nat.zero_add, World.cell?_alloc_mark, bytesRow_at s C j hj]
    rcases s with ⟨a⟩
    simp [List.getD, ByteArray.size] at hj ⊢
    simp [List.getElem?_eq_getElem, hj]
  · show (w.drew.alloc _).frozen? ⟨w.drew.heap.size, j, none⟩ = _
    rw [World.frozen?_alloc_mark]
    have : (bytesRow s C).size = C := by
      unfold bytesRow
      rw [Array.size_append, Array.size_map, Array.size_replicate]
      show s.size + _ = _
      omega
    rw [this]; simp; omega

end Go.Proofs.Ytffhbgakoibgnaa
