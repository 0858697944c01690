import Derived.Test.YtfoeeocejcbmlaaGreatDoorT2
import Derived.Laws.IdiomStrings
namespace Go.Proofs.YtfoeeocejcbmlaaGreatDoor
open Go.RowKit
set_option linter.unusedVariables false
set_option linter.unusedSimpArgs false

/-- The byte at a place, as a number. -/
def bN (s : ByteArray) (i : Nat) : Nat := (s.get! i).toNat

theorem bN_at (s : ByteArray) (i : Nat) (h : i < s.size) : (s[i]'h).toNat = bN s i := by
  unfold bN; rw [← get_at s i h]; rfl
theorem bN_lt (s : ByteArray) (i : Nat) : bN s i < 256 := (s.get! i).toNat_lt

/-- The six bits of a byte that goes on, or -1. -/
def moreAt (s : ByteArray) (pos k : Nat) : Int := if pos + k < s.size ∧ 128 ≤ bN s (pos + k) ∧ bN s (pos + k) ≤ 191 then (bN s (pos + k) : Int) - 128 else -1

theorem size_from (s : ByteArray) (pos : Nat) : (s.extract pos s.size).size = s.size - pos := by simp
theorem bN_from (s : ByteArray) (pos k : Nat) (h : pos + k < s.size) : bN (s.extract pos s.size) k = bN s (pos + k) := by
  rw [← bN_at _ _ (by simp; omega), ← bN_at _ _ h]
  simp [ByteArray.getElem_extract]
theorem moreAt_from (s : ByteArray) (pos k : Nat) : moreAt (s.extract pos s.size) 0 k = moreAt s pos k := by
  unfold moreAt
  by_cases h : pos + k < s.size
  · rw [Nat.zero_add, bN_from s pos k h]
    have : k < (s.extract pos s.size).size := by simp; omega
    simp only [this, h]
  · have : ¬ k < (s.extract pos s.size).size := by simp; omega
    simp only [Nat.zero_add, this, h, false_and, if_false]

/-- What First says: of the first byte, and the bits of the three behind it. -/
def FirstOk (c a b d r n : Int) : Prop :=
  (c < 128 ∧ r = c ∧ n = 1) ∨ (194 ≤ c ∧ c < 224 ∧ 0 ≤ a ∧ r = (c - 192) * 64 + a ∧ n = 2) ∨
  (224 ≤ c ∧ c < 240 ∧ 0 ≤ a ∧ 0 ≤ b ∧ r = (c - 224) * 4096 + a * 64 + b ∧ 2048 ≤ r ∧ (r < 55296 ∨ 57343 < r) ∧ n = 3) ∨
  (240 ≤ c ∧ c < 245 ∧ 0 ≤ a ∧ 0 ≤ b ∧ 0 ≤ d ∧ r = (c - 240) * 262144 + a * 4096 + b * 64 + d ∧ 65536 ≤ r ∧ r ≤ 1114111 ∧ n = 4) ∨
  (128 ≤ c ∧ ¬ (194 ≤ c ∧ c < 224 ∧ 0 ≤ a) ∧
    ¬ (224 ≤ c ∧ c < 240 ∧ 0 ≤ a ∧ 0 ≤ b ∧ 2048 ≤ (c - 224) * 4096 + a * 64 + b ∧ ((c - 224) * 4096 + a * 64 + b < 55296 ∨ 57343 < (c - 224) * 4096 + a * 64 + b)) ∧
    ¬ (240 ≤ c ∧ c < 245 ∧ 0 ≤ a ∧ 0 ≤ b ∧ 0 ≤ d ∧ 65536 ≤ (c - 240) * 262144 + a * 4096 + b * 64 + d ∧ (c - 240) * 262144 + a * 4096 + b * 64 + d ≤ 1114111) ∧ r = 65533 ∧ n = 1)

theorem ret_two {a b c d : Int} (h : a = b) (k : c = d) : Ending.returned (.tuple #[.int .i64 a, .int .i64 c]) = .returned (.tuple #[.int .i64 b, .int .i64 d]) := by rw [h, k]

theorem moreAt_bounds (s : ByteArray) (pos k : Nat) : -1 ≤ moreAt s pos k ∧ moreAt s pos k ≤ 63 := by
  unfold moreAt; split <;> omega

theorem bytes_of (s : ByteArray) (w : World) : ∃ C W, s.size ≤ C ∧ (convert 9 82 (.string s)).run Tryz.prog w = .ok (.slice (some ⟨w.heap.size, 0, none⟩) s.size C) W ∧ Below w.heap.size w W ∧ W.heap.size = w.heap.size + 1 ∧
    ∀ j, j < s.size → W.cell? ⟨w.heap.size, j, none⟩ = some (.int .u8 (bN s j : Int)) ∧ W.frozen? ⟨w.heap.size, j, none⟩ = false := by
  have hc := run_bytes_of_string (P := Tryz.prog) w 9 82 5 s Tryz.underlying9 Tryz.underlying82 Tryz.underlying5
  have hC := grownCap_ge w s.size 0 5
  generalize grownCap w s.size 0 5 = C at hc hC
  refine ⟨C, _, hC, hc, ?_, by simp, fun j hj => ⟨?_, ?_⟩⟩
  · exact Below.alloc (Below.drew (Below.refl _ _)) (Nat.le_refl _) _
  · show (w.drew.alloc _).cell? ⟨w.drew.heap.size, j, none⟩ = _
    rw [World.cell?_alloc_mark, bytesRow_at s C j hj, ← bN_at s j hj]
    rfl
  · show (w.drew.alloc _).frozen? ⟨w.drew.heap.size, j, none⟩ = _
    rw [World.frozen?_alloc_mark]
    have : (bytesRow s C).size = C := by
      unfold bytesRow
      rw [Array.size_append, Array.size_map, Array.size_replicate]
      show s.size + _ = _
      omega
    rw [this]; simp; omega

end Go.Proofs.YtfoeeocejcbmlaaGreatDoor
