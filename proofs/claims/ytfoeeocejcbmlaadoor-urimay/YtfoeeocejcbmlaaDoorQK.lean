import Derived.Test.YtfoeeocejcbmlaaDoorT0
namespace Go.Proofs.YtfoeeocejcbmlaaDoor
open Go.RowKit
set_option linter.unusedVariables false
set_option linter.unusedSimpArgs false

/-- The texts that a tape picks of. -/
def textStrs : List ByteArray := [⟨#[97]⟩, ⟨#[98]⟩, ⟨#[61]⟩, ⟨#[61, 49]⟩, ⟨#[38]⟩, ⟨#[38, 97, 61]⟩, ⟨#[99, 61, 50]⟩, ⟨#[37, 50, 48]⟩, ⟨#[43]⟩, ⟨#[37, 50, 70]⟩, ⟨#[37, 50, 102]⟩, ⟨#[126]⟩, ⟨#[38, 100, 61, 52]⟩, ⟨#[38, 38]⟩, ⟨#[101]⟩, ⟨#[37]⟩]

/-- What Some makes of a tape at place k: so many at most, behind acc. -/
def textF (ns : List Int) : Nat → Nat → ByteArray → ByteArray
  | 0, _, acc => acc
  | m + 1, k, acc => if k < ns.length then textF ns m (nextK ns k 16) (acc ++ textStrs.getD (nextV ns k 16).toNat ByteArray.empty) else acc

theorem textStrs_small (i : Nat) : (textStrs.getD i ByteArray.empty).size ≤ 4 := by
  rw [List.getD_eq_getElem?_getD]
  cases h : textStrs[i]? with
  | none => decide
  | some x =>
    have : ∀ x ∈ textStrs, x.size ≤ 4 := by decide +kernel
    exact this x (List.mem_of_getElem? h)

theorem textF_small (ns : List Int) : ∀ m k acc, (textF ns m k acc).size ≤ acc.size + 4 * m
  | 0, _, _ => Nat.le_refl _
  | m + 1, k, acc => by
    rw [textF]; split
    · have := textF_small ns m (nextK ns k 16) (acc ++ textStrs.getD (nextV ns k 16).toNat ByteArray.empty)
      have h2 := textStrs_small (nextV ns k 16).toNat
      simp only [ByteArray.size_append] at this
      omega
    · omega

theorem textStrs_at (i : Nat) (hi : i < 16) : [Value.string ⟨#[97]⟩, Value.string ⟨#[98]⟩, Value.string ⟨#[61]⟩, Value.string ⟨#[61, 49]⟩, Value.string ⟨#[38]⟩, Value.string ⟨#[38, 97, 61]⟩, Value.string ⟨#[99, 61, 50]⟩, Value.string ⟨#[37, 50, 48]⟩, Value.string ⟨#[43]⟩, Value.string ⟨#[37, 50, 70]⟩, Value.string ⟨#[37, 50, 102]⟩, Value.string ⟨#[126]⟩, Value.string ⟨#[38, 100, 61, 52]⟩, Value.string ⟨#[38, 38]⟩, Value.string ⟨#[101]⟩, Value.string ⟨#[37]⟩][i]? = some (Value.string (textStrs[i]?.getD ByteArray.empty)) := by
  rcases (show i = 0 ∨ i = 1 ∨ i = 2 ∨ i = 3 ∨ i = 4 ∨ i = 5 ∨ i = 6 ∨ i = 7 ∨ i = 8 ∨ i = 9 ∨ i = 10 ∨ i = 11 ∨ i = 12 ∨ i = 13 ∨ i = 14 ∨ i = 15 by omega) with rfl | rfl | rfl | rfl | rfl | rfl | rfl | rfl | rfl | rfl | rfl | rfl | rfl | rfl | rfl | rfl <;> rfl

theorem size_alloc10 (w : World) (o : Obj) : (w.alloc o).heap.size = w.heap.size + 1 := by simp

end Go.Proofs.YtfoeeocejcbmlaaDoor
