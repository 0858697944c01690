import Derived.Test.YtfoeeocejcbmlaaGreatDoorT3
namespace Go.Proofs.YtfoeeocejcbmlaaGreatDoor
open Go.RowKit
set_option linter.unusedVariables false
set_option linter.unusedSimpArgs false

/-- The texts that a tape picks of. -/
def someStrs : List ByteArray := [⟨#[97]⟩, ⟨#[90]⟩, ⟨#[48]⟩, ⟨#[45]⟩, ⟨#[126]⟩, ⟨#[32]⟩, ⟨#[195, 169]⟩, ⟨#[226, 130, 172]⟩, ⟨#[240, 159, 152, 128]⟩, ⟨#[239, 191, 189]⟩, ⟨#[255]⟩, ⟨#[195]⟩, ⟨#[226, 130]⟩, ⟨#[237, 160, 128]⟩, ⟨#[244, 144, 128, 128]⟩, ⟨#[192, 128]⟩, ⟨#[127]⟩, ⟨#[194, 133]⟩, ⟨#[194, 160]⟩, ⟨#[31]⟩, ⟨#[34]⟩, ⟨#[37]⟩, ⟨#[61]⟩, ⟨#[38]⟩, ⟨#[96]⟩, ⟨#[59]⟩, ⟨#[194, 161]⟩]

/-- What Some makes of a tape at place k: so many at most, behind acc. -/
def someF (ns : List Int) : Nat → Nat → ByteArray → ByteArray
  | 0, _, acc => acc
  | m + 1, k, acc => if k < ns.length then someF ns m (nextK ns k 27) (acc ++ someStrs.getD (nextV ns k 27).toNat ByteArray.empty) else acc

theorem someStrs_small (i : Nat) : (someStrs.getD i ByteArray.empty).size ≤ 4 := by
  rw [List.getD_eq_getElem?_getD]
  cases h : someStrs[i]? with
  | none => decide
  | some x =>
    have : ∀ x ∈ someStrs, x.size ≤ 4 := by decide +kernel
    exact this x (List.mem_of_getElem? h)

theorem someF_small (ns : List Int) : ∀ m k acc, (someF ns m k acc).size ≤ acc.size + 4 * m
  | 0, _, _ => Nat.le_refl _
  | m + 1, k, acc => by
    rw [someF]; split
    · have := someF_small ns m (nextK ns k 27) (acc ++ someStrs.getD (nextV ns k 27).toNat ByteArray.empty)
      have h2 := someStrs_small (nextV ns k 27).toNat
      simp only [ByteArray.size_append] at this
      omega
    · omega

theorem someStrs_at (i : Nat) (hi : i < 27) : [Value.string ⟨#[97]⟩, Value.string ⟨#[90]⟩, Value.string ⟨#[48]⟩, Value.string ⟨#[45]⟩, Value.string ⟨#[126]⟩, Value.string ⟨#[32]⟩, Value.string ⟨#[195, 169]⟩, Value.string ⟨#[226, 130, 172]⟩, Value.string ⟨#[240, 159, 152, 128]⟩, Value.string ⟨#[239, 191, 189]⟩, Value.string ⟨#[255]⟩, Value.string ⟨#[195]⟩, Value.string ⟨#[226, 130]⟩, Value.string ⟨#[237, 160, 128]⟩, Value.string ⟨#[244, 144, 128, 128]⟩, Value.string ⟨#[192, 128]⟩, Value.string ⟨#[127]⟩, Value.string ⟨#[194, 133]⟩, Value.string ⟨#[194, 160]⟩, Value.string ⟨#[31]⟩, Value.string ⟨#[34]⟩, Value.string ⟨#[37]⟩, Value.string ⟨#[61]⟩, Value.string ⟨#[38]⟩, Value.string ⟨#[96]⟩, Value.string ⟨#[59]⟩, Value.string ⟨#[194, 161]⟩][i]? = some (Value.string (someStrs[i]?.getD ByteArray.empty)) := by
  rcases (show i = 0 ∨ i = 1 ∨ i = 2 ∨ i = 3 ∨ i = 4 ∨ i = 5 ∨ i = 6 ∨ i = 7 ∨ i = 8 ∨ i = 9 ∨ i = 10 ∨ i = 11 ∨ i = 12 ∨ i = 13 ∨ i = 14 ∨ i = 15 ∨ i = 16 ∨ i = 17 ∨ i = 18 ∨ i = 19 ∨ i = 20 ∨ i = 21 ∨ i = 22 ∨ i = 23 ∨ i = 24 ∨ i = 25 ∨ i = 26 by omega) with rfl | rfl | rfl | rfl | rfl | rfl | rfl | rfl | rfl | rfl | rfl | rfl | rfl | rfl | rfl | rfl | rfl | rfl | rfl | rfl | rfl | rfl | rfl | rfl | rfl | rfl | rfl <;> rfl

theorem size_alloc6 (w : World) (o : Obj) : (w.alloc o).heap.size = w.heap.size + 1 := by simp

end Go.Proofs.YtfoeeocejcbmlaaGreatDoor
