import Derived.Test.YtgmmbfnmojjbkaaGreatDoorRows
import Derived.WalkKit
import Derived.Lib.OthersKept
namespace Go.Proofs.YtgmmbfnmojjbkaaGreatDoor
open Go.RowKit
set_option linter.unusedVariables false
set_option linter.unusedSimpArgs false

/-- The bytes xs lie from A on, in a block below B. -/
def ByAt (w : World) (B : Nat) (A : Option Addr) (xs : List UInt8) : Prop :=
  xs = [] ∨ ∃ b o, A = some ⟨b, o, none⟩ ∧ b < B ∧ ∀ i, i < xs.length → w.cell? ⟨b, o + i, none⟩ = some (.int .u8 ((xs.getD i 0).toNat : Int))

theorem ByAt.keep {w w' : World} {B B' : Nat} {A : Option Addr} {xs : List UInt8} (h : ByAt w B A xs) (hB : B ≤ B') (hk : ∀ b o, b < B → w'.cell? ⟨b, o, none⟩ = w.cell? ⟨b, o, none⟩) : ByAt w' B' A xs := by
  rcases h with h | ⟨b, o, e, hb, hc⟩
  · exact .inl h
  · exact .inr ⟨b, o, e, by omega, fun i hi => by rw [hk _ _ hb]; exact hc i hi⟩
theorem ByAt.below {w w' : World} {B : Nat} {A : Option Addr} {xs : List UInt8} (h : ByAt w B A xs) (hb : Below B w w') : ByAt w' B A xs := h.keep (Nat.le_refl _) (fun _ _ h => hb.cell h)

theorem ByAt.take {w : World} {B : Nat} {A : Option Addr} {xs : List UInt8} (h : ByAt w B A xs) (c : Nat) : ByAt w B A (xs.take c) := by
  rcases h with h | ⟨b, o, e, hb, hc⟩
  · exact .inl (by rw [h, List.take_nil])
  · refine .inr ⟨b, o, e, hb, fun i hi => ?_⟩
    rw [List.length_take] at hi
    rw [hc i (by omega)]
    simp [List.getD, List.getElem?_take_of_lt (show i < c by omega)]

theorem ByAt.drop {w : World} {B : Nat} {A : Option Addr} {xs : List UInt8} (h : ByAt w B A xs) (c cap : Nat) (hc : c ≤ xs.length) (hl : xs.length ≤ cap) : ByAt w B (if cap = c then A else A.map (·.add c)) (xs.drop c) := by
  rcases h with h | ⟨b, o, e, hb, hx⟩
  · exact .inl (by rw [h, List.drop_nil])
  · by_cases h1 : cap = c
    · exact .inl (List.drop_of_length_le (by omega))
    · rw [if_neg h1, e]
      refine .inr ⟨b, o + c, ?_, hb, fun i hi => ?_⟩
      · cases c <;> simp [Addr.add]
      · rw [List.length_drop] at hi
        rw [Nat.add_assoc, hx (c + i) (by omega)]
        simp [List.getD]

theorem conv_bytes (w : World) (B : Nat) (A : Option Addr) (zs : List UInt8) (cap : Nat) (h : ByAt w B A zs) : (convert 43 9 (.slice A zs.length cap)).run Tryz.prog w = .ok (.string ⟨zs.toArray⟩) w := by
  rcases h with rfl | ⟨b, o, rfl, hb, hc⟩
  · cases A with
    | none => rw [show ([] : List UInt8).length = 0 from rfl, run_convert_bytes_string w 43 9 5 none 0 cap Tryz.underlying43 Tryz.underlying5 Tryz.underlying9]; rfl
    | some a => exact run_convert_bytes_back (P := Tryz.prog) w 43 9 5 a cap [] Tryz.underlying43 Tryz.underlying5 Tryz.underlying9 (fun j hj => by simp at hj)
  · exact run_convert_bytes_back (P := Tryz.prog) w 43 9 5 ⟨b, o, none⟩ cap zs Tryz.underlying43 Tryz.underlying5 Tryz.underlying9 (fun j hj => by
      have ea : (⟨b, o, none⟩ : Addr).add j = ⟨b, o + j, none⟩ := by cases j <;> simp [Addr.add]
      rw [ea, hc j hj]; simp [List.getD, List.getElem?_eq_getElem hj])

end Go.Proofs.YtgmmbfnmojjbkaaGreatDoor
