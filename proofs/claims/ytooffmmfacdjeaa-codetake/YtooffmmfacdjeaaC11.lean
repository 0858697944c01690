import Derived.Test.YtooffmmfacdjeaaC10
import Derived.Test.YtooffmmfacdjeaaW20
namespace Go.Proofs.Ytooffmmfacdjeaa
open Go.RowKit
set_option linter.unusedVariables false
set_option linter.unusedSimpArgs false

theorem NumsAt.below3 {w w' : World} {B : Nat} {ns : List Int} {LA : Option Addr} (h : NumsAt w B ns LA) (hb : Below B w w') : NumsAt w' B ns LA := by
  rcases h with h | ⟨lb, lo, e, hl, hc⟩
  · exact .inl h
  · exact .inr ⟨lb, lo, e, hl, fun i hi => by rw [hb.cell (by simpa using hl)]; exact hc i hi⟩

theorem ByAt.src {w : World} {B : Nat} {A : Option Addr} {xs : List UInt8} (h : ByAt w B A xs) : SrcAt w 1 A xs.length (Lib.byteCells xs) := by
  rcases h with rfl | ⟨b, o, rfl, hb, hc⟩
  · exact .inl ⟨rfl, rfl⟩
  · refine .inr ⟨_, rfl, by simp [Lib.byteCells], fun j u hj => ?_, fun u hu => ?_⟩
    · have hlt : j < xs.length := by have := (List.getElem?_eq_some_iff.1 hj).1; simpa [Lib.byteCells] using this
      have ea : (⟨b, o, none⟩ : Addr).add j = ⟨b, o + j, none⟩ := by cases j <;> simp [Addr.add]
      rw [ea, hc j hlt]
      simp [Lib.byteCells, List.getElem?_eq_getElem hlt] at hj
      rw [← hj]; simp [List.getD, List.getElem?_eq_getElem hlt]
    · simp [Lib.byteCells] at hu; obtain ⟨z, _, rfl⟩ := hu; rfl

/-- The bytes xs from A on, whatever becomes of what is made later. -/
structure Stays (w : World) (A : Option Addr) (cap : Nat) (xs : List UInt8) : Prop where
  at' : ByAt w w.heap.size A xs
  le : xs.length ≤ cap
  max' : cap ≤ maxLen

theorem Stays.later {w w' : World} {A : Option Addr} {cap : Nat} {xs : List UInt8} (h : Stays w A cap xs) (hb : Below w.heap.size w w') : Stays w' A cap xs := ⟨h.at'.keep hb.size (fun b o hlt => hb.cell hlt), h.le, h.max'⟩
theorem Stays.src {w : World} {A : Option Addr} {cap : Nat} {xs : List UInt8} (h : Stays w A cap xs) : SrcAt w 1 A xs.length (Lib.byteCells xs) := h.at'.src
theorem OwnB.stays {w : World} {B : Nat} {u : Value} {xs : List UInt8} (h : OwnB w B u xs) : ∃ A cap, u = .slice A xs.length cap ∧ Stays w A cap xs := by
  obtain ⟨A, cap, h1, h2, h3, h4, _⟩ := h.at
  exact ⟨A, cap, h1, h2, h3, h4⟩

/-- What a row of one's own from N on has grown into leaves all below N. -/
theorem grown_below {w w' : World} {N : Nat} {v : Value} (h : w.grownBy w' v.ownBlock) (hv : ∀ q, v.ownBlock = some q → N ≤ q) (hN : N ≤ w.heap.size) : Below N w w' :=
  ⟨h.os, h.tape, h.output, h.size, fun i hi => h.block i (by omega) (fun e => by have := hv i e.symm; omega)⟩

end Go.Proofs.Ytooffmmfacdjeaa
