import Derived.Test.YtffhbgakoibgnaaD0
import Derived.Test.YtffhbgakoibgnaaBY
namespace Go.Proofs.Ytffhbgakoibgnaa
open Go.ChangeShapes Go.WideShapes Go.ChangeAt Go.RowKit Go.Joins
set_option maxRecDepth 100000
set_option linter.unusedVariables false
set_option linter.unusedSimpArgs false

theorem u8_mod8 (n : Nat) : (UInt8.ofNat n).toNat = n % 256 := by simp

theorem Try.cellsByte : Try.prog.cellsOf 5 = 1 := by kernel_rfl

variable {H : Type} {enc : TypeId × Value → H} {W : World} {spare : Nat → Bool} {held : Bool}

theorem bytes_of_trod {A : Option Addr} {len cap : Nat} {d : DataW H} {p : List MemPlace} (h : DataW.Trod enc Try.prog W 0 spare held 22 (.slice A len cap) d p) : ∃ xs : List UInt8, ByAt W W.heap.size A xs ∧ xs.length = len ∧ len ≤ cap ∧ cap ≤ maxLen := by
  obtain ⟨fuel, hf⟩ := h
  rcases open_ints Try.underlying22 Try.underlying5 Try.cellsByte hf with ⟨hcs, _⟩ | ⟨x, l, c, zs, hcs, _, hl, hm, hz, _, hcell, hwz⟩
  · simp [Value.cells] at hcs
    obtain ⟨rfl, rfl, rfl⟩ := hcs
    exact ⟨[], .inl rfl, rfl, Nat.le_refl _, by unfold maxLen; omega⟩
  · simp [Value.cells] at hcs
    obtain ⟨rfl, rfl, rfl⟩ := hcs
    have hlz : len ≤ zs.length := by rw [hz]; split <;> omega
    have hlen : ((zs.take len).map (fun z : Int => UInt8.ofNat z.toNat)).length = len := by rw [List.length_map, List.length_take, Nat.min_eq_left hlz]
    refine ⟨(zs.take len).map (fun z : Int => UInt8.ofNat z.toNat), ?_, hlen, hl, hm⟩
    rcases Nat.eq_zero_or_pos len with h0 | h0
    · left; rw [h0]; rfl
    · right
      have c0 := hcell 0 (by omega)
      simp [Addr.add] at c0
      have hs := spot_none c0
      refine ⟨x.block, x.off, by cases x; simp at hs; subst hs; rfl, cell_lt c0, fun i hi => ?_⟩
      rw [hlen] at hi
      have ci := hcell i (by omega)
      have ea : x.add i = ⟨x.block, x.off + i, none⟩ := by unfold Addr.add; split <;> (cases x; simp_all)
      rw [ea] at ci
      have hw := hwz (zs[i]'(by omega)) (List.getElem_mem _)
      simp [Lit.wf, IntKind.min, IntKind.max, IntKind.bits, IntKind.signed] at hw
      rw [ci]
      simp only [List.getD, List.getElem?_map, List.getElem?_take_of_lt hi, List.getElem?_eq_getElem (show i < zs.length by omega), Option.map_some, Option.getD_some, u8_mod8]
      congr 2; omega

end Go.Proofs.Ytffhbgakoibgnaa
