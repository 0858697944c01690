import Derived.Test.YtooffmmfacdjeaaC8
import Derived.Test.YtooffmmfacdjeaaC2
import Derived.Test.YtooffmmfacdjeaaW6
import Derived.Test.YtooffmmfacdjeaaW25
import Derived.Deep.RegionHeld3
namespace Go.Proofs.Ytooffmmfacdjeaa
open Go.RowKit
set_option linter.unusedVariables false
set_option linter.unusedSimpArgs false

/-- A row of one's own, read. -/
theorem OwnB.at {w : World} {B : Nat} {v : Value} {xs : List UInt8} (h : OwnB w B v xs) : ∃ A cap, v = .slice A xs.length cap ∧ ByAt w w.heap.size A xs ∧ xs.length ≤ cap ∧ cap ≤ maxLen ∧ ∀ q, v.ownBlock = some q → ∃ o, A = some ⟨q, o, none⟩ := by
  rcases h.2 with ⟨h1, h2⟩ | ⟨g, cap, cur, h1, h2, h3, h4, h5, _⟩
  · exact ⟨none, 0, by rw [h1, h2], .inl (List.eq_nil_of_length_eq_zero h2), by omega, by unfold maxLen; omega, fun q hq => by rw [h1] at hq; simp [Value.ownBlock] at hq⟩
  · refine ⟨_, cap, h1, .inr ⟨g, 0, rfl, (h.lt g (by rw [h1]; rfl)).2, fun i hi => ?_⟩, h4, h5, fun q hq => by rw [h1] at hq; simp [Value.ownBlock] at hq; exact ⟨0, by rw [hq]⟩⟩
    have := World.ownsRow.cellAt (h1 ▸ h) i (by simpa [Lib.byteCells] using hi)
    rw [Nat.zero_add, this]
    simp [Lib.byteCells, List.getD, List.getElem?_eq_getElem hi]

section
variable {P : Program} (w : World)
/-- A conversion to a string within a region that draws. -/
theorem step_conv {ops : Array Oper} {o : Oper} {a : Act} {K : Act → World → Prop} {Q : Exit → Act → World → Prop} {E : Prop} (hw : Region.wanted o (yielded ops a.tmps) = true) (x : Operand)
    (ho : o.op = .convert 32 9 x) (A : Option Addr) (n cap B : Nat) (zs : List UInt8) (st : ByteArray) (hx : a.eval x = .slice A n cap) (hn : zs.length = n) (h : ByAt w B A zs) (hst : (⟨zs.toArray⟩ : ByteArray) = st)
    (hk : K (a.put o.dst (.string st)) w) : if Region.wanted o (yielded ops a.tmps) = true then Oper.wp Try.prog o a w K Q else E := by
  rw [if_pos hw]
  subst hn hst
  unfold Oper.wp execOp
  simp only [ho, Sem.run_bind, hx, conv_bytes w B A zs cap h]
  exact hk
end

end Go.Proofs.Ytooffmmfacdjeaa
