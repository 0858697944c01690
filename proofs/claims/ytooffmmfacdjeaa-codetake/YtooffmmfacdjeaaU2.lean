import Derived.Test.YtooffmmfacdjeaaU1
namespace Go.Proofs.Ytooffmmfacdjeaa
open Go.RowKit
set_option linter.unusedVariables false
set_option linter.unusedSimpArgs false

/-- A slice stored into a cell. -/
theorem step_store {P : Program} {ops : Array Oper} {o : Oper} {a : Act} {w : World} {K : Act → World → Prop} {Q : Exit → Act → World → Prop} {E : Prop} (hgd : o.guard = none) (t : TypeId) (p x : Operand) (ho : o.op = .store t p x)
    (ad : Addr) (A : Option Addr) (n c : Nat) (hp : a.eval p = .pointer (some ad)) (hx : a.eval x = .slice A n c) (u : Value) (hc : w.cell? ad = some u) (hf : w.frozen? ad = false) (hs : ∀ w, (Go.sizeOf t).run P w = .ok 1 w)
    (h : K (a.put o.dst undef) (w.setCell ad (.slice A n c))) : if Region.wanted o (yielded ops a.tmps) = true then Oper.wp P o a w K Q else E := by
  have hw : Region.wanted o (yielded ops a.tmps) = true := by simp [Region.wanted, hgd]
  rw [if_pos hw]
  unfold Oper.wp execOp
  simp only [ho, hp, hx]
  simp [go_sem, hs, hc, hf, Oper.upon]
  exact h

end Go.Proofs.Ytooffmmfacdjeaa
