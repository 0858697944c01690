import Derived.Test.YtbjneijgbikcpaaDoorWZ
import Derived.Test.YtbjneijgbikcpaaDoorKQ
namespace Go.Proofs.YtbjneijgbikcpaaDoor
open Go.RowKit
set_option linter.unusedVariables false
set_option linter.unusedSimpArgs false

/-- Whether a term is among some. -/
def amongB (ks : List Kd) (a : Nd) (l : Fo) : Bool := ks.any fun k => ordT k.a k.l a l == 0

theorem among_true {ks : List Kd} {a : Nd} {l : Fo} {n : Nat} (hn : n < ks.length) (h : ordT (ks.getD n kd0).a (ks.getD n kd0).l a l = 0) : amongB ks a l = true := by
  unfold amongB
  rw [List.any_eq_true]
  exact ⟨_, getD_mem hn, beq_iff_eq.2 h⟩
theorem among_false {ks : List Kd} {a : Nd} {l : Fo} (h : ∀ j, j < ks.length → ordT (ks.getD j kd0).a (ks.getD j kd0).l a l ≠ 0) : amongB ks a l = false := by
  unfold amongB
  rw [List.any_eq_false]
  intro k hk
  obtain ⟨j, hj, rfl⟩ := List.getElem_of_mem hk
  have := h j hj
  rw [show ks.getD j kd0 = ks[j] from by simp [List.getD, List.getElem?_eq_getElem hj]] at this
  simpa using this
theorem among_iff (ks : List Kd) (a : Nd) (l : Fo) : amongB ks a l = true ↔ InL (tms ks) (nm (a, l)) := by
  unfold amongB
  rw [List.any_eq_true]
  constructor
  · rintro ⟨k, hk, e⟩
    exact ⟨(k.a, k.l), List.mem_map_of_mem hk, nm_iff.2 (by simpa using e)⟩
  · rintro ⟨x, hx, e⟩
    rw [tms, List.mem_map] at hx
    obtain ⟨k, hk, rfl⟩ := hx
    exact ⟨k, hk, by simpa using nm_iff.1 e⟩

def AmRel (w : World) (ks : List Kd) (a : Nd) (l : Fo) (iv : Value) (wr : World) : Prop :=
  ∃ n : Nat, iv = .int .i64 (n : Int) ∧ n ≤ ks.length ∧ (∀ j, j < n → ordT (ks.getD j kd0).a (ks.getD j kd0).l a l ≠ 0) ∧ Below w.heap.size w wr

end Go.Proofs.YtbjneijgbikcpaaDoor
