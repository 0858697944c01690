import Derived.Test.YtgmmbfnmojjbkaaGreatDoorW9
namespace Go.Proofs.YtgmmbfnmojjbkaaGreatDoor
open Go.RowKit
set_option linter.unusedVariables false
set_option linter.unusedSimpArgs false

theorem mayF_ar : ∀ (f : Fo) (deep c : Int), (mayF f deep c).1 = true → ArF f
  | .nil, _, _, _ => trivial
  | .node b o a l r, deep, c, h => by
    rw [mayF] at h
    by_cases hm : mayB a (flen l) deep c = true
    · rw [if_pos hm] at h
      by_cases hl : (mayF l (deep + 1) (c + 1)).1 = true
      · rw [if_pos hl] at h
        refine ⟨?_, mayF_ar l _ _ hl, mayF_ar r _ _ h⟩
        simp only [mayB, formedB, Bool.and_eq_true, decide_eq_true_eq] at hm
        exact hm.2.2.1
      · rw [if_neg hl] at h; simp at h
    · rw [if_neg hm] at h; simp at h

theorem may_ar (a : Nd) (l : Fo) (h : may a l = true) : (flen l : Int) = kidsOf a.kind ∧ ArF l := by
  unfold may at h
  rw [mayT_node a l 1 0 0 0] at h
  have := mayF_ar _ _ _ h
  exact ⟨this.1, this.2.1⟩

/-- Two terms with their boxes: what Same, Less and Has begin with. -/
theorem RepF.alloc2 {w : World} {B : Nat} {f : Fo} {b o : Nat} (hr : RepF w B f b o) (hB : B ≤ w.heap.size) (x y : Obj) : RepF ((w.alloc x).alloc y) ((w.alloc x).alloc y).heap.size f b o :=
  RepF.keep (w := w) (by simp; omega) (fun b' o' hb' => by rw [World.cell?_alloc_past _ _ _ (by simp; omega), World.cell?_alloc_past _ _ _ (by omega)]) hr

end Go.Proofs.YtgmmbfnmojjbkaaGreatDoor
