import Derived.Test.YtldpnhlifgkmiaaDoorV12
import Derived.Laws.OwnMore
namespace Go.Proofs.YtldpnhlifgkmiaaDoor
open Go.RowKit
set_option linter.unusedVariables false
set_option linter.unusedSimpArgs false

theorem Tryd.infoMove : (Tryd.prog.info? 47).map (fun i => (i.zero, i.size, i.bytes)) = some (some (.agg #[.int .i64 0, .int .i64 0, .int .i64 0, .string ⟨#[]⟩]), 4, 40) := by kernel_rfl

def Mv.cells (m : Mv) : List Value := [.int .i64 m.kind, .int .i64 m.a, .int .i64 m.b, .string m.s]
def rowM : List Mv → List Value
  | [] => []
  | m :: r => m.cells ++ rowM r
theorem rowM_length : ∀ ms : List Mv, (rowM ms).length = 4 * ms.length
  | [] => rfl
  | m :: r => by simp [rowM, rowM_length r, Mv.cells]; omega
theorem rowM_append : ∀ (a b : List Mv), rowM (a ++ b) = rowM a ++ rowM b
  | [], _ => rfl
  | m :: r, b => by simp [rowM, rowM_append r b]
theorem rowM_get : ∀ (ms : List Mv) (i : Nat), i < ms.length → ∀ t, t < 4 → (rowM ms)[i * 4 + t]? = (ms.getD i mv0).cells[t]?
  | [], i, h, _, _ => by simp at h
  | m :: r, 0, _, t, ht => by
    rw [rowM, List.getElem?_append_left (by simp [Mv.cells]; omega)]
    simp [List.getD]
  | m :: r, i + 1, h, t, ht => by
    rw [rowM, List.getElem?_append_right (by simp [Mv.cells]; omega)]
    have := rowM_get r i (by simpa using h) t ht
    simp only [Mv.cells, List.length_cons, List.length_nil] at this ⊢
    rw [show (i + 1) * 4 + t - (0 + 1 + 1 + 1 + 1) = i * 4 + t from by omega, this]
    simp [List.getD]

theorem mvs_own {w : World} {base g cap : Nat} {ms : List Mv} {xs : List Value} (h : w.ownsRow base 47 4 (.slice (some ⟨g, 0, none⟩) ms.length cap) ms.length xs) (hx : xs = rowM ms) : MvsAt w w.heap.size ms (some ⟨g, 0, none⟩) := by
  subst hx
  refine .inr ⟨g, 0, rfl, (h.lt g rfl).2, fun i hi => ?_⟩
  have hc : ∀ t, t < 4 → w.cell? ⟨g, 0 + i * 4 + t, none⟩ = (ms.getD i mv0).cells[t]? := fun t ht => by
    rw [Nat.zero_add, h.cellAt (i * 4 + t) (by omega), rowM_get ms i hi t ht]
  exact ⟨hc 0 (by omega), hc 1 (by omega), hc 2 (by omega), hc 3 (by omega)⟩

/-- One more move stored over what was there. -/
theorem set_at4 (xs ys : List Value) (z0 z1 z2 z3 u0 u1 u2 u3 : Value) (n : Nat) (hn : xs.length = n) :
    ((((xs ++ z0 :: z1 :: z2 :: z3 :: ys).set n u0).set (n + 1) u1).set (n + 2) u2).set (n + 3) u3 = xs ++ u0 :: u1 :: u2 :: u3 :: ys := by
  subst hn
  rw [List.set_append_right _ _ (by omega), List.set_append_right _ _ (by simp), List.set_append_right _ _ (by simp), List.set_append_right _ _ (by simp)]
  simp [Nat.add_sub_cancel_left]

def FillRel (w : World) (g k : Nat) (iv : Value) (wr : World) : Prop :=
  ∃ (n : Nat) (ys : List Value), iv = .int .i64 (n : Int) ∧ n ≤ k ∧ ys.length = (k - n) * 4 ∧ wr.ownsRow w.heap.size 47 4 (.slice (some ⟨g, 0, none⟩) k k) k (rowM (List.replicate n mX) ++ ys) ∧ Below w.heap.size w wr

theorem fill_step {w wr : World} {g k n : Nat} {ys : List Value} (hn : n < k) (hy : ys.length = (k - n) * 4) (h : wr.ownsRow w.heap.size 47 4 (.slice (some ⟨g, 0, none⟩) k k) k (rowM (List.replicate n mX) ++ ys)) :
    ∃ ys', ys'.length = (k - (n + 1)) * 4 ∧ ((((wr.setCell ⟨g, n * 4, none⟩ (.int .i64 2)).setCell ⟨g, n * 4 + 1, none⟩ (.int .i64 0)).setCell ⟨g, n * 4 + 2, none⟩ (.int .i64 0)).setCell ⟨g, n * 4 + 3, none⟩ (.string ⟨#[120]⟩)).ownsRow w.heap.size 47 4 (.slice (some ⟨g, 0, none⟩) k k) k (rowM (List.replicate (n + 1) mX) ++ ys') := by
  match ys, hy with
  | z0 :: z1 :: z2 :: z3 :: ys', hy =>
    refine ⟨ys', by simp at hy ⊢; omega, ?_⟩
    have h4 := owns_setCell (owns_setCell (owns_setCell (owns_setCell h (n * 4) (.int .i64 2)) (n * 4 + 1) (.int .i64 0)) (n * 4 + 2) (.int .i64 0)) (n * 4 + 3) (.string ⟨#[120]⟩)
    rw [set_at4 _ _ _ _ _ _ _ _ _ _ (n * 4) (by rw [rowM_length]; simp; omega)] at h4
    have e : rowM (List.replicate (n + 1) mX) = rowM (List.replicate n mX) ++ [.int .i64 2, .int .i64 0, .int .i64 0, .string ⟨#[120]⟩] := by
      rw [List.replicate_succ', rowM_append]; rfl
    rw [e, List.append_assoc]
    exact h4
  | [], hy => simp at hy; omega
  | [_], hy => simp at hy; omega
  | [_, _], hy => simp at hy; omega
  | [_, _, _], hy => simp at hy; omega

end Go.Proofs.YtldpnhlifgkmiaaDoor
