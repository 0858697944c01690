import Derived.Test.YtgmmbfnmojjbkaaGreatDoorW32
import Derived.Test.YtgmmbfnmojjbkaaGreatDoorTA
namespace Go.Proofs.YtgmmbfnmojjbkaaGreatDoor
open Go.RowKit
set_option linter.unusedVariables false
set_option linter.unusedSimpArgs false

theorem TermsAt.sl {w : World} {B : Nat} {v : Value} {ks : List Kd} (h : TermsAt w B v ks) : SlT w v ks ∧ ∀ k ∈ ks, may k.a k.l = true := by
  refine ⟨?_, fun k hk => (h.2 k hk).2⟩
  rcases h.1.2 with ⟨h1, h2⟩ | ⟨g, cap, cur, h3, h4, _, h5, h6, _⟩
  · exact .inl ⟨List.eq_nil_of_length_eq_zero h2, h1⟩
  · have h1 := h.1
    rw [h3] at h1
    refine .inr ⟨g, cap, h3, (h1.lt g rfl).2, fun t ht => h1.cellAt t (by omega), fun k hk => ⟨(h.2 k hk).1.keep (fun b hb => hb.2.1) (fun _ _ _ => rfl), may_ar _ _ (h.2 k hk).2⟩⟩

theorem SlT.src {w : World} {A : Option Addr} {n c : Nat} {ks : List Kd} (h : SlT w (.slice A n c) ks) (hn : n = ks.length) : SrcAt w 4 A ks.length (rowOf ks) := by
  rcases h with ⟨rfl, h⟩ | ⟨g, c, h1, h4⟩
  · exact .inl ⟨rfl, rfl⟩
  · injection h1 with e1 e2 e3
    subst e1
    have h := h4.src 0 ks.length (by omega)
    simpa using h

/-- A row of one's own, of terms that stood. -/
theorem owns_sl {w w' : World} {v : Value} {ks : List Kd} (hown : w'.ownsRow w.heap.size 24 4 v ks.length (rowOf ks)) (hb : Below w.heap.size w w') (hk : ∀ k ∈ ks, k.Ok w (fun b => b < w.heap.size) ∧ k.Ar) : SlT w' v ks := by
  rcases hown.2 with ⟨h1, h2⟩ | ⟨g, cap, cur, h3, h4, _, h5, h6, _⟩
  · exact .inl ⟨List.eq_nil_of_length_eq_zero h2, h1⟩
  · rw [h3] at hown
    exact .inr ⟨g, cap, h3, (hown.lt g rfl).2, fun t ht => hown.cellAt t (by omega), fun k h => ⟨(hk k h).1.below hb, (hk k h).2⟩⟩

theorem SlT.oks {w : World} {v : Value} {ks : List Kd} (h : SlT w v ks) : ∀ k ∈ ks, k.Ok w (fun b => b < w.heap.size) ∧ k.Ar := by
  rcases h with ⟨rfl, h⟩ | ⟨g, c, h1, h4⟩
  · intro k hk; cases hk
  · exact h4.2.2

end Go.Proofs.YtgmmbfnmojjbkaaGreatDoor
