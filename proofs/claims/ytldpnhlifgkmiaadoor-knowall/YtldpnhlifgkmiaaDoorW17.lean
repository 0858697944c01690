import Derived.Test.YtldpnhlifgkmiaaDoorW16
import Derived.Test.YtldpnhlifgkmiaaDoorW14
import Derived.Test.YtldpnhlifgkmiaaDoorW10
namespace Go.Proofs.YtldpnhlifgkmiaaDoor
open Go.RowKit
set_option linter.unusedVariables false
set_option linter.unusedSimpArgs false

theorem tri_ordK (i j k : Kd) : Tri (ordK i j) (ordK j k) (ordK i k) := tri_ordT _ _ _ _ _ _
theorem neg_ordK (i j : Kd) : ordK j i = - ordK i j := neg_ordT _ _ _ _
theorem ordK_self (k : Kd) : ordK k k = 0 := ordT_self _ _

/-- L rises, is of ks, and has each of them. -/
def SortOf (ks L : List Kd) : Prop := L.Pairwise (fun j k => ordK j k < 0) ∧ (∀ y ∈ L, y ∈ ks) ∧ ∀ x ∈ ks, ∃ y ∈ L, ordK x y = 0

theorem getD_mem {ks : List Kd} {i : Nat} (h : i < ks.length) : ks.getD i kd0 ∈ ks := by simp [List.getD, List.getElem?_eq_getElem h]

theorem kept_sort (ks : List Kd) (hs : ks.Pairwise (fun j k => 0 ≤ ordK k j)) : ∀ m, m ≤ ks.length →
    (keptTo ks m).Pairwise (fun j k => ordK j k < 0) ∧ (∀ y ∈ keptTo ks m, ∃ i, i < m ∧ y = ks.getD i kd0) ∧ ∀ i, i < m → ∃ y ∈ keptTo ks m, ordK (ks.getD i kd0) y = 0
  | 0, _ => ⟨List.Pairwise.nil, by simp [keptTo], by omega⟩
  | m + 1, hm => by
    obtain ⟨h1, h2, h3⟩ := kept_sort ks hs m (by omega)
    have hle : ∀ i j, i < j → j < ks.length → ordK (ks.getD i kd0) (ks.getD j kd0) ≤ 0 := fun i j hij hj => by
      have := (List.pairwise_iff_getElem.1 hs) i j (by omega) hj hij
      rw [neg_ordK] at this
      have e1 : ks.getD i kd0 = ks[i] := by simp [List.getD, List.getElem?_eq_getElem (show i < ks.length by omega)]
      have e2 : ks.getD j kd0 = ks[j] := by simp [List.getD, List.getElem?_eq_getElem hj]
      rw [e1, e2]; omega
    rw [keptTo]
    cases hk : keepK ks m
    · simp only [Bool.false_eq_true, if_false, List.append_nil]
      refine ⟨h1, fun y hy => ?_, fun i hi => ?_⟩
      · obtain ⟨i, hi, e⟩ := h2 y hy; exact ⟨i, by omega, e⟩
      · rcases Nat.lt_or_ge i m with h | h
        · exact h3 i h
        · have him : i = m := by omega
          subst him
          unfold keepK at hk
          simp only [Bool.or_eq_false_iff, beq_eq_false_iff_ne, bne_eq_false_iff_eq] at hk
          obtain ⟨y, hy, e⟩ := h3 (i - 1) (by omega)
          have t := tri_ordK (ks.getD i kd0) (ks.getD (i - 1) kd0) y
          exact ⟨y, hy, by have := hk.2; unfold Tri at t; omega⟩
    · simp only [if_true]
      have hlast : ∀ y ∈ keptTo ks m, ordK y (ks.getD m kd0) < 0 := fun y hy => by
        obtain ⟨i, hi, rfl⟩ := h2 y hy
        unfold keepK at hk
        simp only [Bool.or_eq_true, beq_iff_eq, bne_iff_ne] at hk
        rcases hk with hk | hk
        · omega
        · have hk2 := hle (m - 1) m (by omega) (by omega)
          rw [neg_ordK] at hk
          rcases Nat.lt_or_ge i (m - 1) with h | h
          · have hi2 := hle i (m - 1) h (by omega)
            have t := tri_ordK (ks.getD i kd0) (ks.getD (m - 1) kd0) (ks.getD m kd0)
            unfold Tri at t; omega
          · have : i = m - 1 := by omega
            rw [this]; omega
      refine ⟨?_, fun y hy => ?_, fun i hi => ?_⟩
      · rw [List.pairwise_append]
        exact ⟨h1, by simp, fun x hx y hy => by simp at hy; subst hy; simpa using hlast x hx⟩
      · rcases List.mem_append.1 hy with hy | hy
        · obtain ⟨i, hi, e⟩ := h2 y hy; exact ⟨i, by omega, e⟩
        · simp at hy; exact ⟨m, by omega, by simpa using hy⟩
      · rcases Nat.lt_or_ge i m with h | h
        · obtain ⟨y, hy, e⟩ := h3 i h; exact ⟨y, by simp [hy], e⟩
        · have him : i = m := by omega
          subst him
          exact ⟨ks.getD i kd0, by simp, ordK_self _⟩

theorem sortOf_kept {ks js : List Kd} (hp : js.Perm ks) (hs : js.Pairwise (fun j k => 0 ≤ ordK k j)) : SortOf ks (keptTo js js.length) := by
  obtain ⟨h1, h2, h3⟩ := kept_sort js hs js.length (Nat.le_refl _)
  refine ⟨h1, fun y hy => ?_, fun x hx => ?_⟩
  · obtain ⟨i, hi, rfl⟩ := h2 y hy; exact hp.subset (getD_mem hi)
  · obtain ⟨i, hi, e⟩ := List.getElem_of_mem (hp.symm.subset hx)
    obtain ⟨y, hy, e2⟩ := h3 i hi
    refine ⟨y, hy, ?_⟩
    rw [← e2]; congr 1; simp [List.getD, List.getElem?_eq_getElem hi, e]

/-- Two that rise and have each other's are one by one the same. -/
theorem sortOf_unique : ∀ (L M : List Kd), L.Pairwise (fun j k => ordK j k < 0) → M.Pairwise (fun j k => ordK j k < 0) → (∀ x ∈ L, ∃ y ∈ M, ordK x y = 0) → (∀ y ∈ M, ∃ x ∈ L, ordK y x = 0) →
    L.length = M.length ∧ ∀ i, i < L.length → ordK (L.getD i kd0) (M.getD i kd0) = 0
  | [], [], _, _, _, _ => ⟨rfl, by simp⟩
  | [], m :: M, _, _, _, h => by obtain ⟨x, hx, _⟩ := h m (by simp); simp at hx
  | l :: L, [], _, _, h, _ => by obtain ⟨x, hx, _⟩ := h l (by simp); simp at hx
  | l :: L, m :: M, hL, hM, h1, h2 => by
    rw [List.pairwise_cons] at hL hM
    have e0 : ordK l m = 0 := by
      obtain ⟨y, hy, e⟩ := h1 l (by simp)
      obtain ⟨x, hx, e'⟩ := h2 m (by simp)
      rcases List.mem_cons.1 hy with rfl | hy
      · exact e
      · rcases List.mem_cons.1 hx with rfl | hx
        · rw [neg_ordK, e']; rfl
        · have a := hM.1 y hy
          have b := hL.1 x hx
          have t1 := tri_ordK m y l
          have t2 := tri_ordK l x m
          have n1 := neg_ordK l y
          have n2 := neg_ordK l m
          have n3 := neg_ordK m x
          unfold Tri at t1 t2; omega
    have hx1 : ∀ x ∈ L, ∃ y ∈ M, ordK x y = 0 := fun x hx => by
      obtain ⟨y, hy, e⟩ := h1 x (by simp [hx])
      rcases List.mem_cons.1 hy with rfl | hy
      · have a := hL.1 x hx
        have t := tri_ordK l x y
        unfold Tri at t; omega
      · exact ⟨y, hy, e⟩
    have hx2 : ∀ y ∈ M, ∃ x ∈ L, ordK y x = 0 := fun y hy => by
      obtain ⟨x, hx, e⟩ := h2 y (by simp [hy])
      rcases List.mem_cons.1 hx with rfl | hx
      · have a := hM.1 y hy
        have t := tri_ordK m y x
        have n2 := neg_ordK x m
        unfold Tri at t; omega
      · exact ⟨x, hx, e⟩
    obtain ⟨r1, r2⟩ := sortOf_unique L M hL.2 hM.2 hx1 hx2
    refine ⟨by simp [r1], fun i hi => ?_⟩
    cases i with
    | zero => simpa using e0
    | succ i => simpa using r2 i (by simpa using hi)

end Go.Proofs.YtldpnhlifgkmiaaDoor
