import Derived.Test.YtihfhmlgfacoiaaW27
namespace Go.Proofs.Ytihfhmlgfacoiaa
open Go.RowKit
set_option linter.unusedVariables false
set_option linter.unusedSimpArgs false

theorem getD_lt_mem {zs : List Int} {i : Nat} (h : i < zs.length) : zs.getD i 0 ∈ zs := by simp [List.getD, List.getElem?_eq_getElem h]

/-- A number put where it belongs: what rises still rises, and has just that number more. -/
theorem ins_sorted {zs ys : List Int} {n : Int} (hs : zs.Pairwise (· < ·)) (h : InsOf zs n ys) : ys.Pairwise (· < ·) ∧ (∀ x, x ∈ ys ↔ x ∈ zs ∨ x = n) ∧ ys.length ≤ zs.length + 1 ∧ ys ≠ [] := by
  obtain ⟨i, hi, hlt, h⟩ := h
  rcases h with ⟨h1, h2, rfl⟩ | ⟨h1, rfl⟩
  · refine ⟨hs, fun x => ⟨.inl, ?_⟩, by omega, fun e => by rw [e] at h1; simp at h1⟩
    rintro (h | rfl)
    · exact h
    · rw [← h2]; exact getD_lt_mem h1
  · refine ⟨?_, fun x => ?_, by simp; omega, by simp⟩
    · have hlo : ∀ x ∈ zs.take i, x < n := fun x hx => by
        obtain ⟨j, hj, rfl⟩ := List.mem_iff_getElem.1 hx
        have hj' : j < min i zs.length := by simpa using hj
        have hj2 : j < zs.length := by omega
        have := hlt j (by omega)
        rw [List.getElem_take]
        simpa [List.getD, List.getElem?_eq_getElem hj2] using this
      have hhi : ∀ x ∈ zs.drop i, n < x := fun x hx => by
        obtain ⟨j, hj, rfl⟩ := List.mem_iff_getElem.1 hx
        simp at hj
        rcases h1 with h1 | h1
        · omega
        · rw [List.getElem_drop]
          have hi' : i < zs.length := by omega
          have hn : n < zs[i] := by simpa [List.getD, List.getElem?_eq_getElem hi'] using h1
          rcases Nat.eq_zero_or_pos j with rfl | hj0
          · simpa using hn
          · have := List.pairwise_iff_getElem.1 hs i (i + j) hi' (by omega) (by omega)
            omega
      refine List.pairwise_append.2 ⟨hs.sublist (List.take_sublist _ _), List.pairwise_cons.2 ⟨hhi, hs.sublist (List.drop_sublist _ _)⟩, fun a ha b hb => ?_⟩
      rcases List.mem_cons.1 hb with rfl | hb
      · exact hlo a ha
      · have := hlo a ha; have := hhi b hb; omega
    · rw [List.mem_append, List.mem_cons]
      have hm : x ∈ zs ↔ x ∈ zs.take i ∨ x ∈ zs.drop i := by rw [← List.mem_append, List.take_append_drop]
      rw [hm]
      constructor
      · rintro (h | h | h)
        · exact .inl (.inl h)
        · exact .inr h
        · exact .inl (.inr h)
      · rintro ((h | h) | h)
        · exact .inl h
        · exact .inr (.inr h)
        · exact .inr (.inl h)

/-- Two rows that rise and have the same numbers are one. -/
theorem rise_unique : ∀ (xs ys : List Int), xs.Pairwise (· < ·) → ys.Pairwise (· < ·) → (∀ x, x ∈ xs ↔ x ∈ ys) → xs = ys
  | [], [], _, _, _ => rfl
  | [], y :: ys, _, _, h => by have := (h y).2 (by simp); simp at this
  | x :: xs, [], _, _, h => by have := (h x).1 (by simp); simp at this
  | x :: xs, y :: ys, hx, hy, h => by
    rw [List.pairwise_cons] at hx hy
    have e : x = y := by
      rcases List.mem_cons.1 ((h x).1 (by simp)) with e | e
      · exact e
      · rcases List.mem_cons.1 ((h y).2 (by simp)) with e' | e'
        · exact e'.symm
        · have := hy.1 x e; have := hx.1 y e'; omega
    subst e
    rw [rise_unique xs ys hx.2 hy.2]
    intro z
    constructor
    · intro hz
      rcases List.mem_cons.1 ((h z).1 (List.mem_cons_of_mem _ hz)) with e | e
      · have := hx.1 z hz; omega
      · exact e
    · intro hz
      rcases List.mem_cons.1 ((h z).2 (List.mem_cons_of_mem _ hz)) with e | e
      · have := hy.1 z hz; omega
      · exact e

theorem bang_getD {zs : List Int} {j : Nat} (hj : j < zs.length) : zs.toArray[j]! = zs.getD j 0 := by
  simp [getElem!_pos, hj, List.getD]

theorem compact_rise (zs : List Int) (hs : zs.Pairwise (· ≤ ·)) : ∀ m, m ≤ zs.length → (Lib.compactUpTo zs.toArray m).Pairwise (· < ·) ∧ ∀ x, x ∈ Lib.compactUpTo zs.toArray m ↔ ∃ j, j < m ∧ zs.getD j 0 = x
  | 0, _ => by simp [Lib.compactUpTo]
  | m + 1, hm => by
    obtain ⟨h1, h2⟩ := compact_rise zs hs m (by omega)
    have le : ∀ j k, j ≤ k → k < zs.length → zs.getD j 0 ≤ zs.getD k 0 := fun j k hjk hk => by
      rcases Nat.eq_or_lt_of_le hjk with rfl | h
      · exact Int.le_refl _
      · have := List.pairwise_iff_getElem.1 hs j k (by omega) hk h
        simpa [List.getD, List.getElem?_eq_getElem hk, List.getElem?_eq_getElem (show j < zs.length by omega)] using this
    rw [Lib.compactUpTo_succ]
    by_cases hk : Lib.keeps zs.toArray m = true
    · rw [if_pos hk, bang_getD (by omega)]
      have hk' : m = 0 ∨ zs.getD m 0 ≠ zs.getD (m - 1) 0 := by
        unfold Lib.keeps at hk
        have := of_decide_eq_true hk
        rwa [bang_getD (by omega), bang_getD (by omega)] at this
      refine ⟨List.pairwise_append.2 ⟨h1, by simp, fun a ha b hb => ?_⟩, fun x => ?_⟩
      · simp at hb; subst hb
        obtain ⟨j, hj, rfl⟩ := (h2 a).1 ha
        rcases hk' with h0 | h0
        · omega
        · have := le j (m - 1) (by omega) (by omega)
          have := le (m - 1) m (by omega) (by omega)
          simp only [List.getD] at *
          omega
      · rw [List.mem_append, h2]
        constructor
        · rintro (⟨j, hj, e⟩ | h)
          · exact ⟨j, by omega, e⟩
          · simp at h; exact ⟨m, by omega, by simp [h]⟩
        · rintro ⟨j, hj, e⟩
          rcases Nat.lt_or_ge j m with h | h
          · exact .inl ⟨j, h, e⟩
          · obtain rfl : j = m := by omega
            exact .inr (by rw [← e]; simp)
    · rw [if_neg hk, List.append_nil]
      have hk' : 0 < m ∧ zs.getD m 0 = zs.getD (m - 1) 0 := by
        unfold Lib.keeps at hk
        rw [decide_eq_true_iff, bang_getD (by omega), bang_getD (by omega)] at hk
        constructor
        · exact Nat.pos_of_ne_zero fun h => hk (.inl h)
        · exact Classical.byContradiction fun h => hk (.inr h)
      refine ⟨h1, fun x => ?_⟩
      rw [h2]
      constructor
      · rintro ⟨j, hj, e⟩; exact ⟨j, by omega, e⟩
      · rintro ⟨j, hj, e⟩
        rcases Nat.lt_or_ge j m with h | h
        · exact ⟨j, h, e⟩
        · obtain rfl : j = m := by omega
          exact ⟨j - 1, by omega, by rw [← hk'.2]; exact e⟩

theorem nonces_rise (a : Nd) (l : Fo) : (nonces a l).Pairwise (· < ·) ∧ ∀ x, x ∈ nonces a l ↔ x ∈ nonT a l := by
  have hs : ((nonT a l).mergeSort fun x y => decide (x ≤ y)).Pairwise (· ≤ ·) := by
    have := List.pairwise_mergeSort (le := fun x y : Int => decide (x ≤ y)) (fun a b c h1 h2 => by simp at *; omega) (fun a b => by simp; omega) (nonT a l)
    exact this.imp (fun h => by simpa using h)
  obtain ⟨h1, h2⟩ := compact_rise _ hs _ (Nat.le_refl _)
  refine ⟨h1, fun x => ?_⟩
  rw [nonces, Lib.compact, h2, ← List.mem_mergeSort (le := fun x y : Int => decide (x ≤ y)) (l := nonT a l)]
  generalize (nonT a l).mergeSort (fun x y => decide (x ≤ y)) = zs
  constructor
  · rintro ⟨j, hj, rfl⟩; exact getD_lt_mem hj
  · intro h
    obtain ⟨j, hj, rfl⟩ := List.mem_iff_getElem.1 h
    exact ⟨j, hj, by simp [List.getD, List.getElem?_eq_getElem hj]⟩

end Go.Proofs.Ytihfhmlgfacoiaa
