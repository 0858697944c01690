import Derived.Test.YtgmmbfnmojjbkaaGreatDoorWZ
import Derived.Test.YtgmmbfnmojjbkaaGreatDoorWY
namespace Go.Proofs.YtgmmbfnmojjbkaaGreatDoor
open Go.RowKit
set_option linter.unusedVariables false
set_option linter.unusedSimpArgs false

/-- Each of the ones is among the others, by the order. -/
def Covers (A B : List Kd) : Prop := ∀ x ∈ A, ∃ y ∈ B, ordK x y = 0
/-- Each of the ones is the same term as one of the others. -/
def SameIn (A B : List Kd) : Prop := ∀ x ∈ A, ∃ y ∈ B, x.a = y.a ∧ x.l = y.l
def Rises (A : List Kd) : Prop := A.Pairwise (fun j k => ordK j k < 0)

theorem SameIn.covers {A B : List Kd} (h : SameIn A B) : Covers A B := fun x hx => by
  obtain ⟨y, hy, e1, e2⟩ := h x hx
  exact ⟨y, hy, by rw [ordK, e1, e2]; exact ordT_self _ _⟩
theorem Covers.trans {A B C : List Kd} (h : Covers A B) (k : Covers B C) : Covers A C := fun x hx => by
  obtain ⟨y, hy, e1⟩ := h x hx
  obtain ⟨z, hz, e2⟩ := k y hy
  have t := tri_ordK x y z
  exact ⟨z, hz, by unfold Tri at t; omega⟩
theorem SameIn.trans {A B C : List Kd} (h : SameIn A B) (k : SameIn B C) : SameIn A C := fun x hx => by
  obtain ⟨y, hy, e1, e2⟩ := h x hx
  obtain ⟨z, hz, e3, e4⟩ := k y hy
  exact ⟨z, hz, e1.trans e3, e2.trans e4⟩
theorem Covers.sub {A B : List Kd} (h : ∀ x ∈ A, x ∈ B) : Covers A B := fun x hx => ⟨x, h x hx, ordK_self x⟩

theorem fo_same : ∀ (ks js : List Kd), foOf ks .nil = foOf js .nil → ks.length = js.length ∧ SameIn ks js
  | [], [], _ => ⟨rfl, fun _ h => by cases h⟩
  | [], j :: js, h => by simp [foOf] at h
  | k :: ks, [], h => by simp [foOf] at h
  | k :: ks, j :: js, h => by
    simp only [foOf] at h
    injection h with e1 e2 e3 e4 e5
    obtain ⟨h1, h2⟩ := fo_same ks js e5
    refine ⟨by simp [h1], fun x hx => ?_⟩
    rcases List.mem_cons.1 hx with rfl | hx
    · exact ⟨j, by simp, e3, e4⟩
    · obtain ⟨y, hy, e⟩ := h2 x hx
      exact ⟨y, by simp [hy], e⟩

theorem mayF_of : ∀ (ks : List Kd), (∀ k ∈ ks, may k.a k.l = true) → MayF (foOf ks .nil)
  | [], _ => trivial
  | k :: r, h => ⟨h k (by simp), mayF_of r (fun j hj => h j (by simp [hj]))⟩

theorem same_at {M L : List Kd} (hl : M.length = L.length) (h : ∀ t, sameK (M.getD t kd0) (L.getD t kd0)) : SameIn M L ∧ SameIn L M := by
  constructor
  · intro x hx
    obtain ⟨i, hi, rfl⟩ := List.getElem_of_mem hx
    have := h i
    simp only [List.getD, List.getElem?_eq_getElem hi, List.getElem?_eq_getElem (show i < L.length by omega), Option.getD_some] at this
    exact ⟨L[i], List.getElem_mem _, this.2.2.1, this.2.2.2⟩
  · intro x hx
    obtain ⟨i, hi, rfl⟩ := List.getElem_of_mem hx
    have := h i
    simp only [List.getD, List.getElem?_eq_getElem hi, List.getElem?_eq_getElem (show i < M.length by omega), Option.getD_some] at this
    exact ⟨M[i], List.getElem_mem _, this.2.2.1.symm, this.2.2.2.symm⟩

theorem rises_at {M L : List Kd} (hl : M.length = L.length) (h : ∀ t, sameK (M.getD t kd0) (L.getD t kd0)) (hL : Rises L) : Rises M := by
  refine List.pairwise_iff_getElem.2 fun i j hi hj hij => ?_
  have := (List.pairwise_iff_getElem.1 hL) i j (by omega) (by omega) hij
  have e1 := h i
  have e2 := h j
  simp only [List.getD, List.getElem?_eq_getElem hi, List.getElem?_eq_getElem (show i < L.length by omega), Option.getD_some] at e1
  simp only [List.getD, List.getElem?_eq_getElem hj, List.getElem?_eq_getElem (show j < L.length by omega), Option.getD_some] at e2
  rw [ordK, e1.2.2.1, e1.2.2.2, e2.2.2.1, e2.2.2.2]; exact this

/-- What Sort answers: it rises, has each, and none else. -/
def SortedOf (w : World) (ks : List Kd) (e : Ending) (w' : World) : Prop :=
  ∃ (M : List Kd) (u : Value), e = .returned u ∧ SlT w' u M ∧ (∀ k ∈ M, may k.a k.l = true) ∧ Rises M ∧ SameIn M ks ∧ Covers ks M ∧ M.length ≤ 100000 ∧ Below w.heap.size w w'

theorem SlT.rep {w : World} {v : Value} {ks : List Kd} (h : SlT w v ks) : ∃ A c b o, v = .slice A (flen (foOf ks .nil)) c ∧ (flen (foOf ks .nil) = 0 ∨ A = some ⟨b, o, none⟩) ∧ RepF w w.heap.size (foOf ks .nil) b o := by
  rcases h with ⟨rfl, rfl⟩ | ⟨g, c, rfl, h4⟩
  · exact ⟨none, 0, 0, 0, rfl, .inl rfl, trivial⟩
  · refine ⟨_, c, g, 0, by rw [flen_foOf], .inr rfl, ?_⟩
    exact RepG.toF (fun _ h => h) (rep_of_row (S := fun b => b < w.heap.size) h4.1 ks 0 (fun k hk => (h4.2.2 k hk).1) (fun j hj => by rw [Nat.zero_add]; exact h4.2.1 j hj))

/-- No more of those that rise than there are. -/
theorem rises_len : ∀ (ks L : List Kd), Rises L → Covers L ks → L.length ≤ ks.length
  | [], L, _, hc => by
    cases L with
    | nil => simp
    | cons l L => obtain ⟨y, hy, _⟩ := hc l (by simp); cases hy
  | k :: ks, L, hr, hc => by
    by_cases hx : ∃ x ∈ L, ordK x k = 0
    · obtain ⟨x, hxL, hxk⟩ := hx
      obtain ⟨s, t, rfl⟩ := List.append_of_mem hxL
      have hr' : Rises (s ++ t) := List.Pairwise.sublist (List.Sublist.append (List.Sublist.refl s) (List.sublist_cons_self x t)) hr
      have hne : ∀ y ∈ s ++ t, ordK y k ≠ 0 := fun y hy e => by
        have hP := List.pairwise_append.1 hr
        have hQ := List.pairwise_cons.1 hP.2.1
        have t1 := tri_ordK y k x
        have n1 := neg_ordK x k
        have n2 := neg_ordK x y
        rcases List.mem_append.1 hy with hy | hy
        · have := hP.2.2 y hy x (by simp)
          unfold Tri at t1; omega
        · have := hQ.1 y hy
          unfold Tri at t1; omega
      have := rises_len ks (s ++ t) hr' (fun y hy => by
        obtain ⟨z, hz, e⟩ := hc y (by rcases List.mem_append.1 hy with h | h <;> simp [h])
        rcases List.mem_cons.1 hz with rfl | hz
        · exact absurd e (hne y hy)
        · exact ⟨z, hz, e⟩)
      simp at this ⊢; omega
    · have := rises_len ks L hr (fun y hy => by
        obtain ⟨z, hz, e⟩ := hc y hy
        rcases List.mem_cons.1 hz with rfl | hz
        · exact absurd ⟨y, hy, e⟩ hx
        · exact ⟨z, hz, e⟩)
      simp; omega

theorem sortK {w : World} {v : Value} {ks : List Kd} (h : SlT w v ks) (hm : ∀ k ∈ ks, may k.a k.l = true) (hn : ks.length ≤ 100000) :
    Calls Tryz.prog 58 #[v] w fun e w' => SortedOf w ks e w' := by
  obtain ⟨A, c, b, o, rfl, hA, hr⟩ := h.rep
  refine (sort_any w (foOf ks .nil) A c b o w.heap.size (Nat.le_refl _) hA hr (by rw [flen_foOf]; exact hn) (mayF_of ks hm)).mono ?_
  rintro e w' ⟨js, L, M, g, cc, hks, hso, hML, hsame, rfl, hrow, hg, hb⟩
  obtain ⟨hlen, hs1⟩ := fo_same ks js hks
  obtain ⟨_, hs2⟩ := fo_same js ks hks.symm
  obtain ⟨hs3, hs4⟩ := same_at hML hsame
  have hLj : SameIn L js := fun x hx => ⟨x, hso.2.1 x hx, rfl, rfl⟩
  have hMk : SameIn M ks := (hs3.trans hLj).trans hs2
  have hLl : L.length ≤ js.length := rises_len js L hso.1 hLj.covers
  refine ⟨M, _, rfl, ?_, fun k hk => ?_, rises_at hML hsame hso.1, hMk, (hs1.covers.trans hso.2.2).trans hs4.covers, by omega, hb⟩
  · exact .inr ⟨g, cc, rfl, hrow.toT⟩
  · obtain ⟨j, hj, e1, e2⟩ := hMk k hk
    rw [e1, e2]; exact hm j hj

end Go.Proofs.YtgmmbfnmojjbkaaGreatDoor
