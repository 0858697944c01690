import Derived.Test.YtgmmbfnmojjbkaaGreatDoorW9
namespace Go.Proofs.YtgmmbfnmojjbkaaGreatDoor
set_option linter.unusedVariables false
set_option linter.unusedSimpArgs false

/-- What three answers of an order among x y, y z, x z keep to. -/
def Tri (p q r : Int) : Prop :=
  (p ≤ 0 → q ≤ 0 → r ≤ 0) ∧ (q ≤ 0 → 0 ≤ r → 0 ≤ p) ∧ (0 ≤ r → p ≤ 0 → 0 ≤ q) ∧ (0 ≤ q → 0 ≤ p → 0 ≤ r) ∧ (0 ≤ p → r ≤ 0 → q ≤ 0) ∧ (r ≤ 0 → 0 ≤ q → p ≤ 0)

theorem tri_orI {p q r p' q' r' : Int} (h : Tri p q r) (k : Tri p' q' r') : Tri (orI p p') (orI q q') (orI r r') := by
  unfold Tri at *
  unfold orI
  by_cases hp : p = 0 <;> by_cases hq : q = 0 <;> by_cases hr : r = 0 <;> simp only [hp, hq, hr, if_true, if_false] <;> omega

theorem tri_cmpI (x y z : Int) : Tri (cmpI x y) (cmpI y z) (cmpI x z) := by
  have h : ∀ a b : Int, (a < b ∧ cmpI a b = -1) ∨ (b < a ∧ cmpI a b = 1) ∨ (a = b ∧ cmpI a b = 0) := by
    intro a b; unfold cmpI; split
    · omega
    · split <;> omega
  have h1 := h x y; have h2 := h y z; have h3 := h x z
  unfold Tri; omega

theorem neg_cmpI (x y : Int) : cmpI y x = - cmpI x y := by
  unfold cmpI; split <;> split <;> (try split) <;> omega

theorem tri_zero : Tri 0 0 0 := by unfold Tri; omega

theorem cmpB_cons (a b : UInt8) (x y : List UInt8) : Lib.compareBytes (a :: x) (b :: y) = orI (cmpI a.toNat b.toNat) (Lib.compareBytes x y) := by
  rw [Lib.compareBytes]
  simp only [UInt8.lt_iff_toNat_lt]
  unfold orI cmpI
  by_cases h1 : a.toNat < b.toNat
  · rw [if_pos h1, if_pos (show (a.toNat : Int) < b.toNat by omega)]; simp
  · by_cases h2 : b.toNat < a.toNat
    · rw [if_neg h1, if_pos h2, if_neg (show ¬ (a.toNat : Int) < b.toNat by omega), if_pos (show (b.toNat : Int) < a.toNat by omega)]; simp
    · rw [if_neg h1, if_neg h2, if_neg (show ¬ (a.toNat : Int) < b.toNat by omega), if_neg (show ¬ (b.toNat : Int) < a.toNat by omega)]; simp

theorem tri_bytes : ∀ x y z : List UInt8, Tri (Lib.compareBytes x y) (Lib.compareBytes y z) (Lib.compareBytes x z)
  | [], [], [] => tri_zero
  | [], [], _ :: _ => by simp [Lib.compareBytes, Tri]
  | [], _ :: _, [] => by simp [Lib.compareBytes, Tri]
  | _ :: _, [], [] => by simp [Lib.compareBytes, Tri]
  | [], b :: y, c :: z => by
    have := cmpS_small (b :: y) (c :: z)
    simp only [Lib.compareBytes, Tri] at *; omega
  | a :: x, [], c :: z => by
    have := cmpS_small (a :: x) (c :: z)
    simp only [Lib.compareBytes, Tri] at *; omega
  | a :: x, b :: y, [] => by
    have := cmpS_small (a :: x) (b :: y)
    simp only [Lib.compareBytes, Tri] at *; omega
  | a :: x, b :: y, c :: z => by
    rw [cmpB_cons, cmpB_cons, cmpB_cons]
    exact tri_orI (tri_cmpI _ _ _) (tri_bytes x y z)

theorem neg_orI {p q p' q' : Int} (h : p' = -p) (k : q' = -q) : orI p' q' = - orI p q := by
  subst h k; unfold orI
  by_cases hp : p = 0
  · subst hp; simp
  · rw [if_neg hp, if_neg (by omega)]

theorem neg_bytes : ∀ x y : List UInt8, Lib.compareBytes y x = - Lib.compareBytes x y
  | [], [] => rfl
  | [], _ :: _ => rfl
  | _ :: _, [] => rfl
  | a :: x, b :: y => by rw [cmpB_cons, cmpB_cons]; exact neg_orI (neg_cmpI _ _) (neg_bytes x y)

theorem bytes_zero : ∀ x y : List UInt8, Lib.compareBytes x y = 0 → x = y
  | [], [], _ => rfl
  | [], _ :: _, h => by simp [Lib.compareBytes] at h
  | _ :: _, [], h => by simp [Lib.compareBytes] at h
  | a :: x, b :: y, h => by
    rw [cmpB_cons] at h
    have h1 : cmpI a.toNat b.toNat = 0 := by unfold orI at h; split at h <;> assumption
    have h2 : Lib.compareBytes x y = 0 := by rw [h1] at h; simpa [orI] using h
    have h3 : a.toNat = b.toNat := by unfold cmpI at h1; split at h1; omega; split at h1 <;> omega
    rw [bytes_zero x y h2, UInt8.toNat_inj.1 h3]

theorem bytes_self : ∀ x : List UInt8, Lib.compareBytes x x = 0
  | [] => rfl
  | a :: x => by rw [cmpB_cons, bytes_self x]; simp [orI, cmpI]

theorem tri_ordN (a b c : Nd) : Tri (ordN a b) (ordN b c) (ordN a c) := tri_orI (tri_cmpI _ _ _) (tri_orI (tri_cmpI _ _ _) (tri_bytes _ _ _))
theorem neg_ordN (a b : Nd) : ordN b a = - ordN a b := neg_orI (neg_cmpI _ _) (neg_orI (neg_cmpI _ _) (neg_bytes _ _))

theorem tri_ordF : ∀ f g h : Fo, Tri (ordF f g) (ordF g h) (ordF f h)
  | .nil, .nil, .nil => by simp [ordF, Tri]
  | .nil, .nil, .node .. => by simp [ordF, Tri]
  | .nil, .node .., .nil => by simp [ordF, Tri]
  | .node .., .nil, .nil => by simp [ordF, Tri]
  | .nil, .node b1 o1 a l r, .node b2 o2 b m s => by
    have := ordF_range (.node b1 o1 a l r) (.node b2 o2 b m s)
    simp only [ordF.eq_2, Tri] at *; omega
  | .node b1 o1 a l r, .nil, .node b2 o2 b m s => by
    have := ordF_range (.node b1 o1 a l r) (.node b2 o2 b m s)
    simp only [ordF.eq_2, ordF.eq_3, Tri] at *; omega
  | .node b1 o1 a l r, .node b2 o2 b m s, .nil => by
    have := ordF_range (.node b1 o1 a l r) (.node b2 o2 b m s)
    simp only [ordF.eq_3, Tri] at *; omega
  | .node _ _ a l r, .node _ _ b m s, .node _ _ c n t => by
    rw [ordF, ordF, ordF]
    exact tri_orI (tri_ordN a b c) (tri_orI (tri_ordF l m n) (tri_ordF r s t))

theorem neg_ordF : ∀ f g : Fo, ordF g f = - ordF f g
  | .nil, .nil => rfl
  | .nil, .node .. => rfl
  | .node .., .nil => rfl
  | .node _ _ a l r, .node _ _ b m s => by rw [ordF, ordF]; exact neg_orI (neg_ordN a b) (neg_orI (neg_ordF l m) (neg_ordF r s))

theorem tri_ordT (a : Nd) (l : Fo) (b : Nd) (m : Fo) (c : Nd) (n : Fo) : Tri (ordT a l b m) (ordT b m c n) (ordT a l c n) := tri_orI (tri_ordN a b c) (tri_ordF l m n)
theorem neg_ordT (a : Nd) (l : Fo) (b : Nd) (m : Fo) : ordT b m a l = - ordT a l b m := neg_orI (neg_ordN a b) (neg_ordF l m)
theorem ordT_self (a : Nd) (l : Fo) : ordT a l a l = 0 := by have := neg_ordT a l a l; omega

end Go.Proofs.YtgmmbfnmojjbkaaGreatDoor
