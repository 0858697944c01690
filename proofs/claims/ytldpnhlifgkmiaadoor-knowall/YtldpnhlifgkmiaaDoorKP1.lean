import Derived.Test.YtldpnhlifgkmiaaDoorQ2
import Derived.Test.YtldpnhlifgkmiaaDoorK0
import Derived.Test.YtldpnhlifgkmiaaDoorW20
namespace Go.Proofs.YtldpnhlifgkmiaaDoor
open Go.RowKit
set_option linter.unusedVariables false
set_option linter.unusedSimpArgs false

theorem digit_toNat {d : Nat} (h : d < 10) : (UInt8.ofNat (48 + d)).toNat = 48 + d := by simp; omega

/-- Digits are digits. -/
theorem dec_digit (u : Nat) : ∀ c ∈ Lib.decDigits u, 48 ≤ c.toNat ∧ c.toNat ≤ 57 := by
  induction u using Nat.strongRecOn with
  | _ u ih =>
    intro c hc
    rw [Lib.decDigits] at hc
    split at hc
    · rename_i h
      simp only [List.mem_singleton] at hc
      rw [hc, digit_toNat h]; omega
    · rename_i h
      rcases List.mem_append.1 hc with hc | hc
      · exact ih (u / 10) (by omega) c hc
      · simp only [List.mem_singleton] at hc
        rw [hc, digit_toNat (Nat.mod_lt _ (by omega))]; omega

theorem dec_eq (u : Nat) : Lib.decDigits u = if h : u < 10 then [UInt8.ofNat (48 + u)] else Lib.decDigits (u / 10) ++ [UInt8.ofNat (48 + u % 10)] := by rw [Lib.decDigits]

theorem dec_ne (u : Nat) : Lib.decDigits u ≠ [] := by
  intro h
  have := Lib.decDigits_length u
  rw [h] at this
  have := Lib.nDigits_pos u
  simp at *; omega

/-- The number of its digits. -/
theorem dec_inj : ∀ (u v : Nat), Lib.decDigits u = Lib.decDigits v → u = v := by
  intro u
  induction u using Nat.strongRecOn with
  | _ u ih =>
    intro v h
    rw [dec_eq u, dec_eq v] at h
    by_cases hu : u < 10
    · by_cases hv : v < 10
      · rw [dif_pos hu, dif_pos hv] at h
        injection h with h _
        have := congrArg UInt8.toNat h
        rw [digit_toNat hu, digit_toNat hv] at this; omega
      · rw [dif_pos hu, dif_neg hv] at h
        have hl := congrArg List.length h
        have := Lib.decDigits_length (v / 10)
        have := Lib.nDigits_pos (v / 10)
        simp only [List.length_append, List.length_cons, List.length_nil] at hl; omega
    · by_cases hv : v < 10
      · rw [dif_neg hu, dif_pos hv] at h
        have hl := congrArg List.length h
        have := Lib.decDigits_length (u / 10)
        have := Lib.nDigits_pos (u / 10)
        simp only [List.length_append, List.length_cons, List.length_nil] at hl; omega
      · rw [dif_neg hu, dif_neg hv] at h
        obtain ⟨h1, h2⟩ := List.append_inj' h rfl
        have h3 := ih (u / 10) (by omega) (v / 10) h1
        injection h2 with h2 _
        have := congrArg UInt8.toNat h2
        rw [digit_toNat (Nat.mod_lt _ (by omega)), digit_toNat (Nat.mod_lt _ (by omega))] at this; omega

/-- Up to a sign that none of either has. -/
theorem cut_at {c : UInt8} : ∀ (p q : List UInt8) (xs ys : List UInt8), (∀ x ∈ p, x ≠ c) → (∀ x ∈ q, x ≠ c) → p ++ c :: xs = q ++ c :: ys → p = q ∧ xs = ys
  | [], [], xs, ys, _, _, h => by injection h with _ h; exact ⟨rfl, h⟩
  | [], y :: q, xs, ys, _, hq, h => by injection h with h _; exact absurd h.symm (hq y (by simp))
  | x :: p, [], xs, ys, hp, _, h => by injection h with h _; exact absurd h (hp x (by simp))
  | x :: p, y :: q, xs, ys, hp, hq, h => by
    injection h with h1 h2
    obtain ⟨h3, h4⟩ := cut_at p q xs ys (fun z hz => hp z (by simp [hz])) (fun z hz => hq z (by simp [hz])) h2
    exact ⟨by rw [h1, h3], h4⟩

theorem num_inj {n m : Int} (hn : 0 ≤ n) (hm : 0 ≤ m) (xs ys : List UInt8) (h : numB n ++ xs = numB m ++ ys) : n = m ∧ xs = ys := by
  obtain ⟨u, rfl⟩ := Int.eq_ofNat_of_zero_le hn
  obtain ⟨v, rfl⟩ := Int.eq_ofNat_of_zero_le hm
  unfold numB at h
  have e : ∀ k : Nat, Lib.itoa (k : Int) = Lib.decDigits k := fun k => by unfold Lib.itoa; rw [if_neg (by omega)]; simp
  rw [e, e, List.append_assoc, List.append_assoc] at h
  have nb : ∀ k : Nat, ∀ x ∈ Lib.decDigits k, x ≠ 32 := fun k x hx e => by
    have := dec_digit k x hx
    rw [e] at this; exact absurd this.1 (by decide)
  obtain ⟨h1, h2⟩ := cut_at _ _ xs ys (nb u) (nb v) h
  exact ⟨by rw [dec_inj u v h1], h2⟩

theorem keyH_inj {a b : Nd} {p q : Nat} (ha : formedB a.kind a.n a.s p = true) (hb : formedB b.kind b.n b.s q = true) (xs ys : List UInt8) (h : keyH a ++ xs = keyH b ++ ys) : a = b ∧ p = q ∧ xs = ys := by
  obtain ⟨k, n, s⟩ := a
  obtain ⟨k', n', s'⟩ := b
  unfold keyH at h
  rw [List.append_assoc, List.append_assoc] at h
  have p1 : 0 ≤ k ∧ 0 ≤ n := by
    rcases formed_cases ha with ⟨h1, h2, h3, h4⟩ | ⟨h1, h2, h3, h4, h5⟩ | ⟨h1, h2, h3, h4⟩ | ⟨h1, h2, h3, h4⟩ <;> simp only at h1 h2 h3 h4 <;> omega
  have p2 : 0 ≤ k' ∧ 0 ≤ n' := by
    rcases formed_cases hb with ⟨h1, h2, h3, h4⟩ | ⟨h1, h2, h3, h4, h5⟩ | ⟨h1, h2, h3, h4⟩ | ⟨h1, h2, h3, h4⟩ <;> simp only at h1 h2 h3 h4 <;> omega
  obtain ⟨hk, h⟩ := num_inj (by exact p1.1) (by exact p2.1) _ _ h
  simp only at hk
  subst hk
  simp only at h
  rcases formed_cases ha with ⟨h1, h2, h3, h4⟩ | ⟨h1, h2, h3, h4, h5⟩ | ⟨h1, h2, h3, h4⟩ | ⟨h1, h2, h3, h4⟩
  · simp only at h1 h3 h4; subst h1; subst h3
    rcases formed_cases hb with ⟨g1, g2, g3, g4⟩ | ⟨g1, g2, g3, g4, g5⟩ | ⟨g1, g2, g3, g4⟩ | ⟨g1, g2, g3, g4⟩ <;> simp only at g1 g3 g4 <;> try omega
    subst g3
    rw [if_pos rfl, if_pos rfl, List.append_assoc, List.append_assoc] at h
    obtain ⟨hs, h⟩ := num_inj (by omega) (by omega) _ _ h
    have hl : s.data.toList.length = s'.data.toList.length := by rw [Array.length_toList, Array.length_toList]; exact Int.ofNat.inj hs
    obtain ⟨e1, e2⟩ := List.append_inj h hl
    exact ⟨by congr 1; exact ByteArray.ext (Array.toList_inj.1 e1), by omega, e2⟩
  · simp only at h1 h3 h4 h5; subst h1; subst h3
    rcases formed_cases hb with ⟨g1, g2, g3, g4⟩ | ⟨g1, g2, g3, g4, g5⟩ | ⟨g1, g2, g3, g4⟩ | ⟨g1, g2, g3, g4⟩ <;> simp only at g1 g3 g4 <;> try omega
    subst g3
    rw [if_neg (by decide), if_pos rfl, if_neg (by decide), if_pos rfl] at h
    obtain ⟨hs, h⟩ := num_inj (by omega) (by omega) _ _ h
    exact ⟨by rw [hs], by omega, h⟩
  · simp only at h1 h3 h4; subst h3; subst h4
    rcases formed_cases hb with ⟨g1, g2, g3, g4⟩ | ⟨g1, g2, g3, g4, g5⟩ | ⟨g1, g2, g3, g4⟩ | ⟨g1, g2, g3, g4⟩ <;> simp only at g1 g3 g4 <;> try omega
    subst g3; subst g4
    rw [if_neg (by omega), if_neg (by omega)] at h
    exact ⟨rfl, by omega, by simpa using h⟩
  · simp only at h1 h3 h4; subst h3; subst h4
    rcases formed_cases hb with ⟨g1, g2, g3, g4⟩ | ⟨g1, g2, g3, g4, g5⟩ | ⟨g1, g2, g3, g4⟩ | ⟨g1, g2, g3, g4⟩ <;> simp only at g1 g3 g4 <;> try omega
    subst g3; subst g4
    rw [if_neg (by omega), if_neg (by omega)] at h
    exact ⟨rfl, by omega, by simpa using h⟩

/-- Each node is formed. -/
def FormF : Fo → Prop
  | .nil => True
  | .node _ _ a l r => formedB a.kind a.n a.s (flen l) = true ∧ FormF l ∧ FormF r

theorem formF_of : ∀ (f : Fo) (d c : Int), (mayF f d c).1 = true → FormF f
  | .nil, _, _, _ => trivial
  | .node x y a l r, d, c, h => by
    rw [mayF] at h
    by_cases hm : mayB a (flen l) d c = true
    · rw [if_pos hm] at h
      by_cases hl : (mayF l (d + 1) (c + 1)).1 = true
      · rw [if_pos hl] at h
        exact ⟨(mayB_of hm).2.2, formF_of l _ _ hl, formF_of r _ _ h⟩
      · rw [if_neg hl] at h; simp at h
    · rw [if_neg hm] at h; simp at h

theorem may_form {a : Nd} {l : Fo} (h : may a l = true) : formedB a.kind a.n a.s (flen l) = true ∧ FormF l := by
  unfold may at h
  rw [mayT_node a l 1 0 0 0] at h
  have := formF_of _ _ _ h
  exact ⟨this.1, this.2.1⟩

theorem keyF_inj : ∀ (f g : Fo) (xs ys : List UInt8), FormF f → FormF g → flen f = flen g → keyF f ++ xs = keyF g ++ ys → norm f = norm g ∧ xs = ys
  | .nil, .nil, _, _, _, _, _, h => ⟨rfl, by simpa [keyF] using h⟩
  | .nil, .node .., _, _, _, _, hl, _ => by simp [flen] at hl
  | .node .., .nil, _, _, _, _, hl, _ => by simp [flen] at hl
  | .node _ _ a l r, .node _ _ b m s, xs, ys, ⟨f1, f2, f3⟩, ⟨g1, g2, g3⟩, hl, h => by
    simp only [flen] at hl
    rw [keyF, keyF, List.append_assoc, List.append_assoc, List.append_assoc, List.append_assoc] at h
    obtain ⟨e1, e2, h⟩ := keyH_inj f1 g1 _ _ h
    obtain ⟨e3, h⟩ := keyF_inj l m _ _ f2 g2 e2 h
    obtain ⟨e4, h⟩ := keyF_inj r s _ _ f3 g3 (by omega) h
    exact ⟨by rw [norm, norm, e1, e3, e4], h⟩

theorem keyF_norm : ∀ f : Fo, keyF (norm f) = keyF f
  | .nil => rfl
  | .node _ _ a l r => by rw [norm, keyF, keyF, keyF_norm l, keyF_norm r]

/-- Two terms' texts are the same just where the terms are. -/
theorem key_iff {a b : Nd} {l m : Fo} (ha : may a l = true) (hb : may b m = true) : keyT a l = keyT b m ↔ ordT a l b m = 0 := by
  obtain ⟨a1, a2⟩ := may_form ha
  obtain ⟨b1, b2⟩ := may_form hb
  constructor
  · intro h
    unfold keyT at h
    obtain ⟨e1, e2, h⟩ := keyH_inj a1 b1 _ _ h
    have h' : keyF l ++ [] = keyF m ++ [] := by simpa using h
    obtain ⟨e3, _⟩ := keyF_inj l m _ _ a2 b2 e2 h'
    subst e1
    exact ordT_norm a e3
  · intro h
    obtain ⟨e1, e2⟩ := ordT_zero h
    unfold keyT
    rw [e1, ← keyF_norm l, e2, keyF_norm m]

end Go.Proofs.YtldpnhlifgkmiaaDoor
