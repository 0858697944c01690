import Derived.Test.YtldpnhlifgkmiaaDoorR2
import Derived.Lib.ItoaMem
import Derived.Test.YtldpnhlifgkmiaaDoorQ2
import Derived.Test.YtldpnhlifgkmiaaDoorW20
import Derived.Test.YtldpnhlifgkmiaaDoorW10
namespace Go.Proofs.YtldpnhlifgkmiaaDoor
open Go.RowKit
set_option linter.unusedVariables false
set_option linter.unusedSimpArgs false

/-- A number's digits and a blank. -/
def numB (n : Int) : List UInt8 := Lib.itoa n ++ [32]
/-- A node's text, without its kids'. -/
def keyH (a : Nd) : List UInt8 := numB a.kind ++ (if a.kind = 1 then numB (a.s.size : Int) ++ a.s.data.toList else if a.kind = 2 then numB a.n else [])
def keyF : Fo → List UInt8
  | .nil => []
  | .node _ _ a l r => (keyH a ++ keyF l) ++ keyF r
/-- A term's text. -/
def keyT (a : Nd) (l : Fo) : List UInt8 := keyH a ++ keyF l

theorem keyF_node (x y : Nat) (a : Nd) (l r : Fo) : keyF (.node x y a l r) = keyT a l ++ keyF r := rfl

/-- How many of the kids do not come out. -/
def skipOf (k : Int) : Nat := if k = 7 then 0 else if k = 6 then 1 else 3
def dropFo : Nat → Fo → Fo
  | 0, f => f
  | _ + 1, .nil => .nil
  | n + 1, .node _ _ _ _ r => dropFo n r

/-- What is learnt of a row of terms behind the first ones, one behind the other. -/
def learnG : Nat → Fo → List (Nd × Fo) → List (Nd × Fo)
  | _, .nil, L => L
  | n + 1, .node _ _ a l r, L => learnG n r L
  | 0, .node _ _ a l r, L => learnG 0 r (if keyT a l ∈ L.map (fun x => keyT x.1 x.2) then L else learnG (skipOf a.kind) l (L ++ [(a, l)]))
def learnT (a : Nd) (l : Fo) (L : List (Nd × Fo)) : List (Nd × Fo) := if keyT a l ∈ L.map (fun x => keyT x.1 x.2) then L else learnG (skipOf a.kind) l (L ++ [(a, l)])

theorem learnG_node (x y : Nat) (a : Nd) (l r : Fo) (L : List (Nd × Fo)) : learnG 0 (.node x y a l r) L = learnG 0 r (learnT a l L) := by rw [learnG, learnT]
theorem learnG_drop : ∀ (n : Nat) (f : Fo) (L : List (Nd × Fo)), learnG 0 (dropFo n f) L = learnG n f L
  | 0, f, L => rfl
  | n + 1, .nil, L => by simp [dropFo, learnG]
  | n + 1, .node _ _ a l r, L => by rw [dropFo, learnG_drop n r L, learnG]

theorem flen_drop : ∀ (n : Nat) (f : Fo), flen (dropFo n f) = flen f - n
  | 0, f => by simp [dropFo]
  | n + 1, .nil => by simp [dropFo, flen]
  | n + 1, .node _ _ _ _ r => by rw [dropFo, flen_drop n r, flen]; omega

/-- The terms of a list. -/
def tms (ks : List Kd) : List (Nd × Fo) := ks.map fun k => (k.a, k.l)

def nodesF : Fo → Nat
  | .nil => 0
  | .node _ _ _ l r => 1 + nodesF l + nodesF r

/-- What is learnt of a row of terms. -/
def learnL : List Kd → List (Nd × Fo) → List (Nd × Fo)
  | [], L => L
  | k :: r, L => learnL r (learnT k.a k.l L)

theorem learnL_append : ∀ (ks js : List Kd) (L : List (Nd × Fo)), learnL (ks ++ js) L = learnL js (learnL ks L)
  | [], _, _ => rfl
  | k :: r, js, L => learnL_append r js _

def nodesK : List Kd → Nat
  | [] => 0
  | k :: r => 1 + nodesF k.l + nodesK r

theorem nodesK_append : ∀ (ks js : List Kd), nodesK (ks ++ js) = nodesK ks + nodesK js
  | [], _ => by simp [nodesK]
  | k :: r, js => by simp [nodesK, nodesK_append r js]; omega


end Go.Proofs.YtldpnhlifgkmiaaDoor

namespace Go.Proofs.YtldpnhlifgkmiaaDoor
open Go.RowKit
set_option linter.unusedVariables false
set_option linter.unusedSimpArgs false

theorem digit_toNat {d : Nat} (h : d < 10) : (UInt8.ofNat (48 + d)).toNat = 48 + d := by simp; omega

/-- Digits are digits. -/
theorem dec_digit (u : Nat) : ∀ c ∈ Lib.decDigits u, 48 ≤ c.toNat ∧ c.toNat ≤ 57 := by
  induction u using Nat.strongRecOn with
  | _ u ih =>
    intro c hc
    rw [Lib.decDigits] at hc
    split at hc
    · rename_i h
      simp only [List.mem_singleton] at hc
      rw [hc, digit_toNat h]; omega
    · rename_i h
      rcases List.mem_append.1 hc with hc | hc
      · exact ih (u / 10) (by omega) c hc
      · simp only [List.mem_singleton] at hc
        rw [hc, digit_toNat (Nat.mod_lt _ (by omega))]; omega

theorem dec_eq (u : Nat) : Lib.decDigits u = if h : u < 10 then [UInt8.ofNat (48 + u)] else Lib.decDigits (u / 10) ++ [UInt8.ofNat (48 + u % 10)] := by rw [Lib.decDigits]

theorem dec_ne (u : Nat) : Lib.decDigits u ≠ [] := by
  intro h
  have := Lib.decDigits_length u
  rw [h] at this
  have := Lib.nDigits_pos u
  simp at *; omega

/-- The number of its digits. -/
theorem dec_inj : ∀ (u v : Nat), Lib.decDigits u = Lib.decDigits v → u = v := by
  intro u
  induction u using Nat.strongRecOn with
  | _ u ih =>
    intro v h
    rw [dec_eq u, dec_eq v] at h
    by_cases hu : u < 10
    · by_cases hv : v < 10
      · rw [dif_pos hu, dif_pos hv] at h
        injection h with h _
        have := congrArg UInt8.toNat h
        rw [digit_toNat hu, digit_toNat hv] at this; omega
      · rw [dif_pos hu, dif_neg hv] at h
        have hl := congrArg List.length h
        have := Lib.decDigits_length (v / 10)
        have := Lib.nDigits_pos (v / 10)
        simp only [List.length_append, List.length_cons, List.length_nil] at hl; omega
    · by_cases hv : v < 10
      · rw [dif_neg hu, dif_pos hv] at h
        have hl := congrArg List.length h
        have := Lib.decDigits_length (u / 10)
        have := Lib.nDigits_pos (u / 10)
        simp only [List.length_append, List.length_cons, List.length_nil] at hl; omega
      · rw [dif_neg hu, dif_neg hv] at h
        obtain ⟨h1, h2⟩ := List.append_inj' h rfl
        have h3 := ih (u / 10) (by omega) (v / 10) h1
        injection h2 with h2 _
        have := congrArg UInt8.toNat h2
        rw [digit_toNat (Nat.mod_lt _ (by omega)), digit_toNat (Nat.mod_lt _ (by omega))] at this; omega

/-- Up to a sign that none of either has. -/
theorem cut_at {c : UInt8} : ∀ (p q : List UInt8) (xs ys : List UInt8), (∀ x ∈ p, x ≠ c) → (∀ x ∈ q, x ≠ c) → p ++ c :: xs = q ++ c :: ys → p = q ∧ xs = ys
  | [], [], xs, ys, _, _, h => by injection h with _ h; exact ⟨rfl, h⟩
  | [], y :: q, xs, ys, _, hq, h => by injection h with h _; exact absurd h.symm (hq y (by simp))
  | x :: p, [], xs, ys, hp, _, h => by injection h with h _; exact absurd h (hp x (by simp))
  | x :: p, y :: q, xs, ys, hp, hq, h => by
    injection h with h1 h2
    obtain ⟨h3, h4⟩ := cut_at p q xs ys (fun z hz => hp z (by simp [hz])) (fun z hz => hq z (by simp [hz])) h2
    exact ⟨by rw [h1, h3], h4⟩

theorem num_inj {n m : Int} (hn : 0 ≤ n) (hm : 0 ≤ m) (xs ys : List UInt8) (h : numB n ++ xs = numB m ++ ys) : n = m ∧ xs = ys := by
  obtain ⟨u, rfl⟩ := Int.eq_ofNat_of_zero_le hn
  obtain ⟨v, rfl⟩ := Int.eq_ofNat_of_zero_le hm
  unfold numB at h
  have e : ∀ k : Nat, Lib.itoa (k : Int) = Lib.decDigits k := fun k => by unfold Lib.itoa; rw [if_neg (by omega)]; simp
  rw [e, e, List.append_assoc, List.append_assoc] at h
  have nb : ∀ k : Nat, ∀ x ∈ Lib.decDigits k, x ≠ 32 := fun k x hx e => by
    have := dec_digit k x hx
    rw [e] at this; exact absurd this.1 (by decide)
  obtain ⟨h1, h2⟩ := cut_at _ _ xs ys (nb u) (nb v) h
  exact ⟨by rw [dec_inj u v h1], h2⟩

theorem keyH_inj {a b : Nd} {p q : Nat} (ha : formedB a.kind a.n a.s p = true) (hb : formedB b.kind b.n b.s q = true) (xs ys : List UInt8) (h : keyH a ++ xs = keyH b ++ ys) : a = b ∧ p = q ∧ xs = ys := by
  obtain ⟨k, n, s⟩ := a
  obtain ⟨k', n', s'⟩ := b
  unfold keyH at h
  rw [List.append_assoc, List.append_assoc] at h
  have p1 : 0 ≤ k ∧ 0 ≤ n := by
    rcases formed_cases ha with ⟨h1, h2, h3, h4⟩ | ⟨h1, h2, h3, h4, h5⟩ | ⟨h1, h2, h3, h4⟩ | ⟨h1, h2, h3, h4⟩ <;> simp only at h1 h2 h3 h4 <;> omega
  have p2 : 0 ≤ k' ∧ 0 ≤ n' := by
    rcases formed_cases hb with ⟨h1, h2, h3, h4⟩ | ⟨h1, h2, h3, h4, h5⟩ | ⟨h1, h2, h3, h4⟩ | ⟨h1, h2, h3, h4⟩ <;> simp only at h1 h2 h3 h4 <;> omega
  obtain ⟨hk, h⟩ := num_inj (by exact p1.1) (by exact p2.1) _ _ h
  simp only at hk
  subst hk
  simp only at h
  rcases formed_cases ha with ⟨h1, h2, h3, h4⟩ | ⟨h1, h2, h3, h4, h5⟩ | ⟨h1, h2, h3, h4⟩ | ⟨h1, h2, h3, h4⟩
  · simp only at h1 h3 h4; subst h1; subst h3
    rcases formed_cases hb with ⟨g1, g2, g3, g4⟩ | ⟨g1, g2, g3, g4, g5⟩ | ⟨g1, g2, g3, g4⟩ | ⟨g1, g2, g3, g4⟩ <;> simp only at g1 g3 g4 <;> try omega
    subst g3
    rw [if_pos rfl, if_pos rfl, List.append_assoc, List.append_assoc] at h
    obtain ⟨hs, h⟩ := num_inj (by omega) (by omega) _ _ h
    have hl : s.data.toList.length = s'.data.toList.length := by rw [Array.length_toList, Array.length_toList]; exact Int.ofNat.inj hs
    obtain ⟨e1, e2⟩ := List.append_inj h hl
    exact ⟨by congr 1; exact ByteArray.ext (Array.toList_inj.1 e1), by omega, e2⟩
  · simp only at h1 h3 h4 h5; subst h1; subst h3
    rcases formed_cases hb with ⟨g1, g2, g3, g4⟩ | ⟨g1, g2, g3, g4, g5⟩ | ⟨g1, g2, g3, g4⟩ | ⟨g1, g2, g3, g4⟩ <;> simp only at g1 g3 g4 <;> try omega
    subst g3
    rw [if_neg (by decide), if_pos rfl, if_neg (by decide), if_pos rfl] at h
    obtain ⟨hs, h⟩ := num_inj (by omega) (by omega) _ _ h
    exact ⟨by rw [hs], by omega, h⟩
  · simp only at h1 h3 h4; subst h3; subst h4
    rcases formed_cases hb with ⟨g1, g2, g3, g4⟩ | ⟨g1, g2, g3, g4, g5⟩ | ⟨g1, g2, g3, g4⟩ | ⟨g1, g2, g3, g4⟩ <;> simp only at g1 g3 g4 <;> try omega
    subst g3; subst g4
    rw [if_neg (by omega), if_neg (by omega)] at h
    exact ⟨rfl, by omega, by simpa using h⟩
  · simp only at h1 h3 h4; subst h3; subst h4
    rcases formed_cases hb with ⟨g1, g2, g3, g4⟩ | ⟨g1, g2, g3, g4, g5⟩ | ⟨g1, g2, g3, g4⟩ | ⟨g1, g2, g3, g4⟩ <;> simp only at g1 g3 g4 <;> try omega
    subst g3; subst g4
    rw [if_neg (by omega), if_neg (by omega)] at h
    exact ⟨rfl, by omega, by simpa using h⟩

/-- Each node is formed. -/
def FormF : Fo → Prop
  | .nil => True
  | .node _ _ a l r => formedB a.kind a.n a.s (flen l) = true ∧ FormF l ∧ FormF r

theorem formF_of : ∀ (f : Fo) (d c : Int), (mayF f d c).1 = true → FormF f
  | .nil, _, _, _ => trivial
  | .node x y a l r, d, c, h => by
    rw [mayF] at h
    by_cases hm : mayB a (flen l) d c = true
    · rw [if_pos hm] at h
      by_cases hl : (mayF l (d + 1) (c + 1)).1 = true
      · rw [if_pos hl] at h
        exact ⟨(mayB_of hm).2.2, formF_of l _ _ hl, formF_of r _ _ h⟩
      · rw [if_neg hl] at h; simp at h
    · rw [if_neg hm] at h; simp at h

theorem may_form {a : Nd} {l : Fo} (h : may a l = true) : formedB a.kind a.n a.s (flen l) = true ∧ FormF l := by
  unfold may at h
  rw [mayT_node a l 1 0 0 0] at h
  have := formF_of _ _ _ h
  exact ⟨this.1, this.2.1⟩

theorem keyF_inj : ∀ (f g : Fo) (xs ys : List UInt8), FormF f → FormF g → flen f = flen g → keyF f ++ xs = keyF g ++ ys → norm f = norm g ∧ xs = ys
  | .nil, .nil, _, _, _, _, _, h => ⟨rfl, by simpa [keyF] using h⟩
  | .nil, .node .., _, _, _, _, hl, _ => by simp [flen] at hl
  | .node .., .nil, _, _, _, _, hl, _ => by simp [flen] at hl
  | .node _ _ a l r, .node _ _ b m s, xs, ys, ⟨f1, f2, f3⟩, ⟨g1, g2, g3⟩, hl, h => by
    simp only [flen] at hl
    rw [keyF, keyF, List.append_assoc, List.append_assoc, List.append_assoc, List.append_assoc] at h
    obtain ⟨e1, e2, h⟩ := keyH_inj f1 g1 _ _ h
    obtain ⟨e3, h⟩ := keyF_inj l m _ _ f2 g2 e2 h
    obtain ⟨e4, h⟩ := keyF_inj r s _ _ f3 g3 (by omega) h
    exact ⟨by rw [norm, norm, e1, e3, e4], h⟩

theorem keyF_norm : ∀ f : Fo, keyF (norm f) = keyF f
  | .nil => rfl
  | .node _ _ a l r => by rw [norm, keyF, keyF, keyF_norm l, keyF_norm r]

/-- Two terms' texts are the same just where the terms are. -/
theorem key_iff {a b : Nd} {l m : Fo} (ha : may a l = true) (hb : may b m = true) : keyT a l = keyT b m ↔ ordT a l b m = 0 := by
  obtain ⟨a1, a2⟩ := may_form ha
  obtain ⟨b1, b2⟩ := may_form hb
  constructor
  · intro h
    unfold keyT at h
    obtain ⟨e1, e2, h⟩ := keyH_inj a1 b1 _ _ h
    have h' : keyF l ++ [] = keyF m ++ [] := by simpa using h
    obtain ⟨e3, _⟩ := keyF_inj l m _ _ a2 b2 e2 h'
    subst e1
    exact ordT_norm a e3
  · intro h
    obtain ⟨e1, e2⟩ := ordT_zero h
    unfold keyT
    rw [e1, ← keyF_norm l, e2, keyF_norm m]

end Go.Proofs.YtldpnhlifgkmiaaDoor

namespace Go.Proofs.YtldpnhlifgkmiaaDoor
open Go.RowKit
set_option linter.unusedVariables false
set_option linter.unusedSimpArgs false

/-- What is a term so deep, and behind so many, is one less deep, and behind fewer. -/
theorem mayF_mono : ∀ (f : Fo) (d d' c c' : Int), d' ≤ d → c' ≤ c → (mayF f d c).1 = true → (mayF f d' c').1 = true ∧ (mayF f d' c').2 - c' = (mayF f d c).2 - c
  | .nil, d, d', c, c', _, _, _ => by simp [mayF]
  | .node x y a l r, d, d', c, c', hd, hc, h => by
    rw [mayF] at h ⊢
    rw [mayF]
    by_cases hm : mayB a (flen l) d c = true
    · have hm' : mayB a (flen l) d' c' = true := by
        obtain ⟨h1, h2, h3⟩ := mayB_of hm
        unfold mayB at hm ⊢
        simp only [Bool.and_eq_true, decide_eq_true_eq] at hm ⊢
        exact ⟨by omega, by omega, h3⟩
      rw [if_pos hm] at h ⊢
      rw [if_pos hm']
      by_cases hl : (mayF l (d + 1) (c + 1)).1 = true
      · obtain ⟨q1, q2⟩ := mayF_mono l (d + 1) (d' + 1) (c + 1) (c' + 1) (by omega) (by omega) hl
        rw [if_pos hl] at h ⊢
        rw [if_pos q1]
        obtain ⟨r1, r2⟩ := mayF_mono r d d' _ (mayF l (d' + 1) (c' + 1)).2 hd (by omega) h
        exact ⟨r1, by omega⟩
      · rw [if_neg hl] at h; simp at h
    · rw [if_neg hm] at h; simp at h

/-- All terms within may be. -/
def AMay : Fo → Prop
  | .nil => True
  | .node _ _ a l r => may a l = true ∧ AMay l ∧ AMay r

theorem amay_of : ∀ (f : Fo) (d c : Int), 1 ≤ d → 0 ≤ c → (mayF f d c).1 = true → AMay f
  | .nil, _, _, _, _, _ => trivial
  | .node x y a l r, d, c, hd, hc, h => by
    rw [mayF] at h
    by_cases hm : mayB a (flen l) d c = true
    · rw [if_pos hm] at h
      by_cases hl : (mayF l (d + 1) (c + 1)).1 = true
      · rw [if_pos hl] at h
        have hone : (mayF (.node 0 0 a l .nil) d c).1 = true := by rw [mayF, if_pos hm, if_pos hl]; rfl
        have hmay : may a l = true := by
          have := (mayF_mono (.node 0 0 a l .nil) d 1 c 0 hd hc hone).1
          unfold may
          rw [mayT_node a l 1 0 0 0]; exact this
        have hge := mayF_ge l (d + 1) (c + 1)
        exact ⟨hmay, amay_of l (d + 1) (c + 1) (by omega) (by omega) hl, amay_of r d _ hd (by omega) h⟩
      · rw [if_neg hl] at h; simp at h
    · rw [if_neg hm] at h; simp at h

theorem may_amay {a : Nd} {l : Fo} (h : may a l = true) : AMay l := by
  unfold may at h
  rw [mayT_node a l 1 0 0 0] at h
  exact (amay_of _ 1 0 (by omega) (by omega) h).2.1

/-- A term, places forgotten. -/
def nm (t : Nd × Fo) : Nd × Fo := (t.1, norm t.2)
def kidL : Fo → List (Nd × Fo)
  | .nil => []
  | .node _ _ a l r => (a, l) :: kidL r
/-- What comes out of a term by itself. -/
def outs (t : Nd × Fo) : List (Nd × Fo) := (kidL t.2).drop (skipOf t.1.kind)
def InL (L : List (Nd × Fo)) (t : Nd × Fo) : Prop := ∃ x ∈ L, nm x = t
def Shut (P : Nd × Fo → Prop) : Prop := ∀ t u, P t → u ∈ outs t → P u
/-- What follows from some. -/
def Fol (X : Nd × Fo → Prop) (t : Nd × Fo) : Prop := ∀ P : Nd × Fo → Prop, Shut P → (∀ t, X t → P t) → P t

theorem kidL_length : ∀ f : Fo, (kidL f).length = flen f
  | .nil => rfl
  | .node _ _ a l r => by simp [kidL, flen, kidL_length r]
theorem kidL_norm : ∀ f : Fo, kidL (norm f) = (kidL f).map nm
  | .nil => rfl
  | .node _ _ a l r => by rw [norm, kidL, kidL, kidL_norm r]; rfl
theorem outs_nm (t : Nd × Fo) : outs (nm t) = (outs t).map nm := by
  unfold outs
  rw [show (nm t).2 = norm t.2 from rfl, kidL_norm, List.map_drop]; rfl
theorem nm_nm (t : Nd × Fo) : nm (nm t) = nm t := by unfold nm; rw [norm_norm]
theorem nm_iff {a b : Nd} {l m : Fo} : nm (a, l) = nm (b, m) ↔ ordT a l b m = 0 := by
  constructor
  · intro h
    unfold nm at h
    injection h with h1 h2
    simp only at h1 h2
    subst h1
    exact ordT_norm a h2
  · intro h
    obtain ⟨h1, h2⟩ := ordT_zero h
    unfold nm
    rw [h1, h2]
theorem may_nm (t : Nd × Fo) : may (nm t).1 (nm t).2 = may t.1 t.2 := by unfold may nm; rw [mayT_norm]
theorem amay_mem : ∀ {f : Fo}, AMay f → ∀ u ∈ kidL f, may u.1 u.2 = true
  | .nil, _, u, hu => by simp [kidL] at hu
  | .node _ _ a l r, h, u, hu => by
    rw [kidL] at hu
    rcases List.mem_cons.1 hu with rfl | hu
    · exact h.1
    · exact amay_mem h.2.2 u hu
theorem outs_may {t : Nd × Fo} (h : may t.1 t.2 = true) : ∀ u ∈ outs t, may u.1 u.2 = true := fun u hu => amay_mem (may_amay h) u (List.mem_of_mem_drop hu)

theorem key_in {L : List (Nd × Fo)} {a : Nd} {l : Fo} (hL : ∀ x ∈ L, may x.1 x.2 = true) (h : may a l = true) : keyT a l ∈ L.map (fun x => keyT x.1 x.2) ↔ InL L (nm (a, l)) := by
  rw [List.mem_map]
  constructor
  · rintro ⟨x, hx, e⟩
    exact ⟨x, hx, nm_iff.2 ((key_iff (hL x hx) h).1 e)⟩
  · rintro ⟨x, hx, e⟩
    exact ⟨x, hx, (key_iff (hL x hx) h).2 (nm_iff.1 e)⟩

/-- What became of L when us were learnt. -/
structure LSpec (us L L' : List (Nd × Fo)) : Prop where
  sub : ∀ x ∈ L, x ∈ L'
  has : ∀ u ∈ us, InL L' (nm u)
  shut : ∀ x ∈ L', x ∈ L ∨ ∀ u ∈ outs x, InL L' (nm u)
  may : ∀ x ∈ L', may x.1 x.2 = true
  fol : ∀ P : Nd × Fo → Prop, Shut P → (∀ u ∈ us, P (nm u)) → (∀ x ∈ L, P (nm x)) → ∀ x ∈ L', P (nm x)
  nod : (L.map nm).Nodup → (L'.map nm).Nodup

theorem InL.mono {L L' : List (Nd × Fo)} (h : ∀ x ∈ L, x ∈ L') {t : Nd × Fo} : InL L t → InL L' t := fun ⟨x, hx, e⟩ => ⟨x, h x hx, e⟩

theorem LSpec.refl {L : List (Nd × Fo)} (h : ∀ x ∈ L, Go.Proofs.YtldpnhlifgkmiaaDoor.may x.1 x.2 = true) : LSpec [] L L :=
  ⟨fun x hx => hx, fun u hu => (by cases hu), fun x hx => .inl hx, h, fun P _ _ hx => hx, fun h => h⟩

theorem LSpec.trans {us vs L L' L'' : List (Nd × Fo)} (h : LSpec us L L') (k : LSpec vs L' L'') : LSpec (us ++ vs) L L'' := by
  refine ⟨fun x hx => k.sub x (h.sub x hx), fun u hu => ?_, fun x hx => ?_, k.may, fun P hP hu hx => k.fol P hP (fun u hv => hu u (List.mem_append.2 (.inr hv))) (h.fol P hP (fun u hv => hu u (List.mem_append.2 (.inl hv))) hx), fun hn => k.nod (h.nod hn)⟩
  · rcases List.mem_append.1 hu with hu | hu
    · exact (h.has u hu).mono k.sub
    · exact k.has u hu
  · rcases k.shut x hx with hx | hx
    · rcases h.shut x hx with hx | hx
      · exact .inl hx
      · exact .inr fun u hu => (hx u hu).mono k.sub
    · exact .inr hx

theorem learnT_spec (a : Nd) (l : Fo) (L : List (Nd × Fo)) (ha : may a l = true) (hL : ∀ x ∈ L, may x.1 x.2 = true) (ih : ∀ (n : Nat) (L : List (Nd × Fo)), (∀ x ∈ L, may x.1 x.2 = true) → LSpec ((kidL l).drop n) L (learnG n l L)) : LSpec [(a, l)] L (learnT a l L) := by
  unfold learnT
  by_cases hin : keyT a l ∈ L.map (fun x => keyT x.1 x.2)
  · rw [if_pos hin]
    refine ⟨fun x hx => hx, fun u hu => ?_, fun x hx => .inl hx, hL, fun P _ _ hx => hx, fun h => h⟩
    simp only [List.mem_singleton] at hu
    rw [hu]; exact (key_in hL ha).1 hin
  · rw [if_neg hin]
    have hL1 : ∀ x ∈ L ++ [(a, l)], may x.1 x.2 = true := fun x hx => by
      rcases List.mem_append.1 hx with hx | hx
      · exact hL x hx
      · simp only [List.mem_singleton] at hx; rw [hx]; exact ha
    have h := ih (skipOf a.kind) (L ++ [(a, l)]) hL1
    refine ⟨fun x hx => h.sub x (by simp [hx]), fun u hu => ?_, fun x hx => ?_, h.may, fun P hP hu hx => ?_, fun hn => h.nod ?_⟩
    · simp only [List.mem_singleton] at hu
      rw [hu]; exact ⟨(a, l), h.sub _ (by simp), rfl⟩
    · rcases h.shut x hx with hx | hx
      · rcases List.mem_append.1 hx with hx | hx
        · exact .inl hx
        · simp only [List.mem_singleton] at hx
          rw [hx]; exact .inr h.has
      · exact .inr hx
    · have hp : P (nm (a, l)) := hu _ (by simp)
      refine h.fol P hP (fun u hv => hP _ _ hp ?_) (fun x hx' => ?_)
      · rw [outs_nm]; exact List.mem_map_of_mem hv
      · rcases List.mem_append.1 hx' with h1 | h1
        · exact hx x h1
        · simp only [List.mem_singleton] at h1; rw [h1]; exact hp
    · rw [List.map_append, List.nodup_append]
      refine ⟨hn, by simp, fun x hx y hy e => ?_⟩
      simp only [List.map_cons, List.map_nil, List.mem_singleton] at hy
      rw [List.mem_map] at hx
      obtain ⟨z, hz, hz2⟩ := hx
      exact hin ((key_in hL ha).2 ⟨z, hz, by rw [hz2, e, hy]⟩)

theorem learnG_spec : ∀ (f : Fo) (n : Nat) (L : List (Nd × Fo)), AMay f → (∀ x ∈ L, may x.1 x.2 = true) → LSpec ((kidL f).drop n) L (learnG n f L)
  | .nil, n, L, _, hL => by
    have : (kidL .nil).drop n = [] := by simp [kidL]
    rw [this]
    cases n <;> exact LSpec.refl hL
  | .node x y a l r, n + 1, L, h, hL => by
    rw [kidL, List.drop_succ_cons, learnG]
    exact learnG_spec r n L h.2.2 hL
  | .node x y a l r, 0, L, h, hL => by
    rw [learnG_node]
    have h1 := learnT_spec a l L h.1 hL (fun n L hL => learnG_spec l n L h.2.1 hL)
    exact h1.trans (learnG_spec r 0 _ h.2.2 h1.may)

theorem learnL_spec : ∀ (ks : List Kd) (L : List (Nd × Fo)), (∀ k ∈ ks, may k.a k.l = true) → (∀ x ∈ L, may x.1 x.2 = true) → LSpec (tms ks) L (learnL ks L)
  | [], L, _, hL => LSpec.refl hL
  | k :: r, L, hk, hL => by
    have h1 := learnT_spec k.a k.l L (hk k (by simp)) hL (fun n L hL => learnG_spec k.l n L (may_amay (hk k (by simp))) hL)
    exact h1.trans (learnL_spec r _ (fun j hj => hk j (by simp [hj])) h1.may)

/-- L is all that follows from us. -/
def Clos (us L : List (Nd × Fo)) : Prop := ∀ t, InL L t ↔ Fol (InL us) t

theorem LSpec.clos {us L : List (Nd × Fo)} (h : LSpec us [] L) : Clos us L := by
  intro t
  constructor
  · rintro ⟨x, hx, rfl⟩ P hP hu
    exact h.fol P hP (fun u hu' => hu _ ⟨u, hu', rfl⟩) (fun x hx => by cases hx) x hx
  · intro hf
    refine hf (InL L) ?_ ?_
    · rintro t u ⟨x, hx, rfl⟩ hu
      rw [outs_nm, List.mem_map] at hu
      obtain ⟨v, hv, rfl⟩ := hu
      rcases h.shut x hx with hx | hx
      · cases hx
      · exact hx v hv
    · rintro t ⟨u, hu, rfl⟩
      exact h.has u hu

/-- Some done, some yet to do. -/
structure QSpec (us out todo : List (Nd × Fo)) : Prop where
  has : ∀ u ∈ us, InL out (nm u) ∨ InL todo (nm u)
  shut : ∀ x ∈ out, ∀ u ∈ outs x, InL out (nm u) ∨ InL todo (nm u)
  fol : ∀ P : Nd × Fo → Prop, Shut P → (∀ u ∈ us, P (nm u)) → (∀ x ∈ out, P (nm x)) ∧ (∀ x ∈ todo, P (nm x))

theorem QSpec.init (us : List (Nd × Fo)) : QSpec us [] us := ⟨fun u hu => .inr ⟨u, hu, rfl⟩, fun x hx => (by cases hx), fun P _ hu => ⟨fun x hx => (by cases hx), hu⟩⟩
theorem QSpec.old {us out todo : List (Nd × Fo)} {t : Nd × Fo} (h : QSpec us out (t :: todo)) (ht : InL out (nm t)) : QSpec us out todo := by
  have hc : ∀ {v}, InL out v ∨ InL (t :: todo) v → InL out v ∨ InL todo v := by
    rintro v (h | ⟨x, hx, e⟩)
    · exact .inl h
    · rcases List.mem_cons.1 hx with rfl | hx
      · rw [← e]; exact .inl ht
      · exact .inr ⟨x, hx, e⟩
  exact ⟨fun u hu => hc (h.has u hu), fun x hx u hu => hc (h.shut x hx u hu), fun P hP hu => ⟨(h.fol P hP hu).1, fun x hx => (h.fol P hP hu).2 x (by simp [hx])⟩⟩
theorem QSpec.new {us out out' todo : List (Nd × Fo)} {t : Nd × Fo} (h : QSpec us out (t :: todo)) (h1 : ∀ x ∈ out', x = t ∨ x ∈ out) (h2 : ∀ x ∈ out, x ∈ out') (h3 : InL out' (nm t)) : QSpec us out' (todo ++ outs t) := by
  have hc : ∀ {v}, InL out v ∨ InL (t :: todo) v → InL out' v ∨ InL (todo ++ outs t) v := by
    rintro v (h | ⟨x, hx, e⟩)
    · exact .inl (h.mono h2)
    · rcases List.mem_cons.1 hx with rfl | hx
      · rw [← e]; exact .inl h3
      · exact .inr ⟨x, by simp [hx], e⟩
  refine ⟨fun u hu => hc (h.has u hu), fun x hx u hu => ?_, fun P hP hu => ?_⟩
  · rcases h1 x hx with rfl | hx
    · exact .inr ⟨u, by simp [hu], rfl⟩
    · exact hc (h.shut x hx u hu)
  · obtain ⟨f1, f2⟩ := h.fol P hP hu
    have ht := f2 t (by simp)
    refine ⟨fun x hx => ?_, fun x hx => ?_⟩
    · rcases h1 x hx with rfl | hx
      · exact ht
      · exact f1 x hx
    · rcases List.mem_append.1 hx with hx | hx
      · exact f2 x (by simp [hx])
      · exact hP _ _ ht (by rw [outs_nm]; exact List.mem_map_of_mem hx)
theorem QSpec.clos {us L : List (Nd × Fo)} (h : QSpec us L []) : Clos us L := by
  have hc : ∀ {v}, InL L v ∨ InL [] v → InL L v := by
    rintro v (h | ⟨x, hx, e⟩)
    · exact h
    · cases hx
  intro t
  constructor
  · rintro ⟨x, hx, rfl⟩ P hP hu
    exact (h.fol P hP (fun u hu' => hu _ ⟨u, hu', rfl⟩)).1 x hx
  · intro hf
    refine hf (InL L) ?_ ?_
    · rintro t u ⟨x, hx, rfl⟩ hu
      rw [outs_nm, List.mem_map] at hu
      obtain ⟨v, hv, rfl⟩ := hu
      exact hc (h.shut x hx v hv)
    · rintro t ⟨u, hu, rfl⟩
      exact hc (h.has u hu)

/-- No more that are unlike than there are. -/
theorem nodup_len : ∀ (L ks : List (Nd × Fo)), (L.map nm).Nodup → (∀ x ∈ L, InL ks (nm x)) → L.length ≤ ks.length
  | [], _, _, _ => by simp
  | x :: L, ks, hn, hs => by
    obtain ⟨y, hy, e⟩ := hs x (by simp)
    obtain ⟨s, t, rfl⟩ := List.append_of_mem hy
    rw [List.map_cons, List.nodup_cons] at hn
    have := nodup_len L (s ++ t) hn.2 (fun z hz => by
      obtain ⟨v, hv, e2⟩ := hs z (by simp [hz])
      rcases List.mem_append.1 hv with hv | hv
      · exact ⟨v, by simp [hv], e2⟩
      · rcases List.mem_cons.1 hv with rfl | hv
        · exact absurd (by rw [← e, e2]; exact List.mem_map_of_mem hz) hn.1
        · exact ⟨v, by simp [hv], e2⟩)
    simp at this ⊢; omega

end Go.Proofs.YtldpnhlifgkmiaaDoor

namespace Go.Proofs.YtldpnhlifgkmiaaDoor
open Go.RowKit
set_option linter.unusedVariables false
set_option linter.unusedSimpArgs false

/-- Whether all of a row can be made, of those that p tells. -/
def canF (p : Nd → Fo → Bool) : Fo → Bool
  | .nil => true
  | .node _ _ a l r => (a.kind == 1 || p a l || (!(a.kind == 2) && canF p l)) && canF p r
def canT (p : Nd → Fo → Bool) (a : Nd) (l : Fo) : Bool := a.kind == 1 || p a l || (!(a.kind == 2) && canF p l)
theorem canF_node (p : Nd → Fo → Bool) (x y : Nat) (a : Nd) (l r : Fo) : canF p (.node x y a l r) = (canT p a l && canF p r) := by rw [canF, canT]
/-- The same, said of what holds. -/
def CanF (X : Nd × Fo → Prop) : Fo → Prop
  | .nil => True
  | .node _ _ a l r => (a.kind = 1 ∨ X (nm (a, l)) ∨ (a.kind ≠ 2 ∧ CanF X l)) ∧ CanF X r
def CanT (X : Nd × Fo → Prop) (a : Nd) (l : Fo) : Prop := a.kind = 1 ∨ X (nm (a, l)) ∨ (a.kind ≠ 2 ∧ CanF X l)

theorem CanF_node (X : Nd × Fo → Prop) (x y : Nat) (a : Nd) (l r : Fo) : CanF X (.node x y a l r) ↔ CanT X a l ∧ CanF X r := by rw [CanF, CanT]

theorem canF_iff {p : Nd → Fo → Bool} {X : Nd × Fo → Prop} (h : ∀ a l, may a l = true → (p a l = true ↔ X (nm (a, l)))) : ∀ f : Fo, AMay f → (canF p f = true ↔ CanF X f)
  | .nil, _ => by simp [canF, CanF]
  | .node _ _ a l r, hm => by
    rw [canF, CanF, Bool.and_eq_true, canF_iff h r hm.2.2, Bool.or_eq_true, Bool.or_eq_true, Bool.and_eq_true, h a l hm.1, canF_iff h l hm.2.1]
    simp only [beq_iff_eq, Bool.not_eq_true', beq_eq_false_iff_ne, ne_eq, or_assoc]
theorem canT_iff {p : Nd → Fo → Bool} {X : Nd × Fo → Prop} (h : ∀ a l, may a l = true → (p a l = true ↔ X (nm (a, l)))) {a : Nd} {l : Fo} (hm : may a l = true) : canT p a l = true ↔ CanT X a l := by
  rw [canT, CanT, Bool.or_eq_true, Bool.or_eq_true, Bool.and_eq_true, h a l hm, canF_iff h l (may_amay hm)]
  simp only [beq_iff_eq, Bool.not_eq_true', beq_eq_false_iff_ne, ne_eq, or_assoc]

theorem CanF.mono {X Y : Nd × Fo → Prop} (h : ∀ t, X t → Y t) : ∀ f : Fo, CanF X f → CanF Y f
  | .nil, _ => trivial
  | .node _ _ a l r, hc => by
    rw [CanF] at hc ⊢
    refine ⟨?_, CanF.mono h r hc.2⟩
    rcases hc.1 with h1 | h1 | h1
    · exact .inl h1
    · exact .inr (.inl (h _ h1))
    · exact .inr (.inr ⟨h1.1, CanF.mono h l h1.2⟩)
theorem CanT.mono {X Y : Nd × Fo → Prop} (h : ∀ t, X t → Y t) {a : Nd} {l : Fo} (hc : CanT X a l) : CanT Y a l := by
  rcases hc with h1 | h1 | h1
  · exact .inl h1
  · exact .inr (.inl (h _ h1))
  · exact .inr (.inr ⟨h1.1, CanF.mono h l h1.2⟩)

theorem CanF.norm (X : Nd × Fo → Prop) : ∀ f : Fo, CanF X (norm f) ↔ CanF X f
  | .nil => Iff.rfl
  | .node _ _ a l r => by
    rw [Go.Proofs.YtldpnhlifgkmiaaDoor.norm, CanF, CanF, CanF.norm X l, CanF.norm X r]
    have : nm (a, Go.Proofs.YtldpnhlifgkmiaaDoor.norm l) = nm (a, l) := nm_nm (a, l)
    rw [this]
theorem CanT.nm (X : Nd × Fo → Prop) (t : Nd × Fo) : CanT X (nm t).1 (nm t).2 ↔ CanT X t.1 t.2 := by
  unfold CanT
  rw [show (Go.Proofs.YtldpnhlifgkmiaaDoor.nm t).2 = Go.Proofs.YtldpnhlifgkmiaaDoor.norm t.2 from rfl, CanF.norm, show (Go.Proofs.YtldpnhlifgkmiaaDoor.nm t).1 = t.1 from rfl]
  have : Go.Proofs.YtldpnhlifgkmiaaDoor.nm (t.1, Go.Proofs.YtldpnhlifgkmiaaDoor.norm t.2) = Go.Proofs.YtldpnhlifgkmiaaDoor.nm (t.1, t.2) := nm_nm t
  rw [this]
theorem CanF.mem {X : Nd × Fo → Prop} : ∀ {f : Fo}, CanF X f → ∀ u ∈ kidL f, CanT X u.1 u.2
  | .nil, _, u, hu => by simp [kidL] at hu
  | .node _ _ a l r, h, u, hu => by
    rw [CanF_node] at h
    rw [kidL] at hu
    rcases List.mem_cons.1 hu with rfl | hu
    · exact h.1
    · exact CanF.mem h.2 u hu
theorem CanF.of {X : Nd × Fo → Prop} : ∀ {f : Fo}, (∀ u ∈ kidL f, CanT X u.1 u.2) → CanF X f
  | .nil, _ => trivial
  | .node _ _ a l r, h => (CanF_node X _ _ a l r).2 ⟨h (a, l) (by simp [kidL]), CanF.of (fun u hu => h u (by simp [kidL, hu]))⟩

/-- What can be made of what follows. -/
def Knows (us : List (Nd × Fo)) (a : Nd) (l : Fo) : Prop := CanT (Fol (InL us)) a l

theorem Fol.base {X : Nd × Fo → Prop} {t : Nd × Fo} (h : X t) : Fol X t := fun P _ hx => hx t h
theorem Fol.out {X : Nd × Fo → Prop} {t u : Nd × Fo} (h : Fol X t) (hu : u ∈ outs t) : Fol X u := fun P hP hx => hP t u (h P hP hx) hu
theorem Fol.mono {X Y : Nd × Fo → Prop} (h : ∀ t, X t → Y t) {t : Nd × Fo} (hf : Fol X t) : Fol Y t := fun P hP hx => hf P hP fun t ht => hx t (h t ht)

/-- Of a term that may be only a pair's and a signature's kids come out. -/
theorem outs_kind {t u : Nd × Fo} (hm : may t.1 t.2 = true) (hu : u ∈ outs t) : t.1.kind = 7 ∨ t.1.kind = 6 := by
  unfold outs skipOf at hu
  by_cases h7 : t.1.kind = 7
  · exact .inl h7
  · by_cases h6 : t.1.kind = 6
    · exact .inr h6
    · rw [if_neg h7, if_neg h6] at hu
      have hl := List.length_pos_of_mem hu
      rw [List.length_drop, kidL_length] at hl
      have h2 : kidsOf t.1.kind ≤ 2 := by unfold kidsOf; split; omega; split <;> omega
      have := (may_ar _ _ hm).1
      omega

theorem Knows.grows {us vs : List (Nd × Fo)} (h : ∀ x ∈ us, x ∈ vs) {a : Nd} {l : Fo} (hk : Knows us a l) : Knows vs a l :=
  CanT.mono (fun t => Fol.mono fun t ht => ht.mono h) hk

/-- What follows with one more that could be made can be made. -/
theorem fol_knows {us : List (Nd × Fo)} {u : Nd × Fo} (hus : ∀ x ∈ us, may x.1 x.2 = true) (hu : may u.1 u.2 = true) (hk : Knows us u.1 u.2) {t : Nd × Fo} (ht : Fol (InL (us ++ [u])) t) : may t.1 t.2 = true ∧ Knows us t.1 t.2 := by
  refine ht (fun t => may t.1 t.2 = true ∧ Knows us t.1 t.2) ?_ ?_
  · rintro t v ⟨hm, hc⟩ hv
    refine ⟨outs_may hm v hv, ?_⟩
    have hkd := outs_kind hm hv
    rcases hc with h1 | h1 | h1
    · omega
    · have := Fol.out h1 (u := nm v) (by rw [outs_nm]; exact List.mem_map_of_mem hv)
      exact .inr (.inl this)
    · exact CanF.mem h1.2 v (List.mem_of_mem_drop hv)
  · rintro t ⟨x, hx, rfl⟩
    rw [may_nm]
    unfold Knows
    rw [CanT.nm]
    rcases List.mem_append.1 hx with hx | hx
    · exact ⟨hus x hx, .inr (.inl (Fol.base ⟨x, hx, rfl⟩))⟩
    · simp only [List.mem_singleton] at hx
      rw [hx]; exact ⟨hu, hk⟩

theorem knowsF_cut {us : List (Nd × Fo)} {u : Nd × Fo} (hus : ∀ x ∈ us, may x.1 x.2 = true) (hu : may u.1 u.2 = true) (hk : Knows us u.1 u.2) : ∀ f : Fo, CanF (Fol (InL (us ++ [u]))) f → CanF (Fol (InL us)) f
  | .nil, _ => trivial
  | .node _ _ a l r, h => by
    rw [CanF_node] at h ⊢
    refine ⟨?_, knowsF_cut hus hu hk r h.2⟩
    rcases h.1 with h1 | h1 | h1
    · exact .inl h1
    · have := (fol_knows hus hu hk h1).2
      unfold Knows at this
      exact (CanT.nm _ (a, l)).1 this
    · exact .inr (.inr ⟨h1.1, knowsF_cut hus hu hk l h1.2⟩)
/-- What can be made adds nothing. -/
theorem Knows.cut {us : List (Nd × Fo)} {u : Nd × Fo} (hus : ∀ x ∈ us, may x.1 x.2 = true) (hu : may u.1 u.2 = true) (hk : Knows us u.1 u.2) {a : Nd} {l : Fo} (h : Knows (us ++ [u]) a l) : Knows us a l := by
  rcases h with h1 | h1 | h1
  · exact .inl h1
  · have := (fol_knows hus hu hk h1).2
    unfold Knows at this
    exact (CanT.nm _ (a, l)).1 this
  · exact .inr (.inr ⟨h1.1, knowsF_cut hus hu hk l h1.2⟩)

end Go.Proofs.YtldpnhlifgkmiaaDoor
