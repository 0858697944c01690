import Derived.Test.YtgmmbfnmojjbkaaGreatDoorW2
import Derived.Test.YtgmmbfnmojjbkaaGreatDoorM1
import Derived.Test.YtgmmbfnmojjbkaaGreatDoorR2
import Derived.Lib.ItoaMem
import Derived.Test.YtgmmbfnmojjbkaaGreatDoorW20
import Derived.Test.YtgmmbfnmojjbkaaGreatDoorW10
namespace Go.Proofs.YtgmmbfnmojjbkaaGreatDoor
open Go.RowKit
set_option linter.unusedVariables false
set_option linter.unusedSimpArgs false

/-- A number in so many bytes, the highest first. -/
def be : Nat → Nat → List UInt8
  | 0, _ => []
  | w + 1, n => UInt8.ofNat (n / 256 ^ w) :: be w n

def unBe (xs : List UInt8) : Nat := xs.foldl (fun n x => n * 256 + x.toNat) 0

theorem be_length : ∀ (w n : Nat), (be w n).length = w
  | 0, _ => rfl
  | w + 1, n => by rw [be, List.length_cons, be_length w n]

theorem u8_mod (n : Nat) : (UInt8.ofNat n).toNat = n % 256 := by simp

theorem unBe_two (x y : UInt8) : unBe [x, y] = x.toNat * 256 + y.toNat := by simp [unBe]
theorem unBe_four (x y z t : UInt8) : unBe [x, y, z, t] = ((x.toNat * 256 + y.toNat) * 256 + z.toNat) * 256 + t.toNat := by simp [unBe]

theorem be_two (n : Nat) : be 2 n = [UInt8.ofNat (n / 256), UInt8.ofNat n] := by simp [be]
theorem be_four (n : Nat) : be 4 n = [UInt8.ofNat (n / 16777216), UInt8.ofNat (n / 65536), UInt8.ofNat (n / 256), UInt8.ofNat n] := by simp [be]

theorem unBe_be2 (n : Nat) (h : n < 65536) : unBe (be 2 n) = n := by
  rw [be_two, unBe_two, u8_mod, u8_mod]; omega
theorem unBe_be4 (n : Nat) (h : n < 4294967296) : unBe (be 4 n) = n := by
  rw [be_four, unBe_four, u8_mod, u8_mod, u8_mod, u8_mod]; omega

theorem u8_of (x : UInt8) (n : Nat) (h : n % 256 = x.toNat) : UInt8.ofNat n = x := by
  apply UInt8.toNat_inj.1; rw [u8_mod]; exact h

theorem be_unBe2 (x y : UInt8) : be 2 (unBe [x, y]) = [x, y] := by
  have hx := x.toNat_lt; have hy := y.toNat_lt
  rw [be_two, unBe_two, u8_of x _ (by omega), u8_of y _ (by omega)]
theorem be_unBe4 (x y z t : UInt8) : be 4 (unBe [x, y, z, t]) = [x, y, z, t] := by
  have hx := x.toNat_lt; have hy := y.toNat_lt; have hz := z.toNat_lt; have ht := t.toNat_lt
  rw [be_four, unBe_four, u8_of x _ (by omega), u8_of y _ (by omega), u8_of z _ (by omega), u8_of t _ (by omega)]

/-- A node's own bytes. -/
def headB (a : Nd) : List UInt8 :=
  UInt8.ofNat a.kind.toNat :: (if a.kind = 1 then be 2 a.s.size ++ a.s.data.toList else if a.kind = 2 then be 4 a.n.toNat else [])

def putF : Fo → List UInt8
  | .nil => []
  | .node _ _ a l r => (headB a ++ putF l) ++ putF r

def putT (a : Nd) (l : Fo) : List UInt8 := headB a ++ putF l

theorem putF_node (b o : Nat) (a : Nd) (l r : Fo) : putF (.node b o a l r) = putT a l ++ putF r := rfl

/-- The same terms, the places forgotten. -/
def norm : Fo → Fo
  | .nil => .nil
  | .node _ _ a l r => .node 0 0 a (norm l) (norm r)

theorem flen_norm : ∀ f : Fo, flen (norm f) = flen f
  | .nil => rfl
  | .node _ _ a l r => by rw [norm, flen, flen, flen_norm r]
theorem putF_norm : ∀ f : Fo, putF (norm f) = putF f
  | .nil => rfl
  | .node _ _ a l r => by rw [norm, putF, putF, putF_norm l, putF_norm r]
theorem mayF_norm : ∀ (f : Fo) (deep c : Int), mayF (norm f) deep c = mayF f deep c
  | .nil, _, _ => rfl
  | .node _ _ a l r, deep, c => by rw [norm, mayF, mayF, flen_norm, mayF_norm l, mayF_norm r]
theorem mayT_norm (a : Nd) (l : Fo) (deep c : Int) : mayT a (norm l) deep c = mayT a l deep c := by rw [mayT, mayT, flen_norm, mayF_norm]
theorem norm_norm : ∀ f : Fo, norm (norm f) = norm f
  | .nil => rfl
  | .node _ _ a l r => by rw [norm, norm, norm_norm l, norm_norm r]

/-- A number of so many bytes, at most so great. -/
def tkN (wide most : Nat) (xs : List UInt8) : Except Nat (Nat × List UInt8) :=
  if xs.length < wide then .error 1 else if most < unBe (xs.take wide) then .error 3 else .ok (unBe (xs.take wide), xs.drop wide)

/-- What stands behind the Kind of an Atom. -/
def tkA (xs : List UInt8) : Except Nat (Nd × List UInt8) :=
  match tkN 2 1024 xs with
  | .error e => .error e
  | .ok (n, ys) => if ys.length < n then .error 1 else .ok (⟨1, 0, ⟨(ys.take n).toArray⟩⟩, ys.drop n)

/-- So many terms, one behind the other. -/
def kidsG (g : Nat → List UInt8 → Except Nat (Nd × Fo × Nat × List UInt8)) : Nat → Nat → List UInt8 → Except Nat (Fo × Nat × List UInt8)
  | 0, k, xs => .ok (.nil, k, xs)
  | c + 1, k, xs =>
    match g k xs with
    | .error e => .error e
    | .ok (a, l, k1, ys) =>
      match kidsG g c k1 ys with
      | .error e => .error e
      | .ok (r, k2, zs) => .ok (.node 0 0 a l r, k2, zs)

def ndK (h : Nat) : Nd := ⟨(h : Int), 0, ⟨#[]⟩⟩

/-- What is behind a node's kind. -/
def tkH (g : Nat → List UInt8 → Except Nat (Nd × Fo × Nat × List UInt8)) (h : Nat) (k : Nat) (ys : List UInt8) : Except Nat (Nd × Fo × Nat × List UInt8) :=
  if h = 1 then (match tkA ys with | .error e => .error e | .ok (a, zs) => .ok (a, .nil, k, zs))
  else if h = 2 then (match tkN 4 1073741824 ys with | .error e => .error e | .ok (n, zs) => .ok (⟨2, (n : Int), ⟨#[]⟩⟩, .nil, k, zs))
  else if h = 3 ∨ h = 4 then (match kidsG g 1 k ys with | .error e => .error e | .ok (f, k1, zs) => .ok (ndK h, f, k1, zs))
  else if h = 5 ∨ h = 6 ∨ h = 7 then (match kidsG g 2 k ys with | .error e => .error e | .ok (f, k1, zs) => .ok (ndK h, f, k1, zs))
  else .error 2

/-- The term at the front: so many levels left, so many nodes met. -/
def tk : Nat → Nat → List UInt8 → Except Nat (Nd × Fo × Nat × List UInt8)
  | 0, _, _ => .error 4
  | f + 1, k, xs =>
    if 64 < k + 1 then .error 4 else
    match xs with
    | [] => .error 1
    | h :: ys => tkH (tk f) h.toNat (k + 1) ys

/-- The term that bytes are, as a whole. -/
def oneB (xs : List UInt8) : Except Nat (Nd × Fo) :=
  match tk 16 0 xs with
  | .error e => .error e
  | .ok (a, l, _, ys) => if 0 < ys.length then .error 5 else .ok (a, l)

theorem be_getElem_len (w n : Nat) (ys : List UInt8) : ((be w n) ++ ys).take w = be w n := by
  rw [List.take_append_of_le_length (by rw [be_length]; omega), List.take_of_length_le (by rw [be_length]; omega)]
theorem be_drop (w n : Nat) (ys : List UInt8) : ((be w n) ++ ys).drop w = ys := by
  rw [List.drop_append_of_le_length (by rw [be_length]; omega), List.drop_of_length_le (by rw [be_length]; omega), List.nil_append]

theorem tkN_be (w most n : Nat) (ys : List UInt8) (h : unBe (be w n) = n) (hm : n ≤ most) : tkN w most (be w n ++ ys) = .ok (n, ys) := by
  rw [tkN, if_neg (by rw [List.length_append, be_length]; omega), be_getElem_len, be_drop, h, if_neg (by omega)]

theorem tkA_put (s : ByteArray) (ys : List UInt8) (h : s.size ≤ 1024) : tkA (be 2 s.size ++ s.data.toList ++ ys) = .ok (⟨1, 0, s⟩, ys) := by
  have hl : s.data.toList.length = s.size := by rw [Array.length_toList]; rfl
  rw [List.append_assoc, tkA, tkN_be 2 1024 s.size _ (unBe_be2 _ (by omega)) h]
  simp only
  rw [if_neg (by rw [List.length_append, hl]; omega), List.take_append_of_le_length (by omega), List.take_of_length_le (by omega), List.drop_append_of_le_length (by omega), List.drop_of_length_le (by omega)]
  simp

/-- What a node that may be is like, by its kind. -/
theorem formed_cases {k n : Int} {s : ByteArray} {len : Nat} (h : formedB k n s len = true) :
    (k = 1 ∧ len = 0 ∧ n = 0 ∧ s.size ≤ 1024) ∨ (k = 2 ∧ len = 0 ∧ s = ⟨#[]⟩ ∧ 0 ≤ n ∧ n ≤ 1073741824) ∨ ((k = 3 ∨ k = 4) ∧ len = 1 ∧ n = 0 ∧ s = ⟨#[]⟩) ∨ ((k = 5 ∨ k = 6 ∨ k = 7) ∧ len = 2 ∧ n = 0 ∧ s = ⟨#[]⟩) := by
  have hs : s.toList.isEmpty = true → s = ⟨#[]⟩ := fun e => by
    rw [ByteArray.toList_eq] at e
    cases s with | mk d => simp at e; rw [e]
  unfold formedB at h
  by_cases h1 : k = 1
  · subst h1; simp [kidsOf] at h; exact .inl ⟨rfl, by omega, by omega, by omega⟩
  · by_cases h2 : k = 2
    · subst h2; simp [kidsOf] at h; exact .inr (.inl ⟨rfl, by omega, hs (by simp [h.2.1.1]), h.2.1.2, h.2.2⟩)
    · simp only [h1, h2, if_false, Bool.and_eq_true, decide_eq_true_eq] at h
      obtain ⟨e, e1, e2⟩ := h
      unfold kidsOf at e
      rw [if_neg (by omega)] at e
      by_cases h3 : k = 3 ∨ k = 4
      · rw [if_pos h3] at e; exact .inr (.inr (.inl ⟨h3, by omega, e1, hs e2⟩))
      · rw [if_neg h3] at e
        by_cases h4 : k = 5 ∨ k = 6 ∨ k = 7
        · rw [if_pos h4] at e; exact .inr (.inr (.inr ⟨h4, by omega, e1, hs e2⟩))
        · rw [if_neg h4] at e; omega

theorem mayB_of {a : Nd} {len : Nat} {deep c : Int} (h : mayB a len deep c = true) : c + 1 ≤ 64 ∧ deep ≤ 16 ∧ formedB a.kind a.n a.s len = true := by
  simp only [mayB, Bool.and_eq_true, decide_eq_true_eq] at h; exact h

theorem flen_zero : ∀ {f : Fo}, flen f = 0 → f = .nil
  | .nil, _ => rfl
  | .node .., h => by simp [flen] at h

/-- At the head of a term: if its kids are taken, so is it. -/
theorem tk_head (a : Nd) (l : Fo) (f k k1 : Nat) (ys : List UInt8) (hk : k + 1 ≤ 64) (hf : formedB a.kind a.n a.s (flen l) = true)
    (ih : kidsG (tk f) (flen l) (k + 1) (putF l ++ ys) = .ok (norm l, k1, ys)) : tk (f + 1) k (putT a l ++ ys) = .ok (a, norm l, k1, ys) := by
  have e : putT a l ++ ys = UInt8.ofNat a.kind.toNat :: ((if a.kind = 1 then be 2 a.s.size ++ a.s.data.toList else if a.kind = 2 then be 4 a.n.toNat else []) ++ (putF l ++ ys)) := by
    simp [putT, headB]
  rw [e, tk, if_neg (by omega)]
  simp only [u8_mod]
  obtain ⟨kind, n, s⟩ := a
  rcases formed_cases hf with ⟨h1, h2, h3, h4⟩ | ⟨h1, h2, h3, h4, h5⟩ | ⟨h1, h2, h3, h4⟩ | ⟨h1, h2, h3, h4⟩
  · simp only at h1 h3 h4; subst h1; subst h3
    rw [flen_zero h2] at ih ⊢
    simp [flen, kidsG, putF, norm] at ih
    simp only [if_true, putF, List.nil_append, norm, ← ih]
    show tkH (tk f) 1 (k + 1) _ = _
    rw [tkH, if_pos rfl, tkA_put _ _ h4]
  · simp only at h1 h3 h4 h5; subst h1; subst h3
    rw [flen_zero h2] at ih ⊢
    simp [flen, kidsG, putF, norm] at ih
    simp only [if_true, putF, List.nil_append, norm, ← ih]
    show tkH (tk f) 2 (k + 1) (be 4 n.toNat ++ ys) = _
    rw [tkH, if_neg (by decide), if_pos rfl, tkN_be 4 1073741824 _ _ (unBe_be4 _ (by omega)) (by omega)]
    simp only
    rw [Int.toNat_of_nonneg h4]
  · simp only at h1 h3 h4; subst h3; subst h4
    rw [h2] at ih
    have hm : kind.toNat % 256 = kind.toNat := by omega
    rw [if_neg (show ¬ kind = 1 by omega), if_neg (show ¬ kind = 2 by omega), List.nil_append, hm, tkH, if_neg (by omega), if_neg (by omega), if_pos (by omega), ih]
    simp only [ndK]
    rw [Int.toNat_of_nonneg (by omega)]
  · simp only at h1 h3 h4; subst h3; subst h4
    rw [h2] at ih
    have hm : kind.toNat % 256 = kind.toNat := by omega
    rw [if_neg (show ¬ kind = 1 by omega), if_neg (show ¬ kind = 2 by omega), List.nil_append, hm, tkH, if_neg (by omega), if_neg (by omega), if_neg (by omega), if_pos (by omega), ih]
    simp only [ndK]
    rw [Int.toNat_of_nonneg (by omega)]

/-- What is put is taken. -/
theorem kids_put : ∀ (g : Fo) (f k : Nat) (ys : List UInt8), f ≤ 16 → (mayF g (17 - (f : Int)) k).1 = true →
    kidsG (tk f) (flen g) k (putF g ++ ys) = .ok (norm g, (mayF g (17 - (f : Int)) k).2.toNat, ys)
  | .nil, f, k, ys, _, _ => by simp [flen, kidsG, putF, norm, mayF]
  | .node b o a l r, f, k, ys, hf, h => by
    rw [mayF_node] at h ⊢
    by_cases ht : (mayT a l (17 - (f : Int)) k).1 = true
    · rw [if_pos ht] at h ⊢
      have hB : mayB a (flen l) (17 - (f : Int)) k = true := by
        rw [mayT] at ht
        by_cases hm : mayB a (flen l) (17 - (f : Int)) k = true
        · exact hm
        · rw [if_neg hm] at ht; simp at ht
      obtain ⟨h1, h2, h3⟩ := mayB_of hB
      cases f with
      | zero => omega
      | succ f =>
        have hge := mayT_ge a l (17 - ((f + 1 : Nat) : Int)) k
        have eT : mayT a l (17 - ((f + 1 : Nat) : Int)) k = mayF l (17 - (f : Int)) ((k + 1 : Nat) : Int) := by
          rw [mayT, if_pos hB]; congr 1; omega
        have htl : (mayF l (17 - (f : Int)) ((k + 1 : Nat) : Int)).1 = true := by rw [← eT]; exact ht
        have ihl := kids_put l f (k + 1) (putF r ++ ys) (by omega) htl
        rw [putF_node, List.append_assoc, flen, kidsG, tk_head a l f k _ _ (by omega) h3 ihl]
        simp only
        rw [← eT]
        have ek : (((mayT a l (17 - ((f + 1 : Nat) : Int)) k).2.toNat : Nat) : Int) = (mayT a l (17 - ((f + 1 : Nat) : Int)) k).2 := by omega
        rw [kids_put r (f + 1) _ ys hf (by rw [ek]; exact h), ek]
        simp [norm]
    · rw [if_neg ht] at h; simp at h

theorem tk_put (a : Nd) (l : Fo) (f k : Nat) (ys : List UInt8) (hf : f ≤ 16) (h : (mayT a l (17 - (f : Int)) k).1 = true) :
    tk f k (putT a l ++ ys) = .ok (a, norm l, (mayT a l (17 - (f : Int)) k).2.toNat, ys) := by
  have h' := h
  rw [mayT_node a l _ _ 0 0] at h'
  have e := kids_put _ f k ys hf h'
  rw [putF_node, flen, flen, kidsG] at e
  cases hg : tk f k (putT a l ++ putF .nil ++ ys) with
  | error x => rw [hg] at e; simp at e
  | ok x =>
    rw [hg] at e
    obtain ⟨a1, l1, k1, y1⟩ := x
    simp [kidsG, norm] at e
    obtain ⟨⟨rfl, rfl⟩, rfl, rfl⟩ := e
    simp only [putF, List.append_nil] at hg
    rw [hg, mayT_node a1 l _ _ 0 0]

/-- Cut off it is too short. -/
theorem tkN_cut (w most n : Nat) (j : Nat) (xs : List UInt8) (hj : j < w) : tkN w most ((be w n ++ xs).take j) = .error 1 := by
  rw [tkN, if_pos (by rw [List.length_take]; omega)]

theorem tkA_cut (s : ByteArray) (j : Nat) (h : s.size ≤ 1024) (hj : j < 2 + s.size) : tkA ((be 2 s.size ++ s.data.toList).take j) = .error 1 := by
  have hl : s.data.toList.length = s.size := by rw [Array.length_toList]; rfl
  by_cases h2 : j < 2
  · rw [tkA, tkN_cut _ _ _ _ _ h2]
  · obtain ⟨i, rfl⟩ : ∃ i, j = 2 + i := ⟨j - 2, by omega⟩
    have e : (be 2 s.size ++ s.data.toList).take (2 + i) = be 2 s.size ++ s.data.toList.take i := by
      have := List.take_length_add_append i (l₁ := be 2 s.size) (l₂ := s.data.toList)
      rwa [be_length] at this
    rw [e, tkA, tkN_be 2 1024 s.size _ (unBe_be2 _ (by omega)) h]
    simp only
    rw [if_pos (by rw [List.length_take, hl]; omega)]

end Go.Proofs.YtgmmbfnmojjbkaaGreatDoor

namespace Go.Proofs.YtgmmbfnmojjbkaaGreatDoor
open Go.RowKit
set_option linter.unusedVariables false
set_option linter.unusedSimpArgs false

theorem take_app {α : Type} (x y : List α) (j : Nat) (h : x.length ≤ j) : (x ++ y).take j = x ++ y.take (j - x.length) := by
  rw [List.take_append, List.take_of_length_le h]

/-- Cut off within its own bytes, or within its kids, a term is too short. -/
theorem tk_head_cut (a : Nd) (l : Fo) (f k j : Nat) (hk : k + 1 ≤ 64) (hf : formedB a.kind a.n a.s (flen l) = true) (hj : j < (putT a l).length)
    (ih : ∀ i, i < (putF l).length → kidsG (tk f) (flen l) (k + 1) ((putF l).take i) = .error 1) : tk (f + 1) k ((putT a l).take j) = .error 1 := by
  cases j with
  | zero => simp only [List.take_zero]; rw [tk, if_neg (by omega)]
  | succ j =>
    have e : (putT a l).take (j + 1) = UInt8.ofNat a.kind.toNat :: ((if a.kind = 1 then be 2 a.s.size ++ a.s.data.toList else if a.kind = 2 then be 4 a.n.toNat else []) ++ putF l).take j := by
      simp [putT, headB]
    have ej : (putT a l).length = ((if a.kind = 1 then be 2 a.s.size ++ a.s.data.toList else if a.kind = 2 then be 4 a.n.toNat else []) ++ putF l).length + 1 := by
      simp [putT, headB]
    rw [ej] at hj
    rw [e, tk, if_neg (by omega)]
    simp only [u8_mod]
    obtain ⟨kind, n, s⟩ := a
    have hl : s.data.toList.length = s.size := by rw [Array.length_toList]; rfl
    rcases formed_cases hf with ⟨h1, h2, h3, h4⟩ | ⟨h1, h2, h3, h4, h5⟩ | ⟨h1, h2, h3, h4⟩ | ⟨h1, h2, h3, h4⟩
    · simp only at h1 h3 h4 hj; subst h1; subst h3
      rw [flen_zero h2] at hj ⊢
      simp only [if_true, putF, List.append_nil] at hj ⊢
      rw [List.length_append, be_length, hl] at hj
      show tkH (tk f) 1 (k + 1) _ = _
      rw [tkH, if_pos rfl, tkA_cut _ _ h4 (by omega)]
    · simp only at h1 h3 h4 h5 hj; subst h1; subst h3
      rw [flen_zero h2] at hj ⊢
      simp only [putF, List.append_nil] at hj ⊢
      rw [if_neg (by decide), if_pos trivial, be_length] at hj
      show tkH (tk f) 2 (k + 1) ((be 4 n.toNat).take j) = _
      have := tkN_cut 4 1073741824 n.toNat j [] (by omega)
      rw [List.append_nil] at this
      rw [tkH, if_neg (by decide), if_pos rfl, this]
    · simp only at h1 h3 h4 hj; subst h3; subst h4
      rw [h2] at ih
      have hm : kind.toNat % 256 = kind.toNat := by omega
      rw [if_neg (show ¬ kind = 1 by omega), if_neg (show ¬ kind = 2 by omega), List.nil_append] at hj
      simp only
      rw [if_neg (show ¬ kind = 1 by omega), if_neg (show ¬ kind = 2 by omega), List.nil_append, hm, tkH, if_neg (by omega), if_neg (by omega), if_pos (by omega), ih j (by omega)]
    · simp only at h1 h3 h4 hj; subst h3; subst h4
      rw [h2] at ih
      have hm : kind.toNat % 256 = kind.toNat := by omega
      rw [if_neg (show ¬ kind = 1 by omega), if_neg (show ¬ kind = 2 by omega), List.nil_append] at hj
      simp only
      rw [if_neg (show ¬ kind = 1 by omega), if_neg (show ¬ kind = 2 by omega), List.nil_append, hm, tkH, if_neg (by omega), if_neg (by omega), if_neg (by omega), if_pos (by omega), ih j (by omega)]

theorem kids_cut : ∀ (g : Fo) (f k : Nat) (j : Nat), f ≤ 16 → (mayF g (17 - (f : Int)) k).1 = true → j < (putF g).length → kidsG (tk f) (flen g) k ((putF g).take j) = .error 1
  | .nil, f, k, j, _, _, hj => by simp [putF] at hj
  | .node b o a l r, f, k, j, hf, h, hj => by
    have h0 := h
    rw [mayF_node] at h
    by_cases ht : (mayT a l (17 - (f : Int)) k).1 = true
    · rw [if_pos ht] at h
      have hB : mayB a (flen l) (17 - (f : Int)) k = true := by
        rw [mayT] at ht
        by_cases hm : mayB a (flen l) (17 - (f : Int)) k = true
        · exact hm
        · rw [if_neg hm] at ht; simp at ht
      obtain ⟨h1, h2, h3⟩ := mayB_of hB
      cases f with
      | zero => omega
      | succ f =>
        have hge := mayT_ge a l (17 - ((f + 1 : Nat) : Int)) k
        have eT : mayT a l (17 - ((f + 1 : Nat) : Int)) k = mayF l (17 - (f : Int)) ((k + 1 : Nat) : Int) := by
          rw [mayT, if_pos hB]; congr 1; omega
        have htl : (mayF l (17 - (f : Int)) ((k + 1 : Nat) : Int)).1 = true := by rw [← eT]; exact ht
        rw [putF_node, List.length_append] at hj
        rw [putF_node, flen, kidsG]
        by_cases hjl : j < (putT a l).length
        · rw [List.take_append_of_le_length (by omega), tk_head_cut a l f k j (by omega) h3 hjl (fun i hi => kids_cut l f (k + 1) i (by omega) htl hi)]
        · rw [take_app _ _ _ (by omega), tk_put a l (f + 1) k _ hf ht]
          simp only
          have ek : (((mayT a l (17 - ((f + 1 : Nat) : Int)) k).2.toNat : Nat) : Int) = (mayT a l (17 - ((f + 1 : Nat) : Int)) k).2 := by omega
          rw [kids_cut r (f + 1) _ _ hf (by rw [ek]; exact h) (by omega)]
    · rw [if_neg ht] at h; simp at h

theorem tk_cut (a : Nd) (l : Fo) (j : Nat) (h : may a l = true) (hj : j < (putT a l).length) : tk 16 0 ((putT a l).take j) = .error 1 := by
  have h' := h
  unfold may at h'
  rw [mayT_node a l _ _ 0 0] at h'
  have e := kids_cut (.node 0 0 a l .nil) 16 0 j (by omega) h' (by rw [putF_node]; simpa [putF] using hj)
  rw [putF_node, flen, flen, kidsG] at e
  simp only [putF, List.append_nil] at e
  cases hg : tk 16 0 ((putT a l).take j) with
  | error x => rw [hg] at e; simp at e; rw [e]
  | ok x =>
    rw [hg] at e
    simp [kidsG] at e

theorem tk_all (a : Nd) (l : Fo) (ys : List UInt8) (h : may a l = true) : tk 16 0 (putT a l ++ ys) = .ok (a, norm l, (mayT a l 1 0).2.toNat, ys) := tk_put a l 16 0 ys (by omega) h

/-- What is taken was put. -/
theorem tkN_of {wide most n : Nat} {xs ys : List UInt8} (h : tkN wide most xs = .ok (n, ys)) : wide ≤ xs.length ∧ n = unBe (xs.take wide) ∧ n ≤ most ∧ xs = xs.take wide ++ ys := by
  rw [tkN] at h
  by_cases h1 : xs.length < wide
  · rw [if_pos h1] at h; simp at h
  · rw [if_neg h1] at h
    by_cases h2 : most < unBe (xs.take wide)
    · rw [if_pos h2] at h; simp at h
    · rw [if_neg h2] at h; simp at h
      exact ⟨by omega, h.1.symm, by omega, by rw [← h.2, List.take_append_drop]⟩

theorem be_of2 {xs : List UInt8} (h : 2 ≤ xs.length) : be 2 (unBe (xs.take 2)) = xs.take 2 := by
  match xs, h with
  | x :: y :: t, _ => exact be_unBe2 x y
theorem be_of4 {xs : List UInt8} (h : 4 ≤ xs.length) : be 4 (unBe (xs.take 4)) = xs.take 4 := by
  match xs, h with
  | x :: y :: z :: u :: t, _ => exact be_unBe4 x y z u

theorem tkA_of {xs ys : List UInt8} {a : Nd} (h : tkA xs = .ok (a, ys)) : ∃ s : ByteArray, a = ⟨1, 0, s⟩ ∧ s.size ≤ 1024 ∧ xs = be 2 s.size ++ s.data.toList ++ ys := by
  rw [tkA] at h
  cases hn : tkN 2 1024 xs with
  | error e => rw [hn] at h; simp at h
  | ok x =>
    obtain ⟨n, zs⟩ := x
    rw [hn] at h
    obtain ⟨h1, h2, h3, h4⟩ := tkN_of hn
    simp only at h
    by_cases hl : zs.length < n
    · rw [if_pos hl] at h; simp at h
    · rw [if_neg hl] at h; simp at h
      have hsz : (⟨(zs.take n).toArray⟩ : ByteArray).size = n := by
        show (zs.take n).toArray.size = n
        rw [List.size_toArray, List.length_take]; omega
      refine ⟨_, h.1.symm, by rw [hsz]; exact h3, ?_⟩
      rw [hsz, h2, be_of2 h1, ← h2]
      simp only [List.append_assoc]
      rw [← h.2, List.take_append_drop]; exact h4

theorem u8_back (h : UInt8) : UInt8.ofNat ((h.toNat : Int)).toNat = h := by simp

theorem empB : (⟨#[]⟩ : ByteArray).toList = [] := by rw [ByteArray.toList_eq]

theorem headB_K (x : UInt8) (h1 : x.toNat ≠ 1) (h2 : x.toNat ≠ 2) : headB (ndK x.toNat) = [x] := by
  have e1 : ¬ ((x.toNat : Int) = 1) := by omega
  have e2 : ¬ ((x.toNat : Int) = 2) := by omega
  simp [headB, ndK, e1, e2]

theorem formed_K (h len : Nat) (hh : ((h = 3 ∨ h = 4) ∧ len = 1) ∨ ((h = 5 ∨ h = 6 ∨ h = 7) ∧ len = 2)) : formedB (ndK h).kind (ndK h).n (ndK h).s len = true := by
  rcases hh with ⟨h | h, rfl⟩ | ⟨h | h | h, rfl⟩ <;> (subst h; simp [formedB, ndK, kidsOf, empB])

def TkOk (f : Nat) : Prop := ∀ (k : Nat) (xs : List UInt8) (a : Nd) (l : Fo) (k1 : Nat) (ys : List UInt8), tk f k xs = .ok (a, l, k1, ys) → xs = putT a l ++ ys ∧ mayT a l (17 - (f : Int)) k = (true, (k1 : Int)) ∧ norm l = l

theorem kids_of (f : Nat) (ih : TkOk f) : ∀ (c k : Nat) (xs : List UInt8) (g : Fo) (k1 : Nat) (ys : List UInt8), kidsG (tk f) c k xs = .ok (g, k1, ys) → xs = putF g ++ ys ∧ mayF g (17 - (f : Int)) k = (true, (k1 : Int)) ∧ norm g = g ∧ flen g = c
  | 0, k, xs, g, k1, ys, h => by
    simp [kidsG] at h
    obtain ⟨rfl, rfl, rfl⟩ := h
    exact ⟨rfl, rfl, rfl, rfl⟩
  | c + 1, k, xs, g, k1, ys, h => by
    rw [kidsG] at h
    cases h1 : tk f k xs with
    | error e => rw [h1] at h; simp at h
    | ok x =>
      obtain ⟨a, l, k2, zs⟩ := x
      rw [h1] at h
      simp only at h
      cases h2 : kidsG (tk f) c k2 zs with
      | error e => rw [h2] at h; simp at h
      | ok y =>
        obtain ⟨r, k3, us⟩ := y
        rw [h2] at h
        simp at h
        obtain ⟨rfl, rfl, rfl⟩ := h
        obtain ⟨e1, e2, e3⟩ := ih _ _ _ _ _ _ h1
        obtain ⟨e4, e5, e6, e7⟩ := kids_of f ih c k2 zs r _ _ h2
        refine ⟨by rw [putF_node, List.append_assoc, ← e4, ← e1], ?_, by rw [norm, e3, e6], by rw [flen, e7]⟩
        rw [mayF_node, e2]; simp only [if_true]; exact e5

theorem mayB_mk {a : Nd} {len : Nat} {deep c : Int} (h1 : c + 1 ≤ 64) (h2 : deep ≤ 16) (h3 : formedB a.kind a.n a.s len = true) : mayB a len deep c = true := by
  simp [mayB, h1, h2, h3]

theorem tk_of : ∀ f : Nat, f ≤ 16 → TkOk f
  | 0, _ => by intro k xs a l k1 ys h; simp [tk] at h
  | f + 1, hf => by
    intro k xs a l k1 ys h
    by_cases hk : 64 < k + 1
    · cases xs <;> (rw [tk, if_pos hk] at h; simp at h)
    · have hd : (17 - ((f + 1 : Nat) : Int)) ≤ 16 := by omega
      have hd1 : (17 - ((f + 1 : Nat) : Int)) + 1 = 17 - (f : Int) := by omega
      have hc1 : ((k : Int) + 1) ≤ 64 := by omega
      cases xs with
      | nil => rw [tk, if_neg hk] at h; simp at h
      | cons x zs =>
        rw [tk, if_neg hk] at h
        rw [tkH] at h
        by_cases h1 : x.toNat = 1
        · rw [if_pos h1] at h
          cases hA : tkA zs with
          | error e => rw [hA] at h; simp at h
          | ok y =>
            obtain ⟨b, us⟩ := y
            rw [hA] at h; simp at h
            obtain ⟨rfl, rfl, rfl, rfl⟩ := h
            obtain ⟨s, rfl, hs, e⟩ := tkA_of hA
            have hx : x = UInt8.ofNat 1 := (u8_of x 1 (by omega)).symm
            refine ⟨?_, ?_, rfl⟩
            · simp [putT, headB, putF, e, hx]
            · rw [mayT, if_pos (mayB_mk hc1 hd (by simp [formedB, kidsOf, flen]; omega)), mayF]; simp
        · rw [if_neg h1] at h
          by_cases h2 : x.toNat = 2
          · rw [if_pos h2] at h
            cases hA : tkN 4 1073741824 zs with
            | error e => rw [hA] at h; simp at h
            | ok y =>
              obtain ⟨n, us⟩ := y
              rw [hA] at h; simp at h
              obtain ⟨rfl, rfl, rfl, rfl⟩ := h
              obtain ⟨q1, q2, q3, q4⟩ := tkN_of hA
              have hx : x = UInt8.ofNat 2 := (u8_of x 2 (by omega)).symm
              refine ⟨?_, ?_, rfl⟩
              · have e5 := be_of4 q1
                rw [← q2] at e5
                have : zs = be 4 n ++ us := by rw [e5]; exact q4
                simp [putT, headB, putF, hx]; exact this
              · rw [mayT, if_pos (mayB_mk hc1 hd (by simp [formedB, kidsOf, flen, empB]; omega)), mayF]; simp
          · rw [if_neg h2] at h
            have hx256 := x.toNat_lt
            by_cases h3 : x.toNat = 3 ∨ x.toNat = 4
            · rw [if_pos h3] at h
              cases hA : kidsG (tk f) 1 (k + 1) zs with
              | error e => rw [hA] at h; simp at h
              | ok y =>
                obtain ⟨g, k2, us⟩ := y
                rw [hA] at h; simp at h
                obtain ⟨rfl, rfl, rfl, rfl⟩ := h
                obtain ⟨e1, e2, e3, e4⟩ := kids_of f (tk_of f (by omega)) _ _ _ _ _ _ hA
                refine ⟨?_, ?_, e3⟩
                · rw [putT, headB_K x h1 h2, e1]; rfl
                · rw [mayT, if_pos (mayB_mk hc1 hd ?_), hd1]
                  · exact e2
                  · exact formed_K _ _ (.inl ⟨h3, e4⟩)
            · rw [if_neg h3] at h
              by_cases h4 : x.toNat = 5 ∨ x.toNat = 6 ∨ x.toNat = 7
              · rw [if_pos h4] at h
                cases hA : kidsG (tk f) 2 (k + 1) zs with
                | error e => rw [hA] at h; simp at h
                | ok y =>
                  obtain ⟨g, k2, us⟩ := y
                  rw [hA] at h; simp at h
                  obtain ⟨rfl, rfl, rfl, rfl⟩ := h
                  obtain ⟨e1, e2, e3, e4⟩ := kids_of f (tk_of f (by omega)) _ _ _ _ _ _ hA
                  refine ⟨?_, ?_, e3⟩
                  · rw [putT, headB_K x h1 h2, e1]; rfl
                  · rw [mayT, if_pos (mayB_mk hc1 hd ?_), hd1]
                    · exact e2
                    · exact formed_K _ _ (.inr ⟨h4, e4⟩)
              · rw [if_neg h4] at h; simp at h

theorem tk_only {xs ys : List UInt8} {a : Nd} {l : Fo} {k : Nat} (h : tk 16 0 xs = .ok (a, l, k, ys)) : xs = putT a l ++ ys ∧ may a l = true ∧ norm l = l := by
  obtain ⟨h1, h2, h3⟩ := tk_of 16 (by omega) _ _ _ _ _ _ h
  refine ⟨h1, ?_, h3⟩
  unfold may
  rw [show ((17 : Int) - ((16 : Nat) : Int)) = 1 from rfl, show (((0 : Nat)) : Int) = 0 from rfl] at h2
  rw [h2]

/-- Two terms are the same just where all of them is. -/
theorem ordN_zero {a b : Nd} (h : ordN a b = 0) : a = b := by
  unfold ordN orI at h
  have c0 : ∀ x y : Int, cmpI x y = 0 → x = y := fun x y h => by unfold cmpI at h; split at h; omega; split at h <;> omega
  have s0 : ∀ x y : ByteArray, cmpS x y = 0 → x = y := fun x y h => by
    unfold cmpS at h
    have := bytes_zero _ _ h
    cases x; cases y; congr; exact Array.ext' this
  obtain ⟨k, n, s⟩ := a
  obtain ⟨k', n', s'⟩ := b
  simp only at h
  split at h
  · rename_i h1
    split at h
    · rename_i h2
      rw [c0 _ _ h1, c0 _ _ h2, s0 _ _ h]
    · rename_i h2; exact absurd h h2
  · rename_i h1; exact absurd h h1

theorem ordF_zero : ∀ f g : Fo, ordF f g = 0 → norm f = norm g
  | .nil, .nil, _ => rfl
  | .nil, .node .., h => by simp [ordF] at h
  | .node .., .nil, h => by simp [ordF] at h
  | .node _ _ a l r, .node _ _ b m s, h => by
    rw [ordF] at h
    unfold orI at h
    by_cases h1 : ordN a b = 0
    · rw [if_pos h1] at h
      by_cases h2 : ordF l m = 0
      · rw [if_pos h2] at h
        rw [norm, norm, ordN_zero h1, ordF_zero l m h2, ordF_zero r s h]
      · rw [if_neg h2] at h; exact absurd h h2
    · rw [if_neg h1] at h; exact absurd h h1

theorem ordF_norm : ∀ f g : Fo, norm f = norm g → ordF f g = 0
  | .nil, .nil, _ => rfl
  | .nil, .node .., h => by simp [norm] at h
  | .node .., .nil, h => by simp [norm] at h
  | .node _ _ a l r, .node _ _ b m s, h => by
    simp [norm] at h
    obtain ⟨rfl, h1, h2⟩ := h
    have e : ordN a a = 0 := by have := neg_ordN a a; omega
    rw [ordF, e, ordF_norm l m h1, ordF_norm r s h2]; rfl

theorem ordT_zero {a b : Nd} {l m : Fo} (h : ordT a l b m = 0) : a = b ∧ norm l = norm m := by
  unfold ordT orI at h
  by_cases h1 : ordN a b = 0
  · rw [if_pos h1] at h; exact ⟨ordN_zero h1, ordF_zero _ _ h⟩
  · rw [if_neg h1] at h; exact absurd h h1

theorem ordT_norm (a : Nd) {l m : Fo} (h : norm l = norm m) : ordT a l a m = 0 := by
  have e : ordN a a = 0 := by have := neg_ordN a a; omega
  unfold ordT; rw [e, ordF_norm l m h]; rfl

/-- None's bytes begin another one's. -/
theorem put_front {a b : Nd} {l m : Fo} (ha : may a l = true) (hb : may b m = true) (zs : List UInt8) (h : putT b m = putT a l ++ zs) : ordT a l b m = 0 := by
  have h1 := tk_all a l zs ha
  have h2 := tk_all b m [] hb
  rw [List.append_nil, h, h1] at h2
  simp at h2
  obtain ⟨rfl, h3, _⟩ := h2
  exact ordT_norm a h3

theorem put_same {a b : Nd} {l m : Fo} (h : ordT a l b m = 0) : putT a l = putT b m := by
  obtain ⟨rfl, h1⟩ := ordT_zero h
  unfold putT; rw [← putF_norm l, ← putF_norm m, h1]

theorem put_pos (a : Nd) (l : Fo) : 0 < (putT a l).length := by simp [putT, headB]

end Go.Proofs.YtgmmbfnmojjbkaaGreatDoor

namespace Go.Proofs.YtgmmbfnmojjbkaaGreatDoor
open Go.RowKit
set_option linter.unusedVariables false
set_option linter.unusedSimpArgs false

/-- A number's digits and a blank. -/
def numB (n : Int) : List UInt8 := Lib.itoa n ++ [32]
/-- A node's text, without its kids'. -/
def keyH (a : Nd) : List UInt8 := numB a.kind ++ (if a.kind = 1 then numB (a.s.size : Int) ++ a.s.data.toList else if a.kind = 2 then numB a.n else [])
def keyF : Fo → List UInt8
  | .nil => []
  | .node _ _ a l r => (keyH a ++ keyF l) ++ keyF r
/-- A term's text. -/
def keyT (a : Nd) (l : Fo) : List UInt8 := keyH a ++ keyF l

theorem keyF_node (x y : Nat) (a : Nd) (l r : Fo) : keyF (.node x y a l r) = keyT a l ++ keyF r := rfl

/-- How many of the kids do not come out. -/
def skipOf (k : Int) : Nat := if k = 7 then 0 else if k = 6 then 1 else 3
def dropFo : Nat → Fo → Fo
  | 0, f => f
  | _ + 1, .nil => .nil
  | n + 1, .node _ _ _ _ r => dropFo n r

/-- What is learnt of a row of terms behind the first ones, one behind the other. -/
def learnG : Nat → Fo → List (Nd × Fo) → List (Nd × Fo)
  | _, .nil, L => L
  | n + 1, .node _ _ a l r, L => learnG n r L
  | 0, .node _ _ a l r, L => learnG 0 r (if keyT a l ∈ L.map (fun x => keyT x.1 x.2) then L else learnG (skipOf a.kind) l (L ++ [(a, l)]))
def learnT (a : Nd) (l : Fo) (L : List (Nd × Fo)) : List (Nd × Fo) := if keyT a l ∈ L.map (fun x => keyT x.1 x.2) then L else learnG (skipOf a.kind) l (L ++ [(a, l)])

theorem learnG_node (x y : Nat) (a : Nd) (l r : Fo) (L : List (Nd × Fo)) : learnG 0 (.node x y a l r) L = learnG 0 r (learnT a l L) := by rw [learnG, learnT]
theorem learnG_drop : ∀ (n : Nat) (f : Fo) (L : List (Nd × Fo)), learnG 0 (dropFo n f) L = learnG n f L
  | 0, f, L => rfl
  | n + 1, .nil, L => by simp [dropFo, learnG]
  | n + 1, .node _ _ a l r, L => by rw [dropFo, learnG_drop n r L, learnG]

theorem flen_drop : ∀ (n : Nat) (f : Fo), flen (dropFo n f) = flen f - n
  | 0, f => by simp [dropFo]
  | n + 1, .nil => by simp [dropFo, flen]
  | n + 1, .node _ _ _ _ r => by rw [dropFo, flen_drop n r, flen]; omega

/-- The terms of a list. -/
def tms (ks : List Kd) : List (Nd × Fo) := ks.map fun k => (k.a, k.l)

def nodesF : Fo → Nat
  | .nil => 0
  | .node _ _ _ l r => 1 + nodesF l + nodesF r

/-- What is learnt of a row of terms. -/
def learnL : List Kd → List (Nd × Fo) → List (Nd × Fo)
  | [], L => L
  | k :: r, L => learnL r (learnT k.a k.l L)

theorem learnL_append : ∀ (ks js : List Kd) (L : List (Nd × Fo)), learnL (ks ++ js) L = learnL js (learnL ks L)
  | [], _, _ => rfl
  | k :: r, js, L => learnL_append r js _

def nodesK : List Kd → Nat
  | [] => 0
  | k :: r => 1 + nodesF k.l + nodesK r

theorem nodesK_append : ∀ (ks js : List Kd), nodesK (ks ++ js) = nodesK ks + nodesK js
  | [], _ => by simp [nodesK]
  | k :: r, js => by simp [nodesK, nodesK_append r js]; omega


end Go.Proofs.YtgmmbfnmojjbkaaGreatDoor

namespace Go.Proofs.YtgmmbfnmojjbkaaGreatDoor
open Go.RowKit
set_option linter.unusedVariables false
set_option linter.unusedSimpArgs false

theorem digit_toNat {d : Nat} (h : d < 10) : (UInt8.ofNat (48 + d)).toNat = 48 + d := by simp; omega

/-- Digits are digits. -/
theorem dec_digit (u : Nat) : ∀ c ∈ Lib.decDigits u, 48 ≤ c.toNat ∧ c.toNat ≤ 57 := by
  induction u using Nat.strongRecOn with
  | _ u ih =>
    intro c hc
    rw [Lib.decDigits] at hc
    split at hc
    · rename_i h
      simp only [List.mem_singleton] at hc
      rw [hc, digit_toNat h]; omega
    · rename_i h
      rcases List.mem_append.1 hc with hc | hc
      · exact ih (u / 10) (by omega) c hc
      · simp only [List.mem_singleton] at hc
        rw [hc, digit_toNat (Nat.mod_lt _ (by omega))]; omega

theorem dec_eq (u : Nat) : Lib.decDigits u = if h : u < 10 then [UInt8.ofNat (48 + u)] else Lib.decDigits (u / 10) ++ [UInt8.ofNat (48 + u % 10)] := by rw [Lib.decDigits]

theorem dec_ne (u : Nat) : Lib.decDigits u ≠ [] := by
  intro h
  have := Lib.decDigits_length u
  rw [h] at this
  have := Lib.nDigits_pos u
  simp at *; omega

/-- The number of its digits. -/
theorem dec_inj : ∀ (u v : Nat), Lib.decDigits u = Lib.decDigits v → u = v := by
  intro u
  induction u using Nat.strongRecOn with
  | _ u ih =>
    intro v h
    rw [dec_eq u, dec_eq v] at h
    by_cases hu : u < 10
    · by_cases hv : v < 10
      · rw [dif_pos hu, dif_pos hv] at h
        injection h with h _
        have := congrArg UInt8.toNat h
        rw [digit_toNat hu, digit_toNat hv] at this; omega
      · rw [dif_pos hu, dif_neg hv] at h
        have hl := congrArg List.length h
        have := Lib.decDigits_length (v / 10)
        have := Lib.nDigits_pos (v / 10)
        simp only [List.length_append, List.length_cons, List.length_nil] at hl; omega
    · by_cases hv : v < 10
      · rw [dif_neg hu, dif_pos hv] at h
        have hl := congrArg List.length h
        have := Lib.decDigits_length (u / 10)
        have := Lib.nDigits_pos (u / 10)
        simp only [List.length_append, List.length_cons, List.length_nil] at hl; omega
      · rw [dif_neg hu, dif_neg hv] at h
        obtain ⟨h1, h2⟩ := List.append_inj' h rfl
        have h3 := ih (u / 10) (by omega) (v / 10) h1
        injection h2 with h2 _
        have := congrArg UInt8.toNat h2
        rw [digit_toNat (Nat.mod_lt _ (by omega)), digit_toNat (Nat.mod_lt _ (by omega))] at this; omega

/-- Up to a sign that none of either has. -/
theorem cut_at {c : UInt8} : ∀ (p q : List UInt8) (xs ys : List UInt8), (∀ x ∈ p, x ≠ c) → (∀ x ∈ q, x ≠ c) → p ++ c :: xs = q ++ c :: ys → p = q ∧ xs = ys
  | [], [], xs, ys, _, _, h => by injection h with _ h; exact ⟨rfl, h⟩
  | [], y :: q, xs, ys, _, hq, h => by injection h with h _; exact absurd h.symm (hq y (by simp))
  | x :: p, [], xs, ys, hp, _, h => by injection h with h _; exact absurd h (hp x (by simp))
  | x :: p, y :: q, xs, ys, hp, hq, h => by
    injection h with h1 h2
    obtain ⟨h3, h4⟩ := cut_at p q xs ys (fun z hz => hp z (by simp [hz])) (fun z hz => hq z (by simp [hz])) h2
    exact ⟨by rw [h1, h3], h4⟩

theorem num_inj {n m : Int} (hn : 0 ≤ n) (hm : 0 ≤ m) (xs ys : List UInt8) (h : numB n ++ xs = numB m ++ ys) : n = m ∧ xs = ys := by
  obtain ⟨u, rfl⟩ := Int.eq_ofNat_of_zero_le hn
  obtain ⟨v, rfl⟩ := Int.eq_ofNat_of_zero_le hm
  unfold numB at h
  have e : ∀ k : Nat, Lib.itoa (k : Int) = Lib.decDigits k := fun k => by unfold Lib.itoa; rw [if_neg (by omega)]; simp
  rw [e, e, List.append_assoc, List.append_assoc] at h
  have nb : ∀ k : Nat, ∀ x ∈ Lib.decDigits k, x ≠ 32 := fun k x hx e => by
    have := dec_digit k x hx
    rw [e] at this; exact absurd this.1 (by decide)
  obtain ⟨h1, h2⟩ := cut_at _ _ xs ys (nb u) (nb v) h
  exact ⟨by rw [dec_inj u v h1], h2⟩

theorem keyH_inj {a b : Nd} {p q : Nat} (ha : formedB a.kind a.n a.s p = true) (hb : formedB b.kind b.n b.s q = true) (xs ys : List UInt8) (h : keyH a ++ xs = keyH b ++ ys) : a = b ∧ p = q ∧ xs = ys := by
  obtain ⟨k, n, s⟩ := a
  obtain ⟨k', n', s'⟩ := b
  unfold keyH at h
  rw [List.append_assoc, List.append_assoc] at h
  have p1 : 0 ≤ k ∧ 0 ≤ n := by
    rcases formed_cases ha with ⟨h1, h2, h3, h4⟩ | ⟨h1, h2, h3, h4, h5⟩ | ⟨h1, h2, h3, h4⟩ | ⟨h1, h2, h3, h4⟩ <;> simp only at h1 h2 h3 h4 <;> omega
  have p2 : 0 ≤ k' ∧ 0 ≤ n' := by
    rcases formed_cases hb with ⟨h1, h2, h3, h4⟩ | ⟨h1, h2, h3, h4, h5⟩ | ⟨h1, h2, h3, h4⟩ | ⟨h1, h2, h3, h4⟩ <;> simp only at h1 h2 h3 h4 <;> omega
  obtain ⟨hk, h⟩ := num_inj (by exact p1.1) (by exact p2.1) _ _ h
  simp only at hk
  subst hk
  simp only at h
  rcases formed_cases ha with ⟨h1, h2, h3, h4⟩ | ⟨h1, h2, h3, h4, h5⟩ | ⟨h1, h2, h3, h4⟩ | ⟨h1, h2, h3, h4⟩
  · simp only at h1 h3 h4; subst h1; subst h3
    rcases formed_cases hb with ⟨g1, g2, g3, g4⟩ | ⟨g1, g2, g3, g4, g5⟩ | ⟨g1, g2, g3, g4⟩ | ⟨g1, g2, g3, g4⟩ <;> simp only at g1 g3 g4 <;> try omega
    subst g3
    rw [if_pos rfl, if_pos rfl, List.append_assoc, List.append_assoc] at h
    obtain ⟨hs, h⟩ := num_inj (by omega) (by omega) _ _ h
    have hl : s.data.toList.length = s'.data.toList.length := by rw [Array.length_toList, Array.length_toList]; exact Int.ofNat.inj hs
    obtain ⟨e1, e2⟩ := List.append_inj h hl
    exact ⟨by congr 1; exact ByteArray.ext (Array.toList_inj.1 e1), by omega, e2⟩
  · simp only at h1 h3 h4 h5; subst h1; subst h3
    rcases formed_cases hb with ⟨g1, g2, g3, g4⟩ | ⟨g1, g2, g3, g4, g5⟩ | ⟨g1, g2, g3, g4⟩ | ⟨g1, g2, g3, g4⟩ <;> simp only at g1 g3 g4 <;> try omega
    subst g3
    rw [if_neg (by decide), if_pos rfl, if_neg (by decide), if_pos rfl] at h
    obtain ⟨hs, h⟩ := num_inj (by omega) (by omega) _ _ h
    exact ⟨by rw [hs], by omega, h⟩
  · simp only at h1 h3 h4; subst h3; subst h4
    rcases formed_cases hb with ⟨g1, g2, g3, g4⟩ | ⟨g1, g2, g3, g4, g5⟩ | ⟨g1, g2, g3, g4⟩ | ⟨g1, g2, g3, g4⟩ <;> simp only at g1 g3 g4 <;> try omega
    subst g3; subst g4
    rw [if_neg (by omega), if_neg (by omega)] at h
    exact ⟨rfl, by omega, by simpa using h⟩
  · simp only at h1 h3 h4; subst h3; subst h4
    rcases formed_cases hb with ⟨g1, g2, g3, g4⟩ | ⟨g1, g2, g3, g4, g5⟩ | ⟨g1, g2, g3, g4⟩ | ⟨g1, g2, g3, g4⟩ <;> simp only at g1 g3 g4 <;> try omega
    subst g3; subst g4
    rw [if_neg (by omega), if_neg (by omega)] at h
    exact ⟨rfl, by omega, by simpa using h⟩

/-- Each node is formed. -/
def FormF : Fo → Prop
  | .nil => True
  | .node _ _ a l r => formedB a.kind a.n a.s (flen l) = true ∧ FormF l ∧ FormF r

theorem formF_of : ∀ (f : Fo) (d c : Int), (mayF f d c).1 = true → FormF f
  | .nil, _, _, _ => trivial
  | .node x y a l r, d, c, h => by
    rw [mayF] at h
    by_cases hm : mayB a (flen l) d c = true
    · rw [if_pos hm] at h
      by_cases hl : (mayF l (d + 1) (c + 1)).1 = true
      · rw [if_pos hl] at h
        exact ⟨(mayB_of hm).2.2, formF_of l _ _ hl, formF_of r _ _ h⟩
      · rw [if_neg hl] at h; simp at h
    · rw [if_neg hm] at h; simp at h

theorem may_form {a : Nd} {l : Fo} (h : may a l = true) : formedB a.kind a.n a.s (flen l) = true ∧ FormF l := by
  unfold may at h
  rw [mayT_node a l 1 0 0 0] at h
  have := formF_of _ _ _ h
  exact ⟨this.1, this.2.1⟩

theorem keyF_inj : ∀ (f g : Fo) (xs ys : List UInt8), FormF f → FormF g → flen f = flen g → keyF f ++ xs = keyF g ++ ys → norm f = norm g ∧ xs = ys
  | .nil, .nil, _, _, _, _, _, h => ⟨rfl, by simpa [keyF] using h⟩
  | .nil, .node .., _, _, _, _, hl, _ => by simp [flen] at hl
  | .node .., .nil, _, _, _, _, hl, _ => by simp [flen] at hl
  | .node _ _ a l r, .node _ _ b m s, xs, ys, ⟨f1, f2, f3⟩, ⟨g1, g2, g3⟩, hl, h => by
    simp only [flen] at hl
    rw [keyF, keyF, List.append_assoc, List.append_assoc, List.append_assoc, List.append_assoc] at h
    obtain ⟨e1, e2, h⟩ := keyH_inj f1 g1 _ _ h
    obtain ⟨e3, h⟩ := keyF_inj l m _ _ f2 g2 e2 h
    obtain ⟨e4, h⟩ := keyF_inj r s _ _ f3 g3 (by omega) h
    exact ⟨by rw [norm, norm, e1, e3, e4], h⟩

theorem keyF_norm : ∀ f : Fo, keyF (norm f) = keyF f
  | .nil => rfl
  | .node _ _ a l r => by rw [norm, keyF, keyF, keyF_norm l, keyF_norm r]

/-- Two terms' texts are the same just where the terms are. -/
theorem key_iff {a b : Nd} {l m : Fo} (ha : may a l = true) (hb : may b m = true) : keyT a l = keyT b m ↔ ordT a l b m = 0 := by
  obtain ⟨a1, a2⟩ := may_form ha
  obtain ⟨b1, b2⟩ := may_form hb
  constructor
  · intro h
    unfold keyT at h
    obtain ⟨e1, e2, h⟩ := keyH_inj a1 b1 _ _ h
    have h' : keyF l ++ [] = keyF m ++ [] := by simpa using h
    obtain ⟨e3, _⟩ := keyF_inj l m _ _ a2 b2 e2 h'
    subst e1
    exact ordT_norm a e3
  · intro h
    obtain ⟨e1, e2⟩ := ordT_zero h
    unfold keyT
    rw [e1, ← keyF_norm l, e2, keyF_norm m]

end Go.Proofs.YtgmmbfnmojjbkaaGreatDoor

namespace Go.Proofs.YtgmmbfnmojjbkaaGreatDoor
open Go.RowKit
set_option linter.unusedVariables false
set_option linter.unusedSimpArgs false

/-- What is a term so deep, and behind so many, is one less deep, and behind fewer. -/
theorem mayF_mono : ∀ (f : Fo) (d d' c c' : Int), d' ≤ d → c' ≤ c → (mayF f d c).1 = true → (mayF f d' c').1 = true ∧ (mayF f d' c').2 - c' = (mayF f d c).2 - c
  | .nil, d, d', c, c', _, _, _ => by simp [mayF]
  | .node x y a l r, d, d', c, c', hd, hc, h => by
    rw [mayF] at h ⊢
    rw [mayF]
    by_cases hm : mayB a (flen l) d c = true
    · have hm' : mayB a (flen l) d' c' = true := by
        obtain ⟨h1, h2, h3⟩ := mayB_of hm
        unfold mayB at hm ⊢
        simp only [Bool.and_eq_true, decide_eq_true_eq] at hm ⊢
        exact ⟨by omega, by omega, h3⟩
      rw [if_pos hm] at h ⊢
      rw [if_pos hm']
      by_cases hl : (mayF l (d + 1) (c + 1)).1 = true
      · obtain ⟨q1, q2⟩ := mayF_mono l (d + 1) (d' + 1) (c + 1) (c' + 1) (by omega) (by omega) hl
        rw [if_pos hl] at h ⊢
        rw [if_pos q1]
        obtain ⟨r1, r2⟩ := mayF_mono r d d' _ (mayF l (d' + 1) (c' + 1)).2 hd (by omega) h
        exact ⟨r1, by omega⟩
      · rw [if_neg hl] at h; simp at h
    · rw [if_neg hm] at h; simp at h

/-- All terms within may be. -/
def AMay : Fo → Prop
  | .nil => True
  | .node _ _ a l r => may a l = true ∧ AMay l ∧ AMay r

theorem amay_of : ∀ (f : Fo) (d c : Int), 1 ≤ d → 0 ≤ c → (mayF f d c).1 = true → AMay f
  | .nil, _, _, _, _, _ => trivial
  | .node x y a l r, d, c, hd, hc, h => by
    rw [mayF] at h
    by_cases hm : mayB a (flen l) d c = true
    · rw [if_pos hm] at h
      by_cases hl : (mayF l (d + 1) (c + 1)).1 = true
      · rw [if_pos hl] at h
        have hone : (mayF (.node 0 0 a l .nil) d c).1 = true := by rw [mayF, if_pos hm, if_pos hl]; rfl
        have hmay : may a l = true := by
          have := (mayF_mono (.node 0 0 a l .nil) d 1 c 0 hd hc hone).1
          unfold may
          rw [mayT_node a l 1 0 0 0]; exact this
        have hge := mayF_ge l (d + 1) (c + 1)
        exact ⟨hmay, amay_of l (d + 1) (c + 1) (by omega) (by omega) hl, amay_of r d _ hd (by omega) h⟩
      · rw [if_neg hl] at h; simp at h
    · rw [if_neg hm] at h; simp at h

theorem may_amay {a : Nd} {l : Fo} (h : may a l = true) : AMay l := by
  unfold may at h
  rw [mayT_node a l 1 0 0 0] at h
  exact (amay_of _ 1 0 (by omega) (by omega) h).2.1

/-- A term, places forgotten. -/
def nm (t : Nd × Fo) : Nd × Fo := (t.1, norm t.2)
def kidL : Fo → List (Nd × Fo)
  | .nil => []
  | .node _ _ a l r => (a, l) :: kidL r
/-- What comes out of a term by itself. -/
def outs (t : Nd × Fo) : List (Nd × Fo) := (kidL t.2).drop (skipOf t.1.kind)
def InL (L : List (Nd × Fo)) (t : Nd × Fo) : Prop := ∃ x ∈ L, nm x = t
def Shut (P : Nd × Fo → Prop) : Prop := ∀ t u, P t → u ∈ outs t → P u
/-- What follows from some. -/
def Fol (X : Nd × Fo → Prop) (t : Nd × Fo) : Prop := ∀ P : Nd × Fo → Prop, Shut P → (∀ t, X t → P t) → P t

theorem kidL_length : ∀ f : Fo, (kidL f).length = flen f
  | .nil => rfl
  | .node _ _ a l r => by simp [kidL, flen, kidL_length r]
theorem kidL_norm : ∀ f : Fo, kidL (norm f) = (kidL f).map nm
  | .nil => rfl
  | .node _ _ a l r => by rw [norm, kidL, kidL, kidL_norm r]; rfl
theorem outs_nm (t : Nd × Fo) : outs (nm t) = (outs t).map nm := by
  unfold outs
  rw [show (nm t).2 = norm t.2 from rfl, kidL_norm, List.map_drop]; rfl
theorem nm_nm (t : Nd × Fo) : nm (nm t) = nm t := by unfold nm; rw [norm_norm]
theorem nm_iff {a b : Nd} {l m : Fo} : nm (a, l) = nm (b, m) ↔ ordT a l b m = 0 := by
  constructor
  · intro h
    unfold nm at h
    injection h with h1 h2
    simp only at h1 h2
    subst h1
    exact ordT_norm a h2
  · intro h
    obtain ⟨h1, h2⟩ := ordT_zero h
    unfold nm
    rw [h1, h2]
theorem may_nm (t : Nd × Fo) : may (nm t).1 (nm t).2 = may t.1 t.2 := by unfold may nm; rw [mayT_norm]
theorem amay_mem : ∀ {f : Fo}, AMay f → ∀ u ∈ kidL f, may u.1 u.2 = true
  | .nil, _, u, hu => by simp [kidL] at hu
  | .node _ _ a l r, h, u, hu => by
    rw [kidL] at hu
    rcases List.mem_cons.1 hu with rfl | hu
    · exact h.1
    · exact amay_mem h.2.2 u hu
theorem outs_may {t : Nd × Fo} (h : may t.1 t.2 = true) : ∀ u ∈ outs t, may u.1 u.2 = true := fun u hu => amay_mem (may_amay h) u (List.mem_of_mem_drop hu)

theorem key_in {L : List (Nd × Fo)} {a : Nd} {l : Fo} (hL : ∀ x ∈ L, may x.1 x.2 = true) (h : may a l = true) : keyT a l ∈ L.map (fun x => keyT x.1 x.2) ↔ InL L (nm (a, l)) := by
  rw [List.mem_map]
  constructor
  · rintro ⟨x, hx, e⟩
    exact ⟨x, hx, nm_iff.2 ((key_iff (hL x hx) h).1 e)⟩
  · rintro ⟨x, hx, e⟩
    exact ⟨x, hx, (key_iff (hL x hx) h).2 (nm_iff.1 e)⟩

/-- What became of L when us were learnt. -/
structure LSpec (us L L' : List (Nd × Fo)) : Prop where
  sub : ∀ x ∈ L, x ∈ L'
  has : ∀ u ∈ us, InL L' (nm u)
  shut : ∀ x ∈ L', x ∈ L ∨ ∀ u ∈ outs x, InL L' (nm u)
  may : ∀ x ∈ L', may x.1 x.2 = true
  fol : ∀ P : Nd × Fo → Prop, Shut P → (∀ u ∈ us, P (nm u)) → (∀ x ∈ L, P (nm x)) → ∀ x ∈ L', P (nm x)
  nod : (L.map nm).Nodup → (L'.map nm).Nodup

theorem InL.mono {L L' : List (Nd × Fo)} (h : ∀ x ∈ L, x ∈ L') {t : Nd × Fo} : InL L t → InL L' t := fun ⟨x, hx, e⟩ => ⟨x, h x hx, e⟩

theorem LSpec.refl {L : List (Nd × Fo)} (h : ∀ x ∈ L, Go.Proofs.YtgmmbfnmojjbkaaGreatDoor.may x.1 x.2 = true) : LSpec [] L L :=
  ⟨fun x hx => hx, fun u hu => (by cases hu), fun x hx => .inl hx, h, fun P _ _ hx => hx, fun h => h⟩

theorem LSpec.trans {us vs L L' L'' : List (Nd × Fo)} (h : LSpec us L L') (k : LSpec vs L' L'') : LSpec (us ++ vs) L L'' := by
  refine ⟨fun x hx => k.sub x (h.sub x hx), fun u hu => ?_, fun x hx => ?_, k.may, fun P hP hu hx => k.fol P hP (fun u hv => hu u (List.mem_append.2 (.inr hv))) (h.fol P hP (fun u hv => hu u (List.mem_append.2 (.inl hv))) hx), fun hn => k.nod (h.nod hn)⟩
  · rcases List.mem_append.1 hu with hu | hu
    · exact (h.has u hu).mono k.sub
    · exact k.has u hu
  · rcases k.shut x hx with hx | hx
    · rcases h.shut x hx with hx | hx
      · exact .inl hx
      · exact .inr fun u hu => (hx u hu).mono k.sub
    · exact .inr hx

theorem learnT_spec (a : Nd) (l : Fo) (L : List (Nd × Fo)) (ha : may a l = true) (hL : ∀ x ∈ L, may x.1 x.2 = true) (ih : ∀ (n : Nat) (L : List (Nd × Fo)), (∀ x ∈ L, may x.1 x.2 = true) → LSpec ((kidL l).drop n) L (learnG n l L)) : LSpec [(a, l)] L (learnT a l L) := by
  unfold learnT
  by_cases hin : keyT a l ∈ L.map (fun x => keyT x.1 x.2)
  · rw [if_pos hin]
    refine ⟨fun x hx => hx, fun u hu => ?_, fun x hx => .inl hx, hL, fun P _ _ hx => hx, fun h => h⟩
    simp only [List.mem_singleton] at hu
    rw [hu]; exact (key_in hL ha).1 hin
  · rw [if_neg hin]
    have hL1 : ∀ x ∈ L ++ [(a, l)], may x.1 x.2 = true := fun x hx => by
      rcases List.mem_append.1 hx with hx | hx
      · exact hL x hx
      · simp only [List.mem_singleton] at hx; rw [hx]; exact ha
    have h := ih (skipOf a.kind) (L ++ [(a, l)]) hL1
    refine ⟨fun x hx => h.sub x (by simp [hx]), fun u hu => ?_, fun x hx => ?_, h.may, fun P hP hu hx => ?_, fun hn => h.nod ?_⟩
    · simp only [List.mem_singleton] at hu
      rw [hu]; exact ⟨(a, l), h.sub _ (by simp), rfl⟩
    · rcases h.shut x hx with hx | hx
      · rcases List.mem_append.1 hx with hx | hx
        · exact .inl hx
        · simp only [List.mem_singleton] at hx
          rw [hx]; exact .inr h.has
      · exact .inr hx
    · have hp : P (nm (a, l)) := hu _ (by simp)
      refine h.fol P hP (fun u hv => hP _ _ hp ?_) (fun x hx' => ?_)
      · rw [outs_nm]; exact List.mem_map_of_mem hv
      · rcases List.mem_append.1 hx' with h1 | h1
        · exact hx x h1
        · simp only [List.mem_singleton] at h1; rw [h1]; exact hp
    · rw [List.map_append, List.nodup_append]
      refine ⟨hn, by simp, fun x hx y hy e => ?_⟩
      simp only [List.map_cons, List.map_nil, List.mem_singleton] at hy
      rw [List.mem_map] at hx
      obtain ⟨z, hz, hz2⟩ := hx
      exact hin ((key_in hL ha).2 ⟨z, hz, by rw [hz2, e, hy]⟩)

theorem learnG_spec : ∀ (f : Fo) (n : Nat) (L : List (Nd × Fo)), AMay f → (∀ x ∈ L, may x.1 x.2 = true) → LSpec ((kidL f).drop n) L (learnG n f L)
  | .nil, n, L, _, hL => by
    have : (kidL .nil).drop n = [] := by simp [kidL]
    rw [this]
    cases n <;> exact LSpec.refl hL
  | .node x y a l r, n + 1, L, h, hL => by
    rw [kidL, List.drop_succ_cons, learnG]
    exact learnG_spec r n L h.2.2 hL
  | .node x y a l r, 0, L, h, hL => by
    rw [learnG_node]
    have h1 := learnT_spec a l L h.1 hL (fun n L hL => learnG_spec l n L h.2.1 hL)
    exact h1.trans (learnG_spec r 0 _ h.2.2 h1.may)

theorem learnL_spec : ∀ (ks : List Kd) (L : List (Nd × Fo)), (∀ k ∈ ks, may k.a k.l = true) → (∀ x ∈ L, may x.1 x.2 = true) → LSpec (tms ks) L (learnL ks L)
  | [], L, _, hL => LSpec.refl hL
  | k :: r, L, hk, hL => by
    have h1 := learnT_spec k.a k.l L (hk k (by simp)) hL (fun n L hL => learnG_spec k.l n L (may_amay (hk k (by simp))) hL)
    exact h1.trans (learnL_spec r _ (fun j hj => hk j (by simp [hj])) h1.may)

/-- L is all that follows from us. -/
def Clos (us L : List (Nd × Fo)) : Prop := ∀ t, InL L t ↔ Fol (InL us) t

theorem LSpec.clos {us L : List (Nd × Fo)} (h : LSpec us [] L) : Clos us L := by
  intro t
  constructor
  · rintro ⟨x, hx, rfl⟩ P hP hu
    exact h.fol P hP (fun u hu' => hu _ ⟨u, hu', rfl⟩) (fun x hx => by cases hx) x hx
  · intro hf
    refine hf (InL L) ?_ ?_
    · rintro t u ⟨x, hx, rfl⟩ hu
      rw [outs_nm, List.mem_map] at hu
      obtain ⟨v, hv, rfl⟩ := hu
      rcases h.shut x hx with hx | hx
      · cases hx
      · exact hx v hv
    · rintro t ⟨u, hu, rfl⟩
      exact h.has u hu

/-- Some done, some yet to do. -/
structure QSpec (us out todo : List (Nd × Fo)) : Prop where
  has : ∀ u ∈ us, InL out (nm u) ∨ InL todo (nm u)
  shut : ∀ x ∈ out, ∀ u ∈ outs x, InL out (nm u) ∨ InL todo (nm u)
  fol : ∀ P : Nd × Fo → Prop, Shut P → (∀ u ∈ us, P (nm u)) → (∀ x ∈ out, P (nm x)) ∧ (∀ x ∈ todo, P (nm x))

theorem QSpec.init (us : List (Nd × Fo)) : QSpec us [] us := ⟨fun u hu => .inr ⟨u, hu, rfl⟩, fun x hx => (by cases hx), fun P _ hu => ⟨fun x hx => (by cases hx), hu⟩⟩
theorem QSpec.old {us out todo : List (Nd × Fo)} {t : Nd × Fo} (h : QSpec us out (t :: todo)) (ht : InL out (nm t)) : QSpec us out todo := by
  have hc : ∀ {v}, InL out v ∨ InL (t :: todo) v → InL out v ∨ InL todo v := by
    rintro v (h | ⟨x, hx, e⟩)
    · exact .inl h
    · rcases List.mem_cons.1 hx with rfl | hx
      · rw [← e]; exact .inl ht
      · exact .inr ⟨x, hx, e⟩
  exact ⟨fun u hu => hc (h.has u hu), fun x hx u hu => hc (h.shut x hx u hu), fun P hP hu => ⟨(h.fol P hP hu).1, fun x hx => (h.fol P hP hu).2 x (by simp [hx])⟩⟩
theorem QSpec.new {us out out' todo : List (Nd × Fo)} {t : Nd × Fo} (h : QSpec us out (t :: todo)) (h1 : ∀ x ∈ out', x = t ∨ x ∈ out) (h2 : ∀ x ∈ out, x ∈ out') (h3 : InL out' (nm t)) : QSpec us out' (todo ++ outs t) := by
  have hc : ∀ {v}, InL out v ∨ InL (t :: todo) v → InL out' v ∨ InL (todo ++ outs t) v := by
    rintro v (h | ⟨x, hx, e⟩)
    · exact .inl (h.mono h2)
    · rcases List.mem_cons.1 hx with rfl | hx
      · rw [← e]; exact .inl h3
      · exact .inr ⟨x, by simp [hx], e⟩
  refine ⟨fun u hu => hc (h.has u hu), fun x hx u hu => ?_, fun P hP hu => ?_⟩
  · rcases h1 x hx with rfl | hx
    · exact .inr ⟨u, by simp [hu], rfl⟩
    · exact hc (h.shut x hx u hu)
  · obtain ⟨f1, f2⟩ := h.fol P hP hu
    have ht := f2 t (by simp)
    refine ⟨fun x hx => ?_, fun x hx => ?_⟩
    · rcases h1 x hx with rfl | hx
      · exact ht
      · exact f1 x hx
    · rcases List.mem_append.1 hx with hx | hx
      · exact f2 x (by simp [hx])
      · exact hP _ _ ht (by rw [outs_nm]; exact List.mem_map_of_mem hx)
theorem QSpec.clos {us L : List (Nd × Fo)} (h : QSpec us L []) : Clos us L := by
  have hc : ∀ {v}, InL L v ∨ InL [] v → InL L v := by
    rintro v (h | ⟨x, hx, e⟩)
    · exact h
    · cases hx
  intro t
  constructor
  · rintro ⟨x, hx, rfl⟩ P hP hu
    exact (h.fol P hP (fun u hu' => hu _ ⟨u, hu', rfl⟩)).1 x hx
  · intro hf
    refine hf (InL L) ?_ ?_
    · rintro t u ⟨x, hx, rfl⟩ hu
      rw [outs_nm, List.mem_map] at hu
      obtain ⟨v, hv, rfl⟩ := hu
      exact hc (h.shut x hx v hv)
    · rintro t ⟨u, hu, rfl⟩
      exact hc (h.has u hu)

/-- No more that are unlike than there are. -/
theorem nodup_len : ∀ (L ks : List (Nd × Fo)), (L.map nm).Nodup → (∀ x ∈ L, InL ks (nm x)) → L.length ≤ ks.length
  | [], _, _, _ => by simp
  | x :: L, ks, hn, hs => by
    obtain ⟨y, hy, e⟩ := hs x (by simp)
    obtain ⟨s, t, rfl⟩ := List.append_of_mem hy
    rw [List.map_cons, List.nodup_cons] at hn
    have := nodup_len L (s ++ t) hn.2 (fun z hz => by
      obtain ⟨v, hv, e2⟩ := hs z (by simp [hz])
      rcases List.mem_append.1 hv with hv | hv
      · exact ⟨v, by simp [hv], e2⟩
      · rcases List.mem_cons.1 hv with rfl | hv
        · exact absurd (by rw [← e, e2]; exact List.mem_map_of_mem hz) hn.1
        · exact ⟨v, by simp [hv], e2⟩)
    simp at this ⊢; omega

end Go.Proofs.YtgmmbfnmojjbkaaGreatDoor

namespace Go.Proofs.YtgmmbfnmojjbkaaGreatDoor
open Go.RowKit
set_option linter.unusedVariables false
set_option linter.unusedSimpArgs false

/-- Whether all of a row can be made, of those that p tells. -/
def canF (p : Nd → Fo → Bool) : Fo → Bool
  | .nil => true
  | .node _ _ a l r => (a.kind == 1 || p a l || (!(a.kind == 2) && canF p l)) && canF p r
def canT (p : Nd → Fo → Bool) (a : Nd) (l : Fo) : Bool := a.kind == 1 || p a l || (!(a.kind == 2) && canF p l)
theorem canF_node (p : Nd → Fo → Bool) (x y : Nat) (a : Nd) (l r : Fo) : canF p (.node x y a l r) = (canT p a l && canF p r) := by rw [canF, canT]
/-- The same, said of what holds. -/
def CanF (X : Nd × Fo → Prop) : Fo → Prop
  | .nil => True
  | .node _ _ a l r => (a.kind = 1 ∨ X (nm (a, l)) ∨ (a.kind ≠ 2 ∧ CanF X l)) ∧ CanF X r
def CanT (X : Nd × Fo → Prop) (a : Nd) (l : Fo) : Prop := a.kind = 1 ∨ X (nm (a, l)) ∨ (a.kind ≠ 2 ∧ CanF X l)

theorem CanF_node (X : Nd × Fo → Prop) (x y : Nat) (a : Nd) (l r : Fo) : CanF X (.node x y a l r) ↔ CanT X a l ∧ CanF X r := by rw [CanF, CanT]

theorem canF_iff {p : Nd → Fo → Bool} {X : Nd × Fo → Prop} (h : ∀ a l, may a l = true → (p a l = true ↔ X (nm (a, l)))) : ∀ f : Fo, AMay f → (canF p f = true ↔ CanF X f)
  | .nil, _ => by simp [canF, CanF]
  | .node _ _ a l r, hm => by
    rw [canF, CanF, Bool.and_eq_true, canF_iff h r hm.2.2, Bool.or_eq_true, Bool.or_eq_true, Bool.and_eq_true, h a l hm.1, canF_iff h l hm.2.1]
    simp only [beq_iff_eq, Bool.not_eq_true', beq_eq_false_iff_ne, ne_eq, or_assoc]
theorem canT_iff {p : Nd → Fo → Bool} {X : Nd × Fo → Prop} (h : ∀ a l, may a l = true → (p a l = true ↔ X (nm (a, l)))) {a : Nd} {l : Fo} (hm : may a l = true) : canT p a l = true ↔ CanT X a l := by
  rw [canT, CanT, Bool.or_eq_true, Bool.or_eq_true, Bool.and_eq_true, h a l hm, canF_iff h l (may_amay hm)]
  simp only [beq_iff_eq, Bool.not_eq_true', beq_eq_false_iff_ne, ne_eq, or_assoc]

theorem CanF.mono {X Y : Nd × Fo → Prop} (h : ∀ t, X t → Y t) : ∀ f : Fo, CanF X f → CanF Y f
  | .nil, _ => trivial
  | .node _ _ a l r, hc => by
    rw [CanF] at hc ⊢
    refine ⟨?_, CanF.mono h r hc.2⟩
    rcases hc.1 with h1 | h1 | h1
    · exact .inl h1
    · exact .inr (.inl (h _ h1))
    · exact .inr (.inr ⟨h1.1, CanF.mono h l h1.2⟩)
theorem CanT.mono {X Y : Nd × Fo → Prop} (h : ∀ t, X t → Y t) {a : Nd} {l : Fo} (hc : CanT X a l) : CanT Y a l := by
  rcases hc with h1 | h1 | h1
  · exact .inl h1
  · exact .inr (.inl (h _ h1))
  · exact .inr (.inr ⟨h1.1, CanF.mono h l h1.2⟩)

theorem CanF.norm (X : Nd × Fo → Prop) : ∀ f : Fo, CanF X (norm f) ↔ CanF X f
  | .nil => Iff.rfl
  | .node _ _ a l r => by
    rw [Go.Proofs.YtgmmbfnmojjbkaaGreatDoor.norm, CanF, CanF, CanF.norm X l, CanF.norm X r]
    have : nm (a, Go.Proofs.YtgmmbfnmojjbkaaGreatDoor.norm l) = nm (a, l) := nm_nm (a, l)
    rw [this]
theorem CanT.nm (X : Nd × Fo → Prop) (t : Nd × Fo) : CanT X (nm t).1 (nm t).2 ↔ CanT X t.1 t.2 := by
  unfold CanT
  rw [show (Go.Proofs.YtgmmbfnmojjbkaaGreatDoor.nm t).2 = Go.Proofs.YtgmmbfnmojjbkaaGreatDoor.norm t.2 from rfl, CanF.norm, show (Go.Proofs.YtgmmbfnmojjbkaaGreatDoor.nm t).1 = t.1 from rfl]
  have : Go.Proofs.YtgmmbfnmojjbkaaGreatDoor.nm (t.1, Go.Proofs.YtgmmbfnmojjbkaaGreatDoor.norm t.2) = Go.Proofs.YtgmmbfnmojjbkaaGreatDoor.nm (t.1, t.2) := nm_nm t
  rw [this]
theorem CanF.mem {X : Nd × Fo → Prop} : ∀ {f : Fo}, CanF X f → ∀ u ∈ kidL f, CanT X u.1 u.2
  | .nil, _, u, hu => by simp [kidL] at hu
  | .node _ _ a l r, h, u, hu => by
    rw [CanF_node] at h
    rw [kidL] at hu
    rcases List.mem_cons.1 hu with rfl | hu
    · exact h.1
    · exact CanF.mem h.2 u hu
theorem CanF.of {X : Nd × Fo → Prop} : ∀ {f : Fo}, (∀ u ∈ kidL f, CanT X u.1 u.2) → CanF X f
  | .nil, _ => trivial
  | .node _ _ a l r, h => (CanF_node X _ _ a l r).2 ⟨h (a, l) (by simp [kidL]), CanF.of (fun u hu => h u (by simp [kidL, hu]))⟩

/-- What can be made of what follows. -/
def Knows (us : List (Nd × Fo)) (a : Nd) (l : Fo) : Prop := CanT (Fol (InL us)) a l

theorem Fol.base {X : Nd × Fo → Prop} {t : Nd × Fo} (h : X t) : Fol X t := fun P _ hx => hx t h
theorem Fol.out {X : Nd × Fo → Prop} {t u : Nd × Fo} (h : Fol X t) (hu : u ∈ outs t) : Fol X u := fun P hP hx => hP t u (h P hP hx) hu
theorem Fol.mono {X Y : Nd × Fo → Prop} (h : ∀ t, X t → Y t) {t : Nd × Fo} (hf : Fol X t) : Fol Y t := fun P hP hx => hf P hP fun t ht => hx t (h t ht)

/-- Of a term that may be only a pair's and a signature's kids come out. -/
theorem outs_kind {t u : Nd × Fo} (hm : may t.1 t.2 = true) (hu : u ∈ outs t) : t.1.kind = 7 ∨ t.1.kind = 6 := by
  unfold outs skipOf at hu
  by_cases h7 : t.1.kind = 7
  · exact .inl h7
  · by_cases h6 : t.1.kind = 6
    · exact .inr h6
    · rw [if_neg h7, if_neg h6] at hu
      have hl := List.length_pos_of_mem hu
      rw [List.length_drop, kidL_length] at hl
      have h2 : kidsOf t.1.kind ≤ 2 := by unfold kidsOf; split; omega; split <;> omega
      have := (may_ar _ _ hm).1
      omega

theorem Knows.grows {us vs : List (Nd × Fo)} (h : ∀ x ∈ us, x ∈ vs) {a : Nd} {l : Fo} (hk : Knows us a l) : Knows vs a l :=
  CanT.mono (fun t => Fol.mono fun t ht => ht.mono h) hk

/-- What follows with one more that could be made can be made. -/
theorem fol_knows {us : List (Nd × Fo)} {u : Nd × Fo} (hus : ∀ x ∈ us, may x.1 x.2 = true) (hu : may u.1 u.2 = true) (hk : Knows us u.1 u.2) {t : Nd × Fo} (ht : Fol (InL (us ++ [u])) t) : may t.1 t.2 = true ∧ Knows us t.1 t.2 := by
  refine ht (fun t => may t.1 t.2 = true ∧ Knows us t.1 t.2) ?_ ?_
  · rintro t v ⟨hm, hc⟩ hv
    refine ⟨outs_may hm v hv, ?_⟩
    have hkd := outs_kind hm hv
    rcases hc with h1 | h1 | h1
    · omega
    · have := Fol.out h1 (u := nm v) (by rw [outs_nm]; exact List.mem_map_of_mem hv)
      exact .inr (.inl this)
    · exact CanF.mem h1.2 v (List.mem_of_mem_drop hv)
  · rintro t ⟨x, hx, rfl⟩
    rw [may_nm]
    unfold Knows
    rw [CanT.nm]
    rcases List.mem_append.1 hx with hx | hx
    · exact ⟨hus x hx, .inr (.inl (Fol.base ⟨x, hx, rfl⟩))⟩
    · simp only [List.mem_singleton] at hx
      rw [hx]; exact ⟨hu, hk⟩

theorem knowsF_cut {us : List (Nd × Fo)} {u : Nd × Fo} (hus : ∀ x ∈ us, may x.1 x.2 = true) (hu : may u.1 u.2 = true) (hk : Knows us u.1 u.2) : ∀ f : Fo, CanF (Fol (InL (us ++ [u]))) f → CanF (Fol (InL us)) f
  | .nil, _ => trivial
  | .node _ _ a l r, h => by
    rw [CanF_node] at h ⊢
    refine ⟨?_, knowsF_cut hus hu hk r h.2⟩
    rcases h.1 with h1 | h1 | h1
    · exact .inl h1
    · have := (fol_knows hus hu hk h1).2
      unfold Knows at this
      exact (CanT.nm _ (a, l)).1 this
    · exact .inr (.inr ⟨h1.1, knowsF_cut hus hu hk l h1.2⟩)
/-- What can be made adds nothing. -/
theorem Knows.cut {us : List (Nd × Fo)} {u : Nd × Fo} (hus : ∀ x ∈ us, may x.1 x.2 = true) (hu : may u.1 u.2 = true) (hk : Knows us u.1 u.2) {a : Nd} {l : Fo} (h : Knows (us ++ [u]) a l) : Knows us a l := by
  rcases h with h1 | h1 | h1
  · exact .inl h1
  · have := (fol_knows hus hu hk h1).2
    unfold Knows at this
    exact (CanT.nm _ (a, l)).1 this
  · exact .inr (.inr ⟨h1.1, knowsF_cut hus hu hk l h1.2⟩)

end Go.Proofs.YtgmmbfnmojjbkaaGreatDoor
