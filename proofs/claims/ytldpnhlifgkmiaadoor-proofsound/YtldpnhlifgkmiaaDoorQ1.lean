import Derived.Test.YtldpnhlifgkmiaaDoorW2
namespace Go.Proofs.YtldpnhlifgkmiaaDoor
open Go.RowKit
set_option linter.unusedVariables false
set_option linter.unusedSimpArgs false

/-- A number in so many bytes, the highest first. -/
def be : Nat → Nat → List UInt8
  | 0, _ => []
  | w + 1, n => UInt8.ofNat (n / 256 ^ w) :: be w n

def unBe (xs : List UInt8) : Nat := xs.foldl (fun n x => n * 256 + x.toNat) 0

theorem be_length : ∀ (w n : Nat), (be w n).length = w
  | 0, _ => rfl
  | w + 1, n => by rw [be, List.length_cons, be_length w n]

theorem u8_mod (n : Nat) : (UInt8.ofNat n).toNat = n % 256 := by simp

theorem unBe_two (x y : UInt8) : unBe [x, y] = x.toNat * 256 + y.toNat := by simp [unBe]
theorem unBe_four (x y z t : UInt8) : unBe [x, y, z, t] = ((x.toNat * 256 + y.toNat) * 256 + z.toNat) * 256 + t.toNat := by simp [unBe]

theorem be_two (n : Nat) : be 2 n = [UInt8.ofNat (n / 256), UInt8.ofNat n] := by simp [be]
theorem be_four (n : Nat) : be 4 n = [UInt8.ofNat (n / 16777216), UInt8.ofNat (n / 65536), UInt8.ofNat (n / 256), UInt8.ofNat n] := by simp [be]

theorem unBe_be2 (n : Nat) (h : n < 65536) : unBe (be 2 n) = n := by
  rw [be_two, unBe_two, u8_mod, u8_mod]; omega
theorem unBe_be4 (n : Nat) (h : n < 4294967296) : unBe (be 4 n) = n := by
  rw [be_four, unBe_four, u8_mod, u8_mod, u8_mod, u8_mod]; omega

theorem u8_of (x : UInt8) (n : Nat) (h : n % 256 = x.toNat) : UInt8.ofNat n = x := by
  apply UInt8.toNat_inj.1; rw [u8_mod]; exact h

theorem be_unBe2 (x y : UInt8) : be 2 (unBe [x, y]) = [x, y] := by
  have hx := x.toNat_lt; have hy := y.toNat_lt
  rw [be_two, unBe_two, u8_of x _ (by omega), u8_of y _ (by omega)]
theorem be_unBe4 (x y z t : UInt8) : be 4 (unBe [x, y, z, t]) = [x, y, z, t] := by
  have hx := x.toNat_lt; have hy := y.toNat_lt; have hz := z.toNat_lt; have ht := t.toNat_lt
  rw [be_four, unBe_four, u8_of x _ (by omega), u8_of y _ (by omega), u8_of z _ (by omega), u8_of t _ (by omega)]

/-- A node's own bytes. -/
def headB (a : Nd) : List UInt8 :=
  UInt8.ofNat a.kind.toNat :: (if a.kind = 1 then be 2 a.s.size ++ a.s.data.toList else if a.kind = 2 then be 4 a.n.toNat else [])

def putF : Fo → List UInt8
  | .nil => []
  | .node _ _ a l r => (headB a ++ putF l) ++ putF r

def putT (a : Nd) (l : Fo) : List UInt8 := headB a ++ putF l

theorem putF_node (b o : Nat) (a : Nd) (l r : Fo) : putF (.node b o a l r) = putT a l ++ putF r := rfl

/-- The same terms, the places forgotten. -/
def norm : Fo → Fo
  | .nil => .nil
  | .node _ _ a l r => .node 0 0 a (norm l) (norm r)

theorem flen_norm : ∀ f : Fo, flen (norm f) = flen f
  | .nil => rfl
  | .node _ _ a l r => by rw [norm, flen, flen, flen_norm r]
theorem putF_norm : ∀ f : Fo, putF (norm f) = putF f
  | .nil => rfl
  | .node _ _ a l r => by rw [norm, putF, putF, putF_norm l, putF_norm r]
theorem mayF_norm : ∀ (f : Fo) (deep c : Int), mayF (norm f) deep c = mayF f deep c
  | .nil, _, _ => rfl
  | .node _ _ a l r, deep, c => by rw [norm, mayF, mayF, flen_norm, mayF_norm l, mayF_norm r]
theorem mayT_norm (a : Nd) (l : Fo) (deep c : Int) : mayT a (norm l) deep c = mayT a l deep c := by rw [mayT, mayT, flen_norm, mayF_norm]
theorem norm_norm : ∀ f : Fo, norm (norm f) = norm f
  | .nil => rfl
  | .node _ _ a l r => by rw [norm, norm, norm_norm l, norm_norm r]

/-- A number of so many bytes, at most so great. -/
def tkN (wide most : Nat) (xs : List UInt8) : Except Nat (Nat × List UInt8) :=
  if xs.length < wide then .error 1 else if most < unBe (xs.take wide) then .error 3 else .ok (unBe (xs.take wide), xs.drop wide)

/-- What stands behind the Kind of an Atom. -/
def tkA (xs : List UInt8) : Except Nat (Nd × List UInt8) :=
  match tkN 2 1024 xs with
  | .error e => .error e
  | .ok (n, ys) => if ys.length < n then .error 1 else .ok (⟨1, 0, ⟨(ys.take n).toArray⟩⟩, ys.drop n)

/-- So many terms, one behind the other. -/
def kidsG (g : Nat → List UInt8 → Except Nat (Nd × Fo × Nat × List UInt8)) : Nat → Nat → List UInt8 → Except Nat (Fo × Nat × List UInt8)
  | 0, k, xs => .ok (.nil, k, xs)
  | c + 1, k, xs =>
    match g k xs with
    | .error e => .error e
    | .ok (a, l, k1, ys) =>
      match kidsG g c k1 ys with
      | .error e => .error e
      | .ok (r, k2, zs) => .ok (.node 0 0 a l r, k2, zs)

def ndK (h : Nat) : Nd := ⟨(h : Int), 0, ⟨#[]⟩⟩

/-- What is behind a node's kind. -/
def tkH (g : Nat → List UInt8 → Except Nat (Nd × Fo × Nat × List UInt8)) (h : Nat) (k : Nat) (ys : List UInt8) : Except Nat (Nd × Fo × Nat × List UInt8) :=
  if h = 1 then (match tkA ys with | .error e => .error e | .ok (a, zs) => .ok (a, .nil, k, zs))
  else if h = 2 then (match tkN 4 1073741824 ys with | .error e => .error e | .ok (n, zs) => .ok (⟨2, (n : Int), ⟨#[]⟩⟩, .nil, k, zs))
  else if h = 3 ∨ h = 4 then (match kidsG g 1 k ys with | .error e => .error e | .ok (f, k1, zs) => .ok (ndK h, f, k1, zs))
  else if h = 5 ∨ h = 6 ∨ h = 7 then (match kidsG g 2 k ys with | .error e => .error e | .ok (f, k1, zs) => .ok (ndK h, f, k1, zs))
  else .error 2

/-- The term at the front: so many levels left, so many nodes met. -/
def tk : Nat → Nat → List UInt8 → Except Nat (Nd × Fo × Nat × List UInt8)
  | 0, _, _ => .error 4
  | f + 1, k, xs =>
    if 64 < k + 1 then .error 4 else
    match xs with
    | [] => .error 1
    | h :: ys => tkH (tk f) h.toNat (k + 1) ys

/-- The term that bytes are, as a whole. -/
def oneB (xs : List UInt8) : Except Nat (Nd × Fo) :=
  match tk 16 0 xs with
  | .error e => .error e
  | .ok (a, l, _, ys) => if 0 < ys.length then .error 5 else .ok (a, l)

theorem be_getElem_len (w n : Nat) (ys : List UInt8) : ((be w n) ++ ys).take w = be w n := by
  rw [List.take_append_of_le_length (by rw [be_length]; omega), List.take_of_length_le (by rw [be_length]; omega)]
theorem be_drop (w n : Nat) (ys : List UInt8) : ((be w n) ++ ys).drop w = ys := by
  rw [List.drop_append_of_le_length (by rw [be_length]; omega), List.drop_of_length_le (by rw [be_length]; omega), List.nil_append]

theorem tkN_be (w most n : Nat) (ys : List UInt8) (h : unBe (be w n) = n) (hm : n ≤ most) : tkN w most (be w n ++ ys) = .ok (n, ys) := by
  rw [tkN, if_neg (by rw [List.length_append, be_length]; omega), be_getElem_len, be_drop, h, if_neg (by omega)]

theorem tkA_put (s : ByteArray) (ys : List UInt8) (h : s.size ≤ 1024) : tkA (be 2 s.size ++ s.data.toList ++ ys) = .ok (⟨1, 0, s⟩, ys) := by
  have hl : s.data.toList.length = s.size := by rw [Array.length_toList]; rfl
  rw [List.append_assoc, tkA, tkN_be 2 1024 s.size _ (unBe_be2 _ (by omega)) h]
  simp only
  rw [if_neg (by rw [List.length_append, hl]; omega), List.take_append_of_le_length (by omega), List.take_of_length_le (by omega), List.drop_append_of_le_length (by omega), List.drop_of_length_le (by omega)]
  simp

/-- What a node that may be is like, by its kind. -/
theorem formed_cases {k n : Int} {s : ByteArray} {len : Nat} (h : formedB k n s len = true) :
    (k = 1 ∧ len = 0 ∧ n = 0 ∧ s.size ≤ 1024) ∨ (k = 2 ∧ len = 0 ∧ s = ⟨#[]⟩ ∧ 0 ≤ n ∧ n ≤ 1073741824) ∨ ((k = 3 ∨ k = 4) ∧ len = 1 ∧ n = 0 ∧ s = ⟨#[]⟩) ∨ ((k = 5 ∨ k = 6 ∨ k = 7) ∧ len = 2 ∧ n = 0 ∧ s = ⟨#[]⟩) := by
  have hs : s.toList.isEmpty = true → s = ⟨#[]⟩ := fun e => by
    rw [ByteArray.toList_eq] at e
    cases s with | mk d => simp at e; rw [e]
  unfold formedB at h
  by_cases h1 : k = 1
  · subst h1; simp [kidsOf] at h; exact .inl ⟨rfl, by omega, by omega, by omega⟩
  · by_cases h2 : k = 2
    · subst h2; simp [kidsOf] at h; exact .inr (.inl ⟨rfl, by omega, hs (by simp [h.2.1.1]), h.2.1.2, h.2.2⟩)
    · simp only [h1, h2, if_false, Bool.and_eq_true, decide_eq_true_eq] at h
      obtain ⟨e, e1, e2⟩ := h
      unfold kidsOf at e
      rw [if_neg (by omega)] at e
      by_cases h3 : k = 3 ∨ k = 4
      · rw [if_pos h3] at e; exact .inr (.inr (.inl ⟨h3, by omega, e1, hs e2⟩))
      · rw [if_neg h3] at e
        by_cases h4 : k = 5 ∨ k = 6 ∨ k = 7
        · rw [if_pos h4] at e; exact .inr (.inr (.inr ⟨h4, by omega, e1, hs e2⟩))
        · rw [if_neg h4] at e; omega

theorem mayB_of {a : Nd} {len : Nat} {deep c : Int} (h : mayB a len deep c = true) : c + 1 ≤ 64 ∧ deep ≤ 16 ∧ formedB a.kind a.n a.s len = true := by
  simp only [mayB, Bool.and_eq_true, decide_eq_true_eq] at h; exact h

theorem flen_zero : ∀ {f : Fo}, flen f = 0 → f = .nil
  | .nil, _ => rfl
  | .node .., h => by simp [flen] at h

/-- At the head of a term: if its kids are taken, so is it. -/
theorem tk_head (a : Nd) (l : Fo) (f k k1 : Nat) (ys : List UInt8) (hk : k + 1 ≤ 64) (hf : formedB a.kind a.n a.s (flen l) = true)
    (ih : kidsG (tk f) (flen l) (k + 1) (putF l ++ ys) = .ok (norm l, k1, ys)) : tk (f + 1) k (putT a l ++ ys) = .ok (a, norm l, k1, ys) := by
  have e : putT a l ++ ys = UInt8.ofNat a.kind.toNat :: ((if a.kind = 1 then be 2 a.s.size ++ a.s.data.toList else if a.kind = 2 then be 4 a.n.toNat else []) ++ (putF l ++ ys)) := by
    simp [putT, headB]
  rw [e, tk, if_neg (by omega)]
  simp only [u8_mod]
  obtain ⟨kind, n, s⟩ := a
  rcases formed_cases hf with ⟨h1, h2, h3, h4⟩ | ⟨h1, h2, h3, h4, h5⟩ | ⟨h1, h2, h3, h4⟩ | ⟨h1, h2, h3, h4⟩
  · simp only at h1 h3 h4; subst h1; subst h3
    rw [flen_zero h2] at ih ⊢
    simp [flen, kidsG, putF, norm] at ih
    simp only [if_true, putF, List.nil_append, norm, ← ih]
    show tkH (tk f) 1 (k + 1) _ = _
    rw [tkH, if_pos rfl, tkA_put _ _ h4]
  · simp only at h1 h3 h4 h5; subst h1; subst h3
    rw [flen_zero h2] at ih ⊢
    simp [flen, kidsG, putF, norm] at ih
    simp only [if_true, putF, List.nil_append, norm, ← ih]
    show tkH (tk f) 2 (k + 1) (be 4 n.toNat ++ ys) = _
    rw [tkH, if_neg (by decide), if_pos rfl, tkN_be 4 1073741824 _ _ (unBe_be4 _ (by omega)) (by omega)]
    simp only
    rw [Int.toNat_of_nonneg h4]
  · simp only at h1 h3 h4; subst h3; subst h4
    rw [h2] at ih
    have hm : kind.toNat % 256 = kind.toNat := by omega
    rw [if_neg (show ¬ kind = 1 by omega), if_neg (show ¬ kind = 2 by omega), List.nil_append, hm, tkH, if_neg (by omega), if_neg (by omega), if_pos (by omega), ih]
    simp only [ndK]
    rw [Int.toNat_of_nonneg (by omega)]
  · simp only at h1 h3 h4; subst h3; subst h4
    rw [h2] at ih
    have hm : kind.toNat % 256 = kind.toNat := by omega
    rw [if_neg (show ¬ kind = 1 by omega), if_neg (show ¬ kind = 2 by omega), List.nil_append, hm, tkH, if_neg (by omega), if_neg (by omega), if_neg (by omega), if_pos (by omega), ih]
    simp only [ndK]
    rw [Int.toNat_of_nonneg (by omega)]

/-- What is put is taken. -/
theorem kids_put : ∀ (g : Fo) (f k : Nat) (ys : List UInt8), f ≤ 16 → (mayF g (17 - (f : Int)) k).1 = true →
    kidsG (tk f) (flen g) k (putF g ++ ys) = .ok (norm g, (mayF g (17 - (f : Int)) k).2.toNat, ys)
  | .nil, f, k, ys, _, _ => by simp [flen, kidsG, putF, norm, mayF]
  | .node b o a l r, f, k, ys, hf, h => by
    rw [mayF_node] at h ⊢
    by_cases ht : (mayT a l (17 - (f : Int)) k).1 = true
    · rw [if_pos ht] at h ⊢
      have hB : mayB a (flen l) (17 - (f : Int)) k = true := by
        rw [mayT] at ht
        by_cases hm : mayB a (flen l) (17 - (f : Int)) k = true
        · exact hm
        · rw [if_neg hm] at ht; simp at ht
      obtain ⟨h1, h2, h3⟩ := mayB_of hB
      cases f with
      | zero => omega
      | succ f =>
        have hge := mayT_ge a l (17 - ((f + 1 : Nat) : Int)) k
        have eT : mayT a l (17 - ((f + 1 : Nat) : Int)) k = mayF l (17 - (f : Int)) ((k + 1 : Nat) : Int) := by
          rw [mayT, if_pos hB]; congr 1; omega
        have htl : (mayF l (17 - (f : Int)) ((k + 1 : Nat) : Int)).1 = true := by rw [← eT]; exact ht
        have ihl := kids_put l f (k + 1) (putF r ++ ys) (by omega) htl
        rw [putF_node, List.append_assoc, flen, kidsG, tk_head a l f k _ _ (by omega) h3 ihl]
        simp only
        rw [← eT]
        have ek : (((mayT a l (17 - ((f + 1 : Nat) : Int)) k).2.toNat : Nat) : Int) = (mayT a l (17 - ((f + 1 : Nat) : Int)) k).2 := by omega
        rw [kids_put r (f + 1) _ ys hf (by rw [ek]; exact h), ek]
        simp [norm]
    · rw [if_neg ht] at h; simp at h

theorem tk_put (a : Nd) (l : Fo) (f k : Nat) (ys : List UInt8) (hf : f ≤ 16) (h : (mayT a l (17 - (f : Int)) k).1 = true) :
    tk f k (putT a l ++ ys) = .ok (a, norm l, (mayT a l (17 - (f : Int)) k).2.toNat, ys) := by
  have h' := h
  rw [mayT_node a l _ _ 0 0] at h'
  have e := kids_put _ f k ys hf h'
  rw [putF_node, flen, flen, kidsG] at e
  cases hg : tk f k (putT a l ++ putF .nil ++ ys) with
  | error x => rw [hg] at e; simp at e
  | ok x =>
    rw [hg] at e
    obtain ⟨a1, l1, k1, y1⟩ := x
    simp [kidsG, norm] at e
    obtain ⟨⟨rfl, rfl⟩, rfl, rfl⟩ := e
    simp only [putF, List.append_nil] at hg
    rw [hg, mayT_node a1 l _ _ 0 0]

/-- Cut off it is too short. -/
theorem tkN_cut (w most n : Nat) (j : Nat) (xs : List UInt8) (hj : j < w) : tkN w most ((be w n ++ xs).take j) = .error 1 := by
  rw [tkN, if_pos (by rw [List.length_take]; omega)]

theorem tkA_cut (s : ByteArray) (j : Nat) (h : s.size ≤ 1024) (hj : j < 2 + s.size) : tkA ((be 2 s.size ++ s.data.toList).take j) = .error 1 := by
  have hl : s.data.toList.length = s.size := by rw [Array.length_toList]; rfl
  by_cases h2 : j < 2
  · rw [tkA, tkN_cut _ _ _ _ _ h2]
  · obtain ⟨i, rfl⟩ : ∃ i, j = 2 + i := ⟨j - 2, by omega⟩
    have e : (be 2 s.size ++ s.data.toList).take (2 + i) = be 2 s.size ++ s.data.toList.take i := by
      have := List.take_length_add_append i (l₁ := be 2 s.size) (l₂ := s.data.toList)
      rwa [be_length] at this
    rw [e, tkA, tkN_be 2 1024 s.size _ (unBe_be2 _ (by omega)) h]
    simp only
    rw [if_pos (by rw [List.length_take, hl]; omega)]

end Go.Proofs.YtldpnhlifgkmiaaDoor
