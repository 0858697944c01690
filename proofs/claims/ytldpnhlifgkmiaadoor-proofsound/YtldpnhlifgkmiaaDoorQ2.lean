import Derived.Test.YtldpnhlifgkmiaaDoorQ1
import Derived.Test.YtldpnhlifgkmiaaDoorM1
namespace Go.Proofs.YtldpnhlifgkmiaaDoor
open Go.RowKit
set_option linter.unusedVariables false
set_option linter.unusedSimpArgs false

theorem take_app {α : Type} (x y : List α) (j : Nat) (h : x.length ≤ j) : (x ++ y).take j = x ++ y.take (j - x.length) := by
  rw [List.take_append, List.take_of_length_le h]

/-- Cut off within its own bytes, or within its kids, a term is too short. -/
theorem tk_head_cut (a : Nd) (l : Fo) (f k j : Nat) (hk : k + 1 ≤ 64) (hf : formedB a.kind a.n a.s (flen l) = true) (hj : j < (putT a l).length)
    (ih : ∀ i, i < (putF l).length → kidsG (tk f) (flen l) (k + 1) ((putF l).take i) = .error 1) : tk (f + 1) k ((putT a l).take j) = .error 1 := by
  cases j with
  | zero => simp only [List.take_zero]; rw [tk, if_neg (by omega)]
  | succ j =>
    have e : (putT a l).take (j + 1) = UInt8.ofNat a.kind.toNat :: ((if a.kind = 1 then be 2 a.s.size ++ a.s.data.toList else if a.kind = 2 then be 4 a.n.toNat else []) ++ putF l).take j := by
      simp [putT, headB]
    have ej : (putT a l).length = ((if a.kind = 1 then be 2 a.s.size ++ a.s.data.toList else if a.kind = 2 then be 4 a.n.toNat else []) ++ putF l).length + 1 := by
      simp [putT, headB]
    rw [ej] at hj
    rw [e, tk, if_neg (by omega)]
    simp only [u8_mod]
    obtain ⟨kind, n, s⟩ := a
    have hl : s.data.toList.length = s.size := by rw [Array.length_toList]; rfl
    rcases formed_cases hf with ⟨h1, h2, h3, h4⟩ | ⟨h1, h2, h3, h4, h5⟩ | ⟨h1, h2, h3, h4⟩ | ⟨h1, h2, h3, h4⟩
    · simp only at h1 h3 h4 hj; subst h1; subst h3
      rw [flen_zero h2] at hj ⊢
      simp only [if_true, putF, List.append_nil] at hj ⊢
      rw [List.length_append, be_length, hl] at hj
      show tkH (tk f) 1 (k + 1) _ = _
      rw [tkH, if_pos rfl, tkA_cut _ _ h4 (by omega)]
    · simp only at h1 h3 h4 h5 hj; subst h1; subst h3
      rw [flen_zero h2] at hj ⊢
      simp only [putF, List.append_nil] at hj ⊢
      rw [if_neg (by decide), if_pos trivial, be_length] at hj
      show tkH (tk f) 2 (k + 1) ((be 4 n.toNat).take j) = _
      have := tkN_cut 4 1073741824 n.toNat j [] (by omega)
      rw [List.append_nil] at this
      rw [tkH, if_neg (by decide), if_pos rfl, this]
    · simp only at h1 h3 h4 hj; subst h3; subst h4
      rw [h2] at ih
      have hm : kind.toNat % 256 = kind.toNat := by omega
      rw [if_neg (show ¬ kind = 1 by omega), if_neg (show ¬ kind = 2 by omega), List.nil_append] at hj
      simp only
      rw [if_neg (show ¬ kind = 1 by omega), if_neg (show ¬ kind = 2 by omega), List.nil_append, hm, tkH, if_neg (by omega), if_neg (by omega), if_pos (by omega), ih j (by omega)]
    · simp only at h1 h3 h4 hj; subst h3; subst h4
      rw [h2] at ih
      have hm : kind.toNat % 256 = kind.toNat := by omega
      rw [if_neg (show ¬ kind = 1 by omega), if_neg (show ¬ kind = 2 by omega), List.nil_append] at hj
      simp only
      rw [if_neg (show ¬ kind = 1 by omega), if_neg (show ¬ kind = 2 by omega), List.nil_append, hm, tkH, if_neg (by omega), if_neg (by omega), if_neg (by omega), if_pos (by omega), ih j (by omega)]

theorem kids_cut : ∀ (g : Fo) (f k : Nat) (j : Nat), f ≤ 16 → (mayF g (17 - (f : Int)) k).1 = true → j < (putF g).length → kidsG (tk f) (flen g) k ((putF g).take j) = .error 1
  | .nil, f, k, j, _, _, hj => by simp [putF] at hj
  | .node b o a l r, f, k, j, hf, h, hj => by
    have h0 := h
    rw [mayF_node] at h
    by_cases ht : (mayT a l (17 - (f : Int)) k).1 = true
    · rw [if_pos ht] at h
      have hB : mayB a (flen l) (17 - (f : Int)) k = true := by
        rw [mayT] at ht
        by_cases hm : mayB a (flen l) (17 - (f : Int)) k = true
        · exact hm
        · rw [if_neg hm] at ht; simp at ht
      obtain ⟨h1, h2, h3⟩ := mayB_of hB
      cases f with
      | zero => omega
      | succ f =>
        have hge := mayT_ge a l (17 - ((f + 1 : Nat) : Int)) k
        have eT : mayT a l (17 - ((f + 1 : Nat) : Int)) k = mayF l (17 - (f : Int)) ((k + 1 : Nat) : Int) := by
          rw [mayT, if_pos hB]; congr 1; omega
        have htl : (mayF l (17 - (f : Int)) ((k + 1 : Nat) : Int)).1 = true := by rw [← eT]; exact ht
        rw [putF_node, List.length_append] at hj
        rw [putF_node, flen, kidsG]
        by_cases hjl : j < (putT a l).length
        · rw [List.take_append_of_le_length (by omega), tk_head_cut a l f k j (by omega) h3 hjl (fun i hi => kids_cut l f (k + 1) i (by omega) htl hi)]
        · rw [take_app _ _ _ (by omega), tk_put a l (f + 1) k _ hf ht]
          simp only
          have ek : (((mayT a l (17 - ((f + 1 : Nat) : Int)) k).2.toNat : Nat) : Int) = (mayT a l (17 - ((f + 1 : Nat) : Int)) k).2 := by omega
          rw [kids_cut r (f + 1) _ _ hf (by rw [ek]; exact h) (by omega)]
    · rw [if_neg ht] at h; simp at h

theorem tk_cut (a : Nd) (l : Fo) (j : Nat) (h : may a l = true) (hj : j < (putT a l).length) : tk 16 0 ((putT a l).take j) = .error 1 := by
  have h' := h
  unfold may at h'
  rw [mayT_node a l _ _ 0 0] at h'
  have e := kids_cut (.node 0 0 a l .nil) 16 0 j (by omega) h' (by rw [putF_node]; simpa [putF] using hj)
  rw [putF_node, flen, flen, kidsG] at e
  simp only [putF, List.append_nil] at e
  cases hg : tk 16 0 ((putT a l).take j) with
  | error x => rw [hg] at e; simp at e; rw [e]
  | ok x =>
    rw [hg] at e
    simp [kidsG] at e

theorem tk_all (a : Nd) (l : Fo) (ys : List UInt8) (h : may a l = true) : tk 16 0 (putT a l ++ ys) = .ok (a, norm l, (mayT a l 1 0).2.toNat, ys) := tk_put a l 16 0 ys (by omega) h

/-- What is taken was put. -/
theorem tkN_of {wide most n : Nat} {xs ys : List UInt8} (h : tkN wide most xs = .ok (n, ys)) : wide ≤ xs.length ∧ n = unBe (xs.take wide) ∧ n ≤ most ∧ xs = xs.take wide ++ ys := by
  rw [tkN] at h
  by_cases h1 : xs.length < wide
  · rw [if_pos h1] at h; simp at h
  · rw [if_neg h1] at h
    by_cases h2 : most < unBe (xs.take wide)
    · rw [if_pos h2] at h; simp at h
    · rw [if_neg h2] at h; simp at h
      exact ⟨by omega, h.1.symm, by omega, by rw [← h.2, List.take_append_drop]⟩

theorem be_of2 {xs : List UInt8} (h : 2 ≤ xs.length) : be 2 (unBe (xs.take 2)) = xs.take 2 := by
  match xs, h with
  | x :: y :: t, _ => exact be_unBe2 x y
theorem be_of4 {xs : List UInt8} (h : 4 ≤ xs.length) : be 4 (unBe (xs.take 4)) = xs.take 4 := by
  match xs, h with
  | x :: y :: z :: u :: t, _ => exact be_unBe4 x y z u

theorem tkA_of {xs ys : List UInt8} {a : Nd} (h : tkA xs = .ok (a, ys)) : ∃ s : ByteArray, a = ⟨1, 0, s⟩ ∧ s.size ≤ 1024 ∧ xs = be 2 s.size ++ s.data.toList ++ ys := by
  rw [tkA] at h
  cases hn : tkN 2 1024 xs with
  | error e => rw [hn] at h; simp at h
  | ok x =>
    obtain ⟨n, zs⟩ := x
    rw [hn] at h
    obtain ⟨h1, h2, h3, h4⟩ := tkN_of hn
    simp only at h
    by_cases hl : zs.length < n
    · rw [if_pos hl] at h; simp at h
    · rw [if_neg hl] at h; simp at h
      have hsz : (⟨(zs.take n).toArray⟩ : ByteArray).size = n := by
        show (zs.take n).toArray.size = n
        rw [List.size_toArray, List.length_take]; omega
      refine ⟨_, h.1.symm, by rw [hsz]; exact h3, ?_⟩
      rw [hsz, h2, be_of2 h1, ← h2]
      simp only [List.append_assoc]
      rw [← h.2, List.take_append_drop]; exact h4

theorem u8_back (h : UInt8) : UInt8.ofNat ((h.toNat : Int)).toNat = h := by simp

theorem empB : (⟨#[]⟩ : ByteArray).toList = [] := by rw [ByteArray.toList_eq]

theorem headB_K (x : UInt8) (h1 : x.toNat ≠ 1) (h2 : x.toNat ≠ 2) : headB (ndK x.toNat) = [x] := by
  have e1 : ¬ ((x.toNat : Int) = 1) := by omega
  have e2 : ¬ ((x.toNat : Int) = 2) := by omega
  simp [headB, ndK, e1, e2]

theorem formed_K (h len : Nat) (hh : ((h = 3 ∨ h = 4) ∧ len = 1) ∨ ((h = 5 ∨ h = 6 ∨ h = 7) ∧ len = 2)) : formedB (ndK h).kind (ndK h).n (ndK h).s len = true := by
  rcases hh with ⟨h | h, rfl⟩ | ⟨h | h | h, rfl⟩ <;> (subst h; simp [formedB, ndK, kidsOf, empB])

def TkOk (f : Nat) : Prop := ∀ (k : Nat) (xs : List UInt8) (a : Nd) (l : Fo) (k1 : Nat) (ys : List UInt8), tk f k xs = .ok (a, l, k1, ys) → xs = putT a l ++ ys ∧ mayT a l (17 - (f : Int)) k = (true, (k1 : Int)) ∧ norm l = l

theorem kids_of (f : Nat) (ih : TkOk f) : ∀ (c k : Nat) (xs : List UInt8) (g : Fo) (k1 : Nat) (ys : List UInt8), kidsG (tk f) c k xs = .ok (g, k1, ys) → xs = putF g ++ ys ∧ mayF g (17 - (f : Int)) k = (true, (k1 : Int)) ∧ norm g = g ∧ flen g = c
  | 0, k, xs, g, k1, ys, h => by
    simp [kidsG] at h
    obtain ⟨rfl, rfl, rfl⟩ := h
    exact ⟨rfl, rfl, rfl, rfl⟩
  | c + 1, k, xs, g, k1, ys, h => by
    rw [kidsG] at h
    cases h1 : tk f k xs with
    | error e => rw [h1] at h; simp at h
    | ok x =>
      obtain ⟨a, l, k2, zs⟩ := x
      rw [h1] at h
      simp only at h
      cases h2 : kidsG (tk f) c k2 zs with
      | error e => rw [h2] at h; simp at h
      | ok y =>
        obtain ⟨r, k3, us⟩ := y
        rw [h2] at h
        simp at h
        obtain ⟨rfl, rfl, rfl⟩ := h
        obtain ⟨e1, e2, e3⟩ := ih _ _ _ _ _ _ h1
        obtain ⟨e4, e5, e6, e7⟩ := kids_of f ih c k2 zs r _ _ h2
        refine ⟨by rw [putF_node, List.append_assoc, ← e4, ← e1], ?_, by rw [norm, e3, e6], by rw [flen, e7]⟩
        rw [mayF_node, e2]; simp only [if_true]; exact e5

theorem mayB_mk {a : Nd} {len : Nat} {deep c : Int} (h1 : c + 1 ≤ 64) (h2 : deep ≤ 16) (h3 : formedB a.kind a.n a.s len = true) : mayB a len deep c = true := by
  simp [mayB, h1, h2, h3]

theorem tk_of : ∀ f : Nat, f ≤ 16 → TkOk f
  | 0, _ => by intro k xs a l k1 ys h; simp [tk] at h
  | f + 1, hf => by
    intro k xs a l k1 ys h
    by_cases hk : 64 < k + 1
    · cases xs <;> (rw [tk, if_pos hk] at h; simp at h)
    · have hd : (17 - ((f + 1 : Nat) : Int)) ≤ 16 := by omega
      have hd1 : (17 - ((f + 1 : Nat) : Int)) + 1 = 17 - (f : Int) := by omega
      have hc1 : ((k : Int) + 1) ≤ 64 := by omega
      cases xs with
      | nil => rw [tk, if_neg hk] at h; simp at h
      | cons x zs =>
        rw [tk, if_neg hk] at h
        rw [tkH] at h
        by_cases h1 : x.toNat = 1
        · rw [if_pos h1] at h
          cases hA : tkA zs with
          | error e => rw [hA] at h; simp at h
          | ok y =>
            obtain ⟨b, us⟩ := y
            rw [hA] at h; simp at h
            obtain ⟨rfl, rfl, rfl, rfl⟩ := h
            obtain ⟨s, rfl, hs, e⟩ := tkA_of hA
            have hx : x = UInt8.ofNat 1 := (u8_of x 1 (by omega)).symm
            refine ⟨?_, ?_, rfl⟩
            · simp [putT, headB, putF, e, hx]
            · rw [mayT, if_pos (mayB_mk hc1 hd (by simp [formedB, kidsOf, flen]; omega)), mayF]; simp
        · rw [if_neg h1] at h
          by_cases h2 : x.toNat = 2
          · rw [if_pos h2] at h
            cases hA : tkN 4 1073741824 zs with
            | error e => rw [hA] at h; simp at h
            | ok y =>
              obtain ⟨n, us⟩ := y
              rw [hA] at h; simp at h
              obtain ⟨rfl, rfl, rfl, rfl⟩ := h
              obtain ⟨q1, q2, q3, q4⟩ := tkN_of hA
              have hx : x = UInt8.ofNat 2 := (u8_of x 2 (by omega)).symm
              refine ⟨?_, ?_, rfl⟩
              · have e5 := be_of4 q1
                rw [← q2] at e5
                have : zs = be 4 n ++ us := by rw [e5]; exact q4
                simp [putT, headB, putF, hx]; exact this
              · rw [mayT, if_pos (mayB_mk hc1 hd (by simp [formedB, kidsOf, flen, empB]; omega)), mayF]; simp
          · rw [if_neg h2] at h
            have hx256 := x.toNat_lt
            by_cases h3 : x.toNat = 3 ∨ x.toNat = 4
            · rw [if_pos h3] at h
              cases hA : kidsG (tk f) 1 (k + 1) zs with
              | error e => rw [hA] at h; simp at h
              | ok y =>
                obtain ⟨g, k2, us⟩ := y
                rw [hA] at h; simp at h
                obtain ⟨rfl, rfl, rfl, rfl⟩ := h
                obtain ⟨e1, e2, e3, e4⟩ := kids_of f (tk_of f (by omega)) _ _ _ _ _ _ hA
                refine ⟨?_, ?_, e3⟩
                · rw [putT, headB_K x h1 h2, e1]; rfl
                · rw [mayT, if_pos (mayB_mk hc1 hd ?_), hd1]
                  · exact e2
                  · exact formed_K _ _ (.inl ⟨h3, e4⟩)
            · rw [if_neg h3] at h
              by_cases h4 : x.toNat = 5 ∨ x.toNat = 6 ∨ x.toNat = 7
              · rw [if_pos h4] at h
                cases hA : kidsG (tk f) 2 (k + 1) zs with
                | error e => rw [hA] at h; simp at h
                | ok y =>
                  obtain ⟨g, k2, us⟩ := y
                  rw [hA] at h; simp at h
                  obtain ⟨rfl, rfl, rfl, rfl⟩ := h
                  obtain ⟨e1, e2, e3, e4⟩ := kids_of f (tk_of f (by omega)) _ _ _ _ _ _ hA
                  refine ⟨?_, ?_, e3⟩
                  · rw [putT, headB_K x h1 h2, e1]; rfl
                  · rw [mayT, if_pos (mayB_mk hc1 hd ?_), hd1]
                    · exact e2
                    · exact formed_K _ _ (.inr ⟨h4, e4⟩)
              · rw [if_neg h4] at h; simp at h

theorem tk_only {xs ys : List UInt8} {a : Nd} {l : Fo} {k : Nat} (h : tk 16 0 xs = .ok (a, l, k, ys)) : xs = putT a l ++ ys ∧ may a l = true ∧ norm l = l := by
  obtain ⟨h1, h2, h3⟩ := tk_of 16 (by omega) _ _ _ _ _ _ h
  refine ⟨h1, ?_, h3⟩
  unfold may
  rw [show ((17 : Int) - ((16 : Nat) : Int)) = 1 from rfl, show (((0 : Nat)) : Int) = 0 from rfl] at h2
  rw [h2]

/-- Two terms are the same just where all of them is. -/
theorem ordN_zero {a b : Nd} (h : ordN a b = 0) : a = b := by
  unfold ordN orI at h
  have c0 : ∀ x y : Int, cmpI x y = 0 → x = y := fun x y h => by unfold cmpI at h; split at h; omega; split at h <;> omega
  have s0 : ∀ x y : ByteArray, cmpS x y = 0 → x = y := fun x y h => by
    unfold cmpS at h
    have := bytes_zero _ _ h
    cases x; cases y; congr; exact Array.ext' this
  obtain ⟨k, n, s⟩ := a
  obtain ⟨k', n', s'⟩ := b
  simp only at h
  split at h
  · rename_i h1
    split at h
    · rename_i h2
      rw [c0 _ _ h1, c0 _ _ h2, s0 _ _ h]
    · rename_i h2; exact absurd h h2
  · rename_i h1; exact absurd h h1

theorem ordF_zero : ∀ f g : Fo, ordF f g = 0 → norm f = norm g
  | .nil, .nil, _ => rfl
  | .nil, .node .., h => by simp [ordF] at h
  | .node .., .nil, h => by simp [ordF] at h
  | .node _ _ a l r, .node _ _ b m s, h => by
    rw [ordF] at h
    unfold orI at h
    by_cases h1 : ordN a b = 0
    · rw [if_pos h1] at h
      by_cases h2 : ordF l m = 0
      · rw [if_pos h2] at h
        rw [norm, norm, ordN_zero h1, ordF_zero l m h2, ordF_zero r s h]
      · rw [if_neg h2] at h; exact absurd h h2
    · rw [if_neg h1] at h; exact absurd h h1

theorem ordF_norm : ∀ f g : Fo, norm f = norm g → ordF f g = 0
  | .nil, .nil, _ => rfl
  | .nil, .node .., h => by simp [norm] at h
  | .node .., .nil, h => by simp [norm] at h
  | .node _ _ a l r, .node _ _ b m s, h => by
    simp [norm] at h
    obtain ⟨rfl, h1, h2⟩ := h
    have e : ordN a a = 0 := by have := neg_ordN a a; omega
    rw [ordF, e, ordF_norm l m h1, ordF_norm r s h2]; rfl

theorem ordT_zero {a b : Nd} {l m : Fo} (h : ordT a l b m = 0) : a = b ∧ norm l = norm m := by
  unfold ordT orI at h
  by_cases h1 : ordN a b = 0
  · rw [if_pos h1] at h; exact ⟨ordN_zero h1, ordF_zero _ _ h⟩
  · rw [if_neg h1] at h; exact absurd h h1

theorem ordT_norm (a : Nd) {l m : Fo} (h : norm l = norm m) : ordT a l a m = 0 := by
  have e : ordN a a = 0 := by have := neg_ordN a a; omega
  unfold ordT; rw [e, ordF_norm l m h]; rfl

/-- None's bytes begin another one's. -/
theorem put_front {a b : Nd} {l m : Fo} (ha : may a l = true) (hb : may b m = true) (zs : List UInt8) (h : putT b m = putT a l ++ zs) : ordT a l b m = 0 := by
  have h1 := tk_all a l zs ha
  have h2 := tk_all b m [] hb
  rw [List.append_nil, h, h1] at h2
  simp at h2
  obtain ⟨rfl, h3, _⟩ := h2
  exact ordT_norm a h3

theorem put_same {a b : Nd} {l m : Fo} (h : ordT a l b m = 0) : putT a l = putT b m := by
  obtain ⟨rfl, h1⟩ := ordT_zero h
  unfold putT; rw [← putF_norm l, ← putF_norm m, h1]

theorem put_pos (a : Nd) (l : Fo) : 0 < (putT a l).length := by simp [putT, headB]

end Go.Proofs.YtldpnhlifgkmiaaDoor
