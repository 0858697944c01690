import Derived.Test.YtooffmmfacdjeaaW18
import Derived.Test.YtooffmmfacdjeaaW13
import Derived.Test.YtooffmmfacdjeaaW11
namespace Go.Proofs.Ytooffmmfacdjeaa
open Go.RowKit
set_option linter.unusedVariables false
set_option linter.unusedSimpArgs false

def nA : Nd := ⟨1, 0, ⟨#[98]⟩⟩
def nN : Nd := ⟨2, 0, ⟨#[]⟩⟩
def nH : Nd := ⟨3, 0, ⟨#[]⟩⟩
def nZ : Nd := ⟨0, 0, ⟨#[]⟩⟩
def fN : Fo := .node 0 0 nN .nil .nil

theorem emp_list : (⟨#[]⟩ : ByteArray).toList = [] := by rw [ByteArray.toList_eq]
theorem fit_A : nA.Fit := ⟨by simp [nA], by simp [nA], by simp [nA], by simp [nA], by decide⟩
theorem fit_N : nN.Fit := ⟨by simp [nN], by simp [nN], by simp [nN], by simp [nN], by decide⟩
theorem fit_H : nH.Fit := ⟨by simp [nH], by simp [nH], by simp [nH], by simp [nH], by decide⟩
theorem fit_Z : nZ.Fit := ⟨by simp [nZ], by simp [nZ], by simp [nZ], by simp [nZ], by decide⟩
theorem may_A : may nA .nil = true := by simp [may, mayT, mayB, mayF, formedB, kidsOf, flen, nA, ByteArray.size]
theorem may_N : may nN .nil = true := by simp [may, mayT, mayB, mayF, formedB, kidsOf, flen, nN, emp_list]
theorem may_H : may nH fN = true := by simp [may, mayT, mayB, mayF, formedB, kidsOf, flen, nN, nH, fN, emp_list]
theorem may_Z : may nZ .nil = false := by simp [may, mayT, mayB, mayF, formedB, kidsOf, flen, nZ]
theorem ord_AN : ordT nA .nil nN .nil = -1 := by simp [ordT, ordN, ordF, orI, cmpI, nA, nN]
theorem ord_NA : ordT nN .nil nA .nil = 1 := by simp [ordT, ordN, ordF, orI, cmpI, nA, nN]
theorem ord_HN : ordT nH fN nN .nil = 1 := by simp [ordT, ordN, ordF, orI, cmpI, nH, nN]
theorem miss_HN : missT nN .nil nH fN = false := by simp [missT, missF, fN, ordT_self]
theorem nonces_H : (nonces nH fN).length = 1 := by
  have : nonT nH fN = [0] := by simp [nonT, nonF, nH, nN, fN]
  rw [nonces, this, List.mergeSort_singleton]; decide

/-- What known has made, from block N on. -/
def KnownAt (w : World) (N : Nat) : Prop :=
  Box4 w N (.int .i64 1) (.int .i64 0) (.string ⟨#[98]⟩) (.slice none 0 0) ∧ Box4 w (N + 1) (.int .i64 2) (.int .i64 0) (.string ⟨#[]⟩) (.slice none 0 0) ∧
    Box4 w (N + 1 + 1) (.int .i64 2) (.int .i64 0) (.string ⟨#[]⟩) (.slice none 0 0) ∧ Box4 w (N + 1 + 1 + 1) (.int .i64 3) (.int .i64 0) (.string ⟨#[]⟩) (.slice (some ⟨N + 1 + 1, 0, none⟩) 1 1)

theorem KnownAt.below {w w' : World} {N : Nat} (h : KnownAt w N) (hb : Below w.heap.size w w') : KnownAt w' N := ⟨h.1.below hb, h.2.1.below hb, h.2.2.1.below hb, h.2.2.2.below hb⟩
theorem KnownAt.alloc {w : World} {N : Nat} (h : KnownAt w N) (o : Obj) : KnownAt (w.alloc o) N := h.below (Below.alloc (Below.refl _ _) (Nat.le_refl _) _)

theorem KnownAt.repA (w : World) : RepV w w.heap.size nA .nil (.agg #[.int .i64 1, .int .i64 0, .string ⟨#[98]⟩, .slice none 0 0]) := ⟨fit_A, none, 0, 0, 0, rfl, Nat.zero_le _, .inl rfl, trivial⟩
theorem KnownAt.repN (w : World) : RepV w w.heap.size nN .nil (.agg #[.int .i64 2, .int .i64 0, .string ⟨#[]⟩, .slice none 0 0]) := ⟨fit_N, none, 0, 0, 0, rfl, Nat.zero_le _, .inl rfl, trivial⟩
theorem KnownAt.repZ (w : World) : RepV w w.heap.size nZ .nil (.agg #[.int .i64 0, .int .i64 0, .string ⟨#[]⟩, .slice none 0 0]) := ⟨fit_Z, none, 0, 0, 0, rfl, Nat.zero_le _, .inl rfl, trivial⟩
theorem KnownAt.repH {w : World} {N : Nat} (h : KnownAt w N) : RepV w w.heap.size nH fN (.agg #[.int .i64 3, .int .i64 0, .string ⟨#[]⟩, .slice (some ⟨N + 1 + 1, 0, none⟩) 1 1]) :=
  ⟨fit_H, some ⟨N + 1 + 1, 0, none⟩, 1, N + 1 + 1, 0, rfl, by simp [flen, fN], .inr rfl, ⟨h.2.2.1.1, fit_N, h.2.2.1.2.1, h.2.2.1.2.2.1, h.2.2.1.2.2.2.1, ⟨none, 0, 0, 0, h.2.2.1.2.2.2.2, Nat.zero_le _, .inl rfl, trivial⟩, trivial⟩⟩

def kA : Kd := ⟨0, 0, nA, .nil, none, 0, 0, 0⟩
def kN : Kd := ⟨0, 0, nN, .nil, none, 0, 0, 0⟩

theorem sort3_len {ks L : List Kd} (h : SortOf ks L) (hk : foOf ks .nil = .node 0 0 nN .nil (.node 0 0 nA .nil (.node 0 0 nN .nil .nil))) : L.length = 2 := by
  obtain ⟨h1, h2, h3⟩ := h
  match ks, hk with
  | [k1, k2, k3], hk =>
    simp only [foOf] at hk
    injection hk with _ _ a1 l1 hk
    injection hk with _ _ a2 l2 hk
    injection hk with _ _ a3 l3 hk
    have e1 : ∀ j, ordK k1 j = ordT nN .nil j.a j.l := fun j => by rw [ordK, a1, l1]
    have e2 : ∀ j, ordK k2 j = ordT nA .nil j.a j.l := fun j => by rw [ordK, a2, l2]
    have e3 : ∀ j, ordK k3 j = ordT nN .nil j.a j.l := fun j => by rw [ordK, a3, l3]
    have c21 : ordK k2 k1 = -1 := by rw [e2, a1, l1]; exact ord_AN
    have c13 : ordK k1 k3 = 0 := by rw [e1, a3, l3]; exact ordT_self _ _
    have hM : [k2, k1].Pairwise (fun j k => ordK j k < 0) := by simp [c21]
    have := sortOf_unique L [k2, k1] h1 hM (fun x hx => by
      have := h2 x hx
      simp at this
      rcases this with rfl | rfl | rfl
      · exact ⟨x, by simp, ordK_self _⟩
      · exact ⟨x, by simp, ordK_self _⟩
      · exact ⟨k1, by simp, by rw [neg_ordK, c13]; rfl⟩) (fun y hy => by
      simp at hy
      rcases hy with rfl | rfl
      · exact h3 y (by simp)
      · exact h3 y (by simp))
    simpa using this.1
  | [], hk => simp [foOf] at hk
  | [_], hk => simp [foOf] at hk
  | [_, _], hk => simp [foOf] at hk
  | _ :: _ :: _ :: _ :: _, hk => simp [foOf] at hk

def f3 : Fo := .node 0 0 nN .nil (.node 0 0 nA .nil (.node 0 0 nN .nil .nil))
theorem flen3 : flen f3 = 3 := rfl
theorem mayF3 : MayF f3 := ⟨may_N, may_A, may_N, trivial⟩
theorem rep3 (w : World) : RepF (w.alloc (.cells #[.int .i64 2, .int .i64 0, .string ⟨#[]⟩, .slice none 0 0, .int .i64 1, .int .i64 0, .string ⟨#[98]⟩, .slice none 0 0, .int .i64 2, .int .i64 0, .string ⟨#[]⟩, .slice none 0 0] 30)) (w.heap.size + 1) f3 w.heap.size 0 := by
  have c : ∀ o, (w.alloc (.cells #[.int .i64 2, .int .i64 0, .string ⟨#[]⟩, .slice none 0 0, .int .i64 1, .int .i64 0, .string ⟨#[98]⟩, .slice none 0 0, .int .i64 2, .int .i64 0, .string ⟨#[]⟩, .slice none 0 0] 30)).cell? ⟨w.heap.size, o, none⟩ =
      (#[.int .i64 2, .int .i64 0, .string ⟨#[]⟩, .slice none 0 0, .int .i64 1, .int .i64 0, .string ⟨#[98]⟩, .slice none 0 0, .int .i64 2, .int .i64 0, .string ⟨#[]⟩, .slice none 0 0] : Array Value)[o]? := fun o => by simp [go_sem]
  exact ⟨by omega, fit_N, by rw [c]; rfl, by rw [c]; rfl, by rw [c]; rfl, ⟨none, 0, 0, 0, by rw [c]; rfl, Nat.zero_le _, .inl rfl, trivial⟩, by omega, fit_A, by rw [c]; rfl, by rw [c]; rfl, by rw [c]; rfl, ⟨none, 0, 0, 0, by rw [c]; rfl, Nat.zero_le _, .inl rfl, trivial⟩,
    by omega, fit_N, by rw [c]; rfl, by rw [c]; rfl, by rw [c]; rfl, ⟨none, 0, 0, 0, by rw [c]; rfl, Nat.zero_le _, .inl rfl, trivial⟩, trivial⟩

set_option maxRecDepth 20000 in
set_option maxHeartbeats 4000000 in
theorem known_any (w : World) : Calls Try.prog 5 #[] w fun e w' => e = .returned (.bool true) ∧ Below w.heap.size w w' := by
  go_enter Try.func5, Try.ntmps5
  go_wp2_with fail
  have hk0 : KnownAt ((((w.alloc (.cells #[.int .i64 1, .int .i64 0, .string ⟨#[98]⟩, .slice none 0 0] 30)).alloc (.cells #[.int .i64 2, .int .i64 0, .string ⟨#[]⟩, .slice none 0 0] 30)).alloc (.cells #[.int .i64 2, .int .i64 0, .string ⟨#[]⟩, .slice none 0 0] 30)).alloc
      (.cells #[.int .i64 3, .int .i64 0, .string ⟨#[]⟩, .slice (some ⟨w.heap.size + 1 + 1, 0, none⟩) 1 1] 30)) w.heap.size := by
    refine ⟨(((Box4.new w _ _ _ _ _).alloc _).alloc _).alloc _, ?_, ?_, ?_⟩
    · have h := ((Box4.new (w.alloc (.cells #[.int .i64 1, .int .i64 0, .string ⟨#[98]⟩, .slice none 0 0] 30)) (.int .i64 2) (.int .i64 0) (.string ⟨#[]⟩) (.slice none 0 0) 30).alloc (.cells #[.int .i64 2, .int .i64 0, .string ⟨#[]⟩, .slice none 0 0] 30)).alloc (.cells #[.int .i64 3, .int .i64 0, .string ⟨#[]⟩, .slice (some ⟨w.heap.size + 1 + 1, 0, none⟩) 1 1] 30)
      simpa using h
    · have h := (Box4.new ((w.alloc (.cells #[.int .i64 1, .int .i64 0, .string ⟨#[98]⟩, .slice none 0 0] 30)).alloc (.cells #[.int .i64 2, .int .i64 0, .string ⟨#[]⟩, .slice none 0 0] 30)) (.int .i64 2) (.int .i64 0) (.string ⟨#[]⟩) (.slice none 0 0) 30).alloc (.cells #[.int .i64 3, .int .i64 0, .string ⟨#[]⟩, .slice (some ⟨w.heap.size + 1 + 1, 0, none⟩) 1 1] 30)
      simpa using h
    · have h := Box4.new (((w.alloc (.cells #[.int .i64 1, .int .i64 0, .string ⟨#[98]⟩, .slice none 0 0] 30)).alloc (.cells #[.int .i64 2, .int .i64 0, .string ⟨#[]⟩, .slice none 0 0] 30)).alloc (.cells #[.int .i64 2, .int .i64 0, .string ⟨#[]⟩, .slice none 0 0] 30)) (.int .i64 3) (.int .i64 0) (.string ⟨#[]⟩) (.slice (some ⟨w.heap.size + 1 + 1, 0, none⟩) 1 1) 30
      simpa using h
  have hb0 : Below w.heap.size w ((((w.alloc (.cells #[.int .i64 1, .int .i64 0, .string ⟨#[98]⟩, .slice none 0 0] 30)).alloc (.cells #[.int .i64 2, .int .i64 0, .string ⟨#[]⟩, .slice none 0 0] 30)).alloc (.cells #[.int .i64 2, .int .i64 0, .string ⟨#[]⟩, .slice none 0 0] 30)).alloc
      (.cells #[.int .i64 3, .int .i64 0, .string ⟨#[]⟩, .slice (some ⟨w.heap.size + 1 + 1, 0, none⟩) 1 1] 30)) := (by repeat (first | exact Below.refl _ _ | assumption | refine below_drewN ?_ _ | refine Below.drew ?_ | refine Below.alloc ?_ (by simp <;> omega) _ | refine Below.setCell ?_ (by simp <;> omega) _))
  refine (may_any nA .nil _ _ (KnownAt.repA _)).mono ?_
  rw [may_A]
  rintro e w1 ⟨rfl, ho1⟩
  have hk1 := hk0.below ho1
  have hb1 : Below w.heap.size w w1 := hb0.trans (ho1.mono (by have := hb0.size; omega))
  obtain ⟨a0, a1, a2, a3, a4⟩ := hk1.1
  obtain ⟨n0, n1, n2, n3, n4⟩ := hk1.2.1
  obtain ⟨t0, t1, t2, t3, t4⟩ := hk1.2.2.2
  go_wp2_with fail
  clear a0 a1 a2 a3 a4 n0 n1 n2 n3 n4 t0 t1 t2 t3 t4
  refine (may_any nZ .nil _ _ (KnownAt.repZ _)).mono ?_
  rw [may_Z]
  rintro e w2 ⟨rfl, ho2⟩
  have hk2 := hk1.below ho2
  have hb2 : Below w.heap.size w w2 := hb1.trans (ho2.mono (by have := hb1.size; omega))
  obtain ⟨a0, a1, a2, a3, a4⟩ := hk2.1
  obtain ⟨n0, n1, n2, n3, n4⟩ := hk2.2.1
  obtain ⟨t0, t1, t2, t3, t4⟩ := hk2.2.2.2
  go_wp2_with fail
  clear a0 a1 a2 a3 a4 n0 n1 n2 n3 n4 t0 t1 t2 t3 t4
  refine (size_any nH fN _ w2.heap.size _ (Nat.le_refl _) hk2.repH may_H).mono ?_
  rw [show ((1 : Int) + (sizeF fN : Nat)) = 2 from rfl]
  rintro e w3 ⟨rfl, ho3⟩
  have hk3 := hk2.below ho3
  have hb3 : Below w.heap.size w w3 := hb2.trans (ho3.mono (by have := hb2.size; omega))
  obtain ⟨a0, a1, a2, a3, a4⟩ := hk3.1
  obtain ⟨n0, n1, n2, n3, n4⟩ := hk3.2.1
  obtain ⟨t0, t1, t2, t3, t4⟩ := hk3.2.2.2
  go_wp2_with fail
  clear a0 a1 a2 a3 a4 n0 n1 n2 n3 n4 t0 t1 t2 t3 t4
  refine (same_any nH fN nH fN _ _ w3.heap.size _ hk3.repH hk3.repH (Nat.le_refl _) may_H may_H).mono ?_
  rw [ordT_self]
  rintro e w4 ⟨rfl, ho4⟩
  have hk4 := hk3.below ho4
  have hb4 : Below w.heap.size w w4 := hb3.trans (ho4.mono (by have := hb3.size; omega))
  obtain ⟨a0, a1, a2, a3, a4⟩ := hk4.1
  obtain ⟨n0, n1, n2, n3, n4⟩ := hk4.2.1
  obtain ⟨t0, t1, t2, t3, t4⟩ := hk4.2.2.2
  go_wp2_with fail
  clear a0 a1 a2 a3 a4 n0 n1 n2 n3 n4 t0 t1 t2 t3 t4
  refine (same_any nA .nil nN .nil _ _ w4.heap.size _ (KnownAt.repA _) (KnownAt.repN _) (Nat.le_refl _) may_A may_N).mono ?_
  rw [ord_AN]
  rintro e w5 ⟨rfl, ho5⟩
  have hk5 := hk4.below ho5
  have hb5 : Below w.heap.size w w5 := hb4.trans (ho5.mono (by have := hb4.size; omega))
  obtain ⟨a0, a1, a2, a3, a4⟩ := hk5.1
  obtain ⟨n0, n1, n2, n3, n4⟩ := hk5.2.1
  obtain ⟨t0, t1, t2, t3, t4⟩ := hk5.2.2.2
  go_wp2_with fail
  clear a0 a1 a2 a3 a4 n0 n1 n2 n3 n4 t0 t1 t2 t3 t4
  refine (less_any nA .nil nN .nil _ _ w5.heap.size _ (KnownAt.repA _) (KnownAt.repN _) (Nat.le_refl _) may_A may_N).mono ?_
  rw [ord_AN]
  rintro e w6 ⟨rfl, ho6⟩
  have hk6 := hk5.below ho6
  have hb6 : Below w.heap.size w w6 := hb5.trans (ho6.mono (by have := hb5.size; omega))
  obtain ⟨a0, a1, a2, a3, a4⟩ := hk6.1
  obtain ⟨n0, n1, n2, n3, n4⟩ := hk6.2.1
  obtain ⟨t0, t1, t2, t3, t4⟩ := hk6.2.2.2
  go_wp2_with fail
  clear a0 a1 a2 a3 a4 n0 n1 n2 n3 n4 t0 t1 t2 t3 t4
  refine (less_any nN .nil nA .nil _ _ w6.heap.size _ (KnownAt.repN _) (KnownAt.repA _) (Nat.le_refl _) may_N may_A).mono ?_
  rw [ord_NA]
  rintro e w7 ⟨rfl, ho7⟩
  have hk7 := hk6.below ho7
  have hb7 : Below w.heap.size w w7 := hb6.trans (ho7.mono (by have := hb6.size; omega))
  obtain ⟨a0, a1, a2, a3, a4⟩ := hk7.1
  obtain ⟨n0, n1, n2, n3, n4⟩ := hk7.2.1
  obtain ⟨t0, t1, t2, t3, t4⟩ := hk7.2.2.2
  go_wp2_with fail
  clear a0 a1 a2 a3 a4 n0 n1 n2 n3 n4 t0 t1 t2 t3 t4
  refine (has_any nH fN nN .nil _ _ w7.heap.size _ hk7.repH (KnownAt.repN _) (Nat.le_refl _) may_H may_N).mono ?_
  rw [miss_HN]
  rintro e w8 ⟨rfl, ho8⟩
  have hk8 := hk7.below ho8
  have hb8 : Below w.heap.size w w8 := hb7.trans (ho8.mono (by have := hb7.size; omega))
  obtain ⟨a0, a1, a2, a3, a4⟩ := hk8.1
  obtain ⟨n0, n1, n2, n3, n4⟩ := hk8.2.1
  obtain ⟨t0, t1, t2, t3, t4⟩ := hk8.2.2.2
  go_wp2_with fail
  clear a0 a1 a2 a3 a4 n0 n1 n2 n3 n4 t0 t1 t2 t3 t4
  refine (nonces_any nH fN _ w8.heap.size _ (Nat.le_refl _) hk8.repH may_H).mono ?_
  rintro e w9 ⟨u, rfl, ho9, hu⟩
  have hu1 : ∃ A c, u = .slice A 1 c := by
    rcases hu with ⟨h, _⟩ | ⟨g, c, h, _⟩
    · have := nonces_H; rw [h] at this; simp at this
    · rw [nonces_H] at h; exact ⟨_, _, h⟩
  obtain ⟨uA, uc, rfl⟩ := hu1
  clear hu
  have hk9 := hk8.below ho9
  have hb9 : Below w.heap.size w w9 := hb8.trans (ho9.mono (by have := hb8.size; omega))
  obtain ⟨a0, a1, a2, a3, a4⟩ := hk9.1
  obtain ⟨n0, n1, n2, n3, n4⟩ := hk9.2.1
  obtain ⟨t0, t1, t2, t3, t4⟩ := hk9.2.2.2
  go_wp2_with fail
  clear a0 a1 a2 a3 a4 n0 n1 n2 n3 n4 t0 t1 t2 t3 t4
  have hs := sort_any (w9.alloc (.cells #[.int .i64 2, .int .i64 0, .string ⟨#[]⟩, .slice none 0 0, .int .i64 1, .int .i64 0, .string ⟨#[98]⟩, .slice none 0 0, .int .i64 2, .int .i64 0, .string ⟨#[]⟩, .slice none 0 0] 30)) f3 (some ⟨w9.heap.size, 0, none⟩) 3 w9.heap.size 0 (w9.heap.size + 1) (by simp) (.inr rfl) (rep3 w9) (by decide) mayF3
  rw [flen3] at hs
  refine hs.mono ?_
  clear hs
  rintro e w10 ⟨ks, L, M, g, c, hf, hso, hML, _, rfl, hrow, hge, ho10⟩
  have hM : M.length = 2 := hML.trans (sort3_len hso hf.symm)
  rw [hM]
  clear hM hML hso hf hrow
  have hb10 : Below w.heap.size w w10 := hb9.trans (Below.trans (Below.alloc (Below.refl _ _) (by have := hb9.size; omega) _) (ho10.mono (by have := hb9.size; simp; omega)))
  go_wp2_with fail
  go_ret
  exact ⟨rfl, hb10⟩

end Go.Proofs.Ytooffmmfacdjeaa
