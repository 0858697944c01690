import Derived.Test.YtldpnhlifgkmiaaDoorW30
import Derived.Test.YtldpnhlifgkmiaaDoorW17
namespace Go.Proofs.YtldpnhlifgkmiaaDoor
open Go.RowKit
set_option linter.unusedVariables false
set_option linter.unusedSimpArgs false

/-- v is a list of the terms ks. -/
def SlT (w : World) (v : Value) (ks : List Kd) : Prop :=
  (ks = [] ∧ v = .slice none 0 0) ∨ ∃ g c, v = .slice (some ⟨g, 0, none⟩) ks.length c ∧ RowT w g ks

theorem SlT.below {w w' : World} {v : Value} {ks : List Kd} (h : SlT w v ks) (hb : Below w.heap.size w w') : SlT w' v ks := by
  rcases h with h | ⟨g, c, h1, h4⟩
  · exact .inl h
  · exact .inr ⟨g, c, h1, h4.below hb⟩

theorem SlT.len {w : World} {v : Value} {ks : List Kd} (h : SlT w v ks) : ∃ A c, v = .slice A ks.length c ∧ (ks.length = 0 ∨ ∃ g, A = some ⟨g, 0, none⟩ ∧ RowT w g ks) := by
  rcases h with ⟨rfl, rfl⟩ | ⟨g, c, h1, h4⟩
  · exact ⟨none, 0, rfl, .inl rfl⟩
  · exact ⟨_, c, h1, .inr ⟨g, rfl, h4⟩⟩

theorem addOf_sort {L L' : List Kd} {t : Kd} (hL : L.Pairwise (fun j k => ordK j k < 0)) (h : AddOf L t L') :
    L'.Pairwise (fun j k => ordK j k < 0) ∧ (∀ y ∈ L', y = t ∨ y ∈ L) ∧ (∀ y ∈ L, y ∈ L') ∧ (∃ y ∈ L', ordK t y = 0) ∧ L'.length ≤ L.length + 1 := by
  obtain ⟨i, hi, hlt, ⟨h1, h2, rfl⟩ | ⟨h1, rfl⟩⟩ := h
  · refine ⟨hL, fun y hy => .inr hy, fun y hy => hy, ⟨L'.getD i kd0, getD_mem h1, ?_⟩, by omega⟩
    rw [neg_ordK]; omega
  · have hcut := List.take_append_drop i L
    have hP := hL
    rw [← hcut, List.pairwise_append] at hP
    obtain ⟨p1, p2, p3⟩ := hP
    have hge : ∀ y ∈ L.drop i, ordK t y < 0 := by
      intro y hy
      rcases h1 with h1 | h1
      · rw [h1, List.drop_length] at hy; cases hy
      · rcases Nat.lt_or_ge i L.length with hil | hil
        · have e : L.getD i kd0 = L[i] := by simp [List.getD, List.getElem?_eq_getElem hil]
          rw [e, neg_ordK] at h1
          rw [List.drop_eq_getElem_cons hil] at hy p2
          rcases List.mem_cons.1 hy with rfl | hy
          · omega
          · have := (List.pairwise_cons.1 p2).1 y hy
            have tt := tri_ordK t L[i] y
            unfold Tri at tt; omega
        · rw [List.drop_of_length_le hil] at hy; cases hy
    have hle : ∀ x ∈ L.take i, ordK x t < 0 := by
      intro x hx
      obtain ⟨j, hj, rfl⟩ := List.getElem_of_mem hx
      simp only [List.length_take] at hj
      have := hlt j (by omega)
      rw [List.getElem_take]
      simpa [List.getD, List.getElem?_eq_getElem (show j < L.length by omega)] using this
    refine ⟨?_, fun y hy => ?_, fun y hy => ?_, ⟨t, by simp, ordK_self t⟩, by simp; omega⟩
    · rw [List.pairwise_append]
      refine ⟨p1, List.pairwise_cons.2 ⟨hge, p2⟩, fun x hx y hy => ?_⟩
      rcases List.mem_cons.1 hy with rfl | hy
      · exact hle x hx
      · exact p3 x hx y hy
    · rcases List.mem_append.1 hy with hy | hy
      · exact .inr (List.mem_of_mem_take hy)
      · rcases List.mem_cons.1 hy with hy | hy
        · exact .inl hy
        · exact .inr (List.mem_of_mem_drop hy)
    · rw [← hcut] at hy
      rcases List.mem_append.1 hy with hy | hy
      · exact List.mem_append.2 (.inl hy)
      · exact List.mem_append.2 (.inr (List.mem_cons_of_mem _ hy))

theorem sortOf_step {ks L L' : List Kd} {n : Nat} (hn : n < ks.length) (h : SortOf (ks.take n) L) (ha : AddOf L (ks.getD n kd0) L') : SortOf (ks.take (n + 1)) L' := by
  obtain ⟨h1, h2, h3⟩ := h
  obtain ⟨a1, a2, a3, a4, _⟩ := addOf_sort h1 ha
  have e : ks.take (n + 1) = ks.take n ++ [ks.getD n kd0] := by rw [List.take_succ_eq_append_getElem hn]; simp [List.getD, List.getElem?_eq_getElem hn]
  refine ⟨a1, fun y hy => ?_, fun x hx => ?_⟩
  · rw [e]
    rcases a2 y hy with rfl | hy
    · simp
    · exact List.mem_append.2 (.inl (h2 y hy))
  · rw [e] at hx
    rcases List.mem_append.1 hx with hx | hx
    · obtain ⟨y, hy, e⟩ := h3 x hx
      exact ⟨y, a3 y hy, e⟩
    · simp at hx; subst hx; exact a4

/-- A list that is nil where it is empty. -/
def SlN (w : World) (v : Value) (ks : List Kd) : Prop := (ks = [] ∧ v = .slice none 0 0) ∨ ∃ g c, v = .slice (some ⟨g, 0, none⟩) ks.length c ∧ 0 < ks.length ∧ ks.length ≤ c ∧ c ≤ 9223372036854775807 ∧ RowT w g ks

theorem SlN.below {w w' : World} {v : Value} {ks : List Kd} (h : SlN w v ks) (hb : Below w.heap.size w w') : SlN w' v ks := by
  rcases h with h | ⟨g, c, h1, h2, h3, h4, h5⟩
  · exact .inl h
  · exact .inr ⟨g, c, h1, h2, h3, h4, h5.below hb⟩
theorem SlN.sl {w : World} {v : Value} {ks : List Kd} (h : SlN w v ks) : SlT w v ks := by
  rcases h with h | ⟨g, c, h1, h2, h3, h4, h5⟩
  · exact .inl h
  · exact .inr ⟨g, c, h1, h5⟩

def SortRel (w : World) (ks : List Kd) (kv iv : Value) (wr : World) : Prop :=
  ∃ (n : Nat) (L : List Kd), iv = .int .i64 (n : Int) ∧ n ≤ ks.length ∧ L.length ≤ n ∧ SortOf (ks.take n) L ∧ SlN wr kv L ∧ Below w.heap.size w wr

def SortEnd (w : World) (ks : List Kd) (e : Ending) (w' : World) : Prop := ∃ (L : List Kd) (u : Value), e = .returned u ∧ SortOf ks L ∧ SlN w' u L ∧ L.length ≤ ks.length ∧ Below w.heap.size w w'

theorem AddOf.pos {L L' : List Kd} {t : Kd} (h : AddOf L t L') : L'.length ≠ 0 := by
  obtain ⟨i, hi, hlt, ⟨h1, h2, rfl⟩ | ⟨h1, rfl⟩⟩ := h
  · omega
  · simp

/-- A list with one more: nil, or a row. -/
theorem add_any {w : World} {v : Value} {L : List Kd} {t : Kd} (hv : SlN w v L) (hl : L.length ≤ 1000) (ht : t.Ok w (fun b => b < w.heap.size) ∧ t.Ar) :
    Calls Tryd.prog 31 #[v, t.val] w fun e w' => ∃ (L' : List Kd) (u : Value), e = .returned u ∧ AddOf L t L' ∧ SlN w' u L' ∧ Below w.heap.size w w' := by
  rcases hv with ⟨rfl, rfl⟩ | ⟨g, c, rfl, h0, h2, h3, h4⟩
  · refine (add_nil t 0 w ht).mono ?_
    rintro e w' ⟨ys, g, c, a1, rfl, a2, a3, a4, a5, a6⟩
    exact ⟨ys, _, rfl, a1, .inr ⟨g, c, rfl, Nat.pos_of_ne_zero a1.pos, a2, a3, a6⟩, a4⟩
  · refine (add_row L t g c w h0 hl h2 h3 h4 ht).mono ?_
    rintro e w' ⟨ys, g, c, a1, rfl, a2, a3, a4, a5, a6⟩
    exact ⟨ys, _, rfl, a1, .inr ⟨g, c, rfl, Nat.pos_of_ne_zero a1.pos, a2, a3, a6⟩, a4⟩

set_option maxRecDepth 20000 in
set_option maxHeartbeats 2000000 in
theorem refAll_any (xs ys : List Kd) (va vb : Value) (w : World) (ha : SlT w va xs) (hb : SlT w vb ys) (hl : xs.length ≤ 1000) (hlen : xs.length = ys.length) (hs : ∀ i, i < xs.length → ordK (xs.getD i kd0) (ys.getD i kd0) = 0) :
    Calls Tryd.prog 11 #[va, vb] w fun e w' => e = .returned (.bool true) ∧ Below w.heap.size w w' := by
  obtain ⟨A, c, rfl, hA⟩ := ha.len
  obtain ⟨A', c', rfl, hA'⟩ := hb.len
  have HA : Hid (xs.length = 0 ∨ ∃ g, A = some ⟨g, 0, none⟩ ∧ RowT w g xs) := hA
  have HA' : Hid (ys.length = 0 ∨ ∃ g, A' = some ⟨g, 0, none⟩ ∧ RowT w g ys) := hA'
  have HS : Hid (∀ i, i < xs.length → ordK (xs.getD i kd0) (ys.getD i kd0) = 0) := hs
  have HL : Hid (xs.length = ys.length) := hlen
  rw [← hlen]
  clear hA hA' ha hb hs hlen
  go_enter Tryd.func11, Tryd.ntmps11
  go_wp2_with fail
  go_loopw [5] (fun iv wr => ∃ n : Nat, iv = .int .i64 (n : Int) ∧ n ≤ xs.length ∧ Below w.heap.size w wr) (fun iv _ => xs.length - (intOf iv).toNat)
  case atStart => exact ⟨0, rfl, by omega, Below.refl _ _⟩
  case round =>
    obtain ⟨n, rfl, hn, hbl⟩ := hrel
    by_cases hlt : n < xs.length
    · obtain ⟨g, rfl, hrow⟩ : ∃ g, A = some ⟨g, 0, none⟩ ∧ RowT w g xs := by rcases HA.out with h | h; omega; exact h
      obtain ⟨g', rfl, hrow'⟩ : ∃ g, A' = some ⟨g, 0, none⟩ ∧ RowT w g ys := by rcases HA'.out with h | h; (have := HL.out; omega); exact h
      have hlt2 : n < ys.length := by have := HL.out; omega
      have e1 := fun (W : World) (hW : Below w.heap.size w W) => (hrow.below hW).at n hlt
      have e2 := fun (W : World) (hW : Below w.heap.size w W) => (hrow'.below hW).at n hlt2
      have c1 : ∀ W, Below w.heap.size w W → Calls Tryd.prog 28 #[(xs.getD n kd0).val, (ys.getD n kd0).val] W fun e w' => e = .returned (.bool (ordK (xs.getD n kd0) (ys.getD n kd0) == 0)) ∧ Below w.heap.size w w' :=
        fun W hW => (refSameK ((hrow.below hW).ok n hlt) ((hrow'.below hW).ok n hlt2)).mono (fun e w' h => ⟨h.1, hW.trans (h.2.mono hW.size)⟩)
      have hq := HS.out n hlt
      generalize xs.getD n kd0 = x at *
      generalize ys.getD n kd0 = y at *
      rw [show (ordK x y == 0) = true from by simp [hq]] at c1
      have E1 : Hid _ := e1
      have E2 : Hid _ := e2
      have C1 : Hid _ := c1
      clear e1 e2 c1 hq hrow hrow'
      have hni : (n : Int) < (xs.length : Int) := by omega
      go_wp2_with fail
      go_region_held3 (fun w' => (w'.cell? ⟨g, n * 4, none⟩ = some (.int .i64 x.a.kind) ∧ w'.cell? ⟨g, n * 4 + 1, none⟩ = some (.int .i64 x.a.n) ∧ w'.cell? ⟨g, n * 4 + 2, none⟩ = some (.string x.a.s) ∧ w'.cell? ⟨g, n * 4 + 3, none⟩ = some (.slice x.A (flen x.l) x.cap)) ∧ (w'.cell? ⟨g', n * 4, none⟩ = some (.int .i64 y.a.kind) ∧ w'.cell? ⟨g', n * 4 + 1, none⟩ = some (.int .i64 y.a.n) ∧ w'.cell? ⟨g', n * 4 + 2, none⟩ = some (.string y.a.s) ∧ w'.cell? ⟨g', n * 4 + 3, none⟩ = some (.slice y.A (flen y.l) y.cap)) ∧ Below w.heap.size w w')
        (first | exact ⟨E1.out _ hbl.drew, E2.out _ hbl.drew, hbl.drew⟩ | exact ⟨E1.out _ ho1, E2.out _ ho1, ho1⟩)
        (first
          | (go_at_call 28; refine (C1.out _ ?_).mono ?_; exact (And.right (And.right (by assumption))); rintro e w1 ⟨rfl, ho1⟩))
      go_wp2_with fail
      go_roundw
      case rel => exact ⟨n + 1, by go_num, hlt, ho1⟩
      case measure => simp [intOf]; omega
    · obtain rfl : n = xs.length := by omega
      have hni : decide ((xs.length : Int) < (xs.length : Int)) = false := by simp
      go_wp2_with fail
      go_ret
      exact ⟨rfl, hbl⟩

end Go.Proofs.YtldpnhlifgkmiaaDoor
