import Derived.Test.YtooffmmfacdjeaaW12
import Derived.Test.YtooffmmfacdjeaaShelf
import Derived.Sort.OwnSortedInts
import Derived.Lib.RowBridge
namespace Go.Proofs.Ytooffmmfacdjeaa
open Go.RowKit
set_option linter.unusedVariables false
set_option linter.unusedSimpArgs false

/-- A row of numbers that a call answers, in blocks from B on. -/
def IntsAt (w : World) (B : Nat) (v : Value) (zs : List Int) : Prop :=
  (zs = [] ∧ ∃ A cap, v = .slice A 0 cap) ∨ ∃ g cap, v = .slice (some ⟨g, 0, none⟩) zs.length cap ∧ B ≤ g ∧ g < w.heap.size ∧ ∀ i, i < zs.length → w.cell? ⟨g, i, none⟩ = some (.int .i64 (zs.getD i 0))

def nonces (a : Nd) (l : Fo) : List Int := Lib.compact ((nonT a l).mergeSort fun x y => decide (x ≤ y))

theorem holds_own {w : World} {base g cap n : Nat} {xs : List Int} (hn : n = xs.length) (h : w.ownsRow base 3 1 (.slice (some ⟨g, 0, none⟩) n cap) n (xs.map (Value.int .i64))) : Sort.Holds (Value.int .i64) w g 0 xs.toArray := by
  subst hn
  intro j hj
  have hj' : j < xs.length := by simpa using hj
  refine ⟨?_, ?_⟩
  · rw [Nat.zero_add, h.cellAt j (by omega)]; simp [hj']
  · rw [Nat.zero_add]; exact h.frozenAt j

theorem compact_le (zs : List Int) : (Lib.compact zs).length ≤ zs.length := by
  exact Lib.compact_length_le zs

set_option maxHeartbeats 2000000 in
theorem nonces_any (a : Nd) (l : Fo) (v : Value) (B : Nat) (w : World) (hB : B ≤ w.heap.size) (hr : RepV w B a l v) (hm : may a l = true) :
    Calls Try.prog 23 #[v] w fun e w' => ∃ u, e = .returned u ∧ Below w.heap.size w w' ∧ IntsAt w' w.heap.size u (nonces a l) := by
  obtain ⟨hf, A, cap, b, o, rfl, hn, hA, hl⟩ := hr
  have HA : Hid (flen l = 0 ∨ A = some ⟨b, o, none⟩) := hA
  have Hm : Hid (may a l = true) := hm
  have hms := may_size a l hm
  clear hA
  go_enter Try.func23, Try.ntmps23
  go_wp2_with fail
  refine (may_any a l _ _ ⟨hf, A, cap, b, o, rfl, hn, HA.out, ?_⟩).mono ?_
  · exact RepF.keep (by simp; omega) (fun b' o' hb' => World.cell?_alloc_past _ _ _ (by omega)) hl
  rintro e w1 ⟨rfl, ho⟩
  obtain ⟨hb0, hb1, hb2, hb3, hb4⟩ : Box4 w1 w.heap.size (.int .i64 a.kind) (.int .i64 a.n) (.string a.s) (.slice A (flen l) cap) := (Box4.new w _ _ _ _ _).below ho
  have hbw1 : Below w.heap.size w w1 := Below.trans (by repeat (first | exact Below.refl _ _ | assumption | refine below_drewN ?_ _ | refine Below.drew ?_ | refine Below.alloc ?_ (by simp <;> omega) _ | refine Below.setCell ?_ (by simp <;> omega) _)) (ho.mono (by simp))
  go_wp2_with fail
  refine (walkNon_step a l (walkNon_all l) _ B 1 w1.heap.size (w1.heap.size + 1) (.slice none 0 0) [] _ ⟨hf, A, cap, b, o, rfl, hn, HA.out, ?_⟩ (by omega) (by omega) (by omega) (by simp; omega)
    ⟨by omega, by simp, by simp [go_sem], by simp [go_sem], World.ownsRow_nil _ _ _ _⟩).mono ?_
  · exact RepF.keep (w := w) (Nat.le_refl _) (fun b' o' hb' => by rw [World.cell?_alloc_past _ _ _ (by omega)]; exact hbw1.cell (by simp; omega)) hl
  rintro e w2 ⟨rfl, v2, ho2, g1, g2, g3, g4, g5⟩
  have hbw2 : Below w.heap.size w w2 := hbw1.trans (Below.trans (Below.alloc (Below.refl _ _) (by omega) _) (ho2.toBelow (by omega) (by simp; omega) (fun k hk => by simp [Value.ownBlock] at hk)))
  have hwz : w.heap.size < w2.heap.size := by have := hbw2.size; omega
  rw [List.nil_append] at g5
  rcases g5.2 with ⟨rfl, hz⟩ | ⟨g, cap2, cur, rfl, k1, k2, k3⟩
  · go_wp2_with fail
    refine (Try.slices_Sort_int_none none 0 w2).mono ?_
    rintro e w3 ⟨rfl, rfl⟩
    go_wp2_with fail
    refine (Try.slices_Compact_int_empty none 0 _).mono ?_
    rintro e w4 ⟨rfl, rfl⟩
    go_wp2_with fail
    go_ret
    exact ⟨_, rfl, hbw2, .inl ⟨by rw [nonces, List.length_eq_zero_iff.1 hz, List.mergeSort_nil]; decide, none, 0, rfl⟩⟩
  · have hg : g < w2.heap.size := (own_ge g5 g rfl).2
    have hlen : (nonT a l).length ≤ 1000 := by have := nonF_size l; rw [nonT, List.length_append]; split <;> simp <;> omega
    have hH := holds_own rfl g5
    have hcap : (nonT a l).length ≤ cap2 := k3.1
    go_wp2_with fail
    refine (Try.slices_Sort_int g 0 cap2 (nonT a l) w2 hH hg (by omega)).mono ?_
    rintro e w3 ⟨rfl, n3, os3, hw3⟩
    have hgb : w2.grownBy w3 (some g) := by rw [hw3]; exact grownBy_sortedI _
    have hne : some w1.heap.size ≠ some g := by intro e; injection e with e; omega
    have hH3 : Sort.Holds (Value.int .i64) w3 g 0 ((nonT a l).mergeSort fun x y => decide (x ≤ y)).toArray := by
      rw [hw3]
      refine Sort.holds_grow _ _ _ _ _ _ (by simpa [Sort.putRow, Sort.mapBlock, Sort.ahead] using hg) ?_
      exact Sort.holds_putRow _ _ _ _ (nonT a l).toArray _ (Sort.holds_ahead _ _ _ _ _ _ hH) (by simp)
    have c3 : w3.cell? ⟨w1.heap.size, 0, none⟩ = some (.slice (some ⟨g, 0, none⟩) (nonT a l).length cap2) := by rw [hgb.cell_far ⟨w1.heap.size, 0, none⟩ (by simp; omega) hne]; exact g3
    have hbw3 : Below w.heap.size w w3 := Below.grown hbw2 hgb (by omega) (fun k hk => by injection hk with hk; omega)
    have hsz3 : g < w3.heap.size := Nat.lt_of_lt_of_le hg hgb.size
    have hlm : ((nonT a l).mergeSort fun x y => decide (x ≤ y)).length = (nonT a l).length := by simp
    have Hno : Hid (nonces a l = Lib.compact ((nonT a l).mergeSort fun x y => decide (x ≤ y))) := rfl
    generalize (nonT a l).mergeSort (fun x y => decide (x ≤ y)) = zs at *
    have hcl := compact_le zs
    clear hw3 hgb g3 g4 hH g5 k2
    rw [← hlm] at c3
    have Hlm : Hid (zs.length = (nonT a l).length) := hlm
    clear hlm
    go_wp2_with fail
    refine (Try.slices_Compact_int g 0 cap2 zs w3 hH3 (by have := Hlm.out; omega) (by have := Hlm.out; omega)).mono ?_
    rintro e w4 ⟨rfl, q, hw4⟩
    have Hw4 : Hid (w4 = _) := hw4
    clear hw4
    go_wp2_with fail
    go_ret
    refine ⟨_, rfl, ?_, .inr ⟨g, cap2, ?_, by omega, ?_, ?_⟩⟩
    · rw [Hw4.out]
      refine hbw3.trans ⟨rfl, rfl, rfl, by simp [Sort.putRow, Sort.mapBlock, Sort.ahead], fun k hk => ?_⟩
      have : g ≠ k := by omega
      simp [Sort.putRow, Sort.mapBlock, Sort.ahead, Array.getElem?_modify, this]
    · rw [Hno.out]; rfl
    · rw [Hw4.out]; simpa [Sort.putRow, Sort.mapBlock, Sort.ahead] using hsz3
    · rw [Hno.out]
      intro i hi
      rw [Hw4.out]
      have h := Sort.cell?_putRow (Value.int .i64) (Sort.ahead w3 q) g 0 zs.toArray (Lib.compact zs ++ List.replicate (zs.length - (Lib.compact zs).length) 0).toArray (Sort.holds_ahead _ _ _ _ _ _ hH3) (by simp; omega) i (by simp; omega)
      rw [Nat.zero_add] at h
      rw [h]
      simp [List.getD, List.getElem?_append, hi]

end Go.Proofs.Ytooffmmfacdjeaa
