import Derived.Test.YtgmmbfnmojjbkaaGreatDoorW24
namespace Go.Proofs.YtgmmbfnmojjbkaaGreatDoor
open Go.RowKit
set_option linter.unusedVariables false
set_option linter.unusedSimpArgs false

theorem RepF.two {w : World} {B : Nat} {f : Fo} {b o : Nat} (h : RepF w B f b o) (hB : B ≤ w.heap.size) (X Y : Obj) : RepF ((w.alloc X).alloc Y) B f b o := h.below (Below.mono (by repeat (first | exact Below.refl _ _ | assumption | refine below_drewN ?_ _ | refine Below.drew ?_ | refine Below.alloc ?_ (by simp <;> omega) _ | refine Below.setCell ?_ (by simp <;> omega) _)) hB)

set_option maxHeartbeats 1000000 in
theorem refSame_any (a : Nd) (l : Fo) (b : Nd) (m : Fo) (v u : Value) (B : Nat) (w : World) (hv : RepV w B a l v) (hu : RepV w B b m u) (hB : B ≤ w.heap.size) (k1 : (flen l : Int) = kidsOf a.kind) (k2 : (flen m : Int) = kidsOf b.kind) (r1 : ArF l) (r2 : ArF m) :
    Calls Tryz.prog 17 #[v, u] w fun e w' => e = .returned (.bool (ordT a l b m == 0)) ∧ Below w.heap.size w w' := by
  obtain ⟨hf, A, cap, b0, o0, rfl, hn, hA, hr⟩ := hv
  obtain ⟨hg, A', cap', b0', o0', rfl, hn', hA', hr'⟩ := hu
  have HA : Hid (flen l = 0 ∨ A = some ⟨b0, o0, none⟩) := hA
  have HA' : Hid (flen m = 0 ∨ A' = some ⟨b0', o0', none⟩) := hA'
  have K1 : Hid ((flen l : Int) = kidsOf a.kind) := k1
  have K2 : Hid ((flen m : Int) = kidsOf b.kind) := k2
  clear hA hA' k1 k2
  go_enter Tryz.func17, Tryz.ntmps17
  go_wp2_with fail
  refine (refOrd_any a l _ _ b m B _ ⟨hf, A, cap, b0, o0, rfl, hn, HA.out, hr.two hB _ _⟩ ⟨hg, A', cap', b0', o0', rfl, hn', HA'.out, hr'.two hB _ _⟩ (by simp; omega) K1.out K2.out r1 r2).mono ?_
  generalize hy0 : ordT a l b m = y
  have Hy : Hid (ordT a l b m = y) := hy0
  clear hy0
  rintro e w1 ⟨rfl, ho1⟩
  have hb1 : Below w.heap.size w w1 := Below.trans (b := (w.alloc _).alloc _) (by repeat (first | exact Below.refl _ _ | assumption | refine below_drewN ?_ _ | refine Below.drew ?_ | refine Below.alloc ?_ (by simp <;> omega) _ | refine Below.setCell ?_ (by simp <;> omega) _)) (ho1.mono (by simp; omega))
  go_wp2_with fail
  go_ret
  exact ⟨ret_bool (by rw [Hy.out]), hb1⟩

set_option maxHeartbeats 1000000 in
theorem refLess_any (a : Nd) (l : Fo) (b : Nd) (m : Fo) (v u : Value) (B : Nat) (w : World) (hv : RepV w B a l v) (hu : RepV w B b m u) (hB : B ≤ w.heap.size) (k1 : (flen l : Int) = kidsOf a.kind) (k2 : (flen m : Int) = kidsOf b.kind) (r1 : ArF l) (r2 : ArF m) :
    Calls Tryz.prog 80 #[v, u] w fun e w' => e = .returned (.bool (decide (ordT a l b m < 0))) ∧ Below w.heap.size w w' := by
  obtain ⟨hf, A, cap, b0, o0, rfl, hn, hA, hr⟩ := hv
  obtain ⟨hg, A', cap', b0', o0', rfl, hn', hA', hr'⟩ := hu
  have HA : Hid (flen l = 0 ∨ A = some ⟨b0, o0, none⟩) := hA
  have HA' : Hid (flen m = 0 ∨ A' = some ⟨b0', o0', none⟩) := hA'
  have K1 : Hid ((flen l : Int) = kidsOf a.kind) := k1
  have K2 : Hid ((flen m : Int) = kidsOf b.kind) := k2
  clear hA hA' k1 k2
  go_enter Tryz.func80, Tryz.ntmps80
  go_wp2_with fail
  refine (refOrd_any a l _ _ b m B _ ⟨hf, A, cap, b0, o0, rfl, hn, HA.out, hr.two hB _ _⟩ ⟨hg, A', cap', b0', o0', rfl, hn', HA'.out, hr'.two hB _ _⟩ (by simp; omega) K1.out K2.out r1 r2).mono ?_
  generalize hy0 : ordT a l b m = y
  have Hy : Hid (ordT a l b m = y) := hy0
  clear hy0
  rintro e w1 ⟨rfl, ho1⟩
  have hb1 : Below w.heap.size w w1 := Below.trans (b := (w.alloc _).alloc _) (by repeat (first | exact Below.refl _ _ | assumption | refine below_drewN ?_ _ | refine Below.drew ?_ | refine Below.alloc ?_ (by simp <;> omega) _ | refine Below.setCell ?_ (by simp <;> omega) _)) (ho1.mono (by simp; omega))
  go_wp2_with fail
  go_ret
  exact ⟨ret_bool (by rw [Hy.out]), hb1⟩

end Go.Proofs.YtgmmbfnmojjbkaaGreatDoor
