import Derived.Test.YtanpplgmdemlaaaGreatDoorW9
namespace Go.Proofs.YtanpplgmdemlaaaGreatDoor
open Go.RowKit
set_option linter.unusedVariables false
set_option linter.unusedSimpArgs false

theorem mayF_ar : ∀ (f : Fo) (deep c : Int), (mayF f deep c).1 = true → ArF f
  | .nil, _, _, _ => trivial
  | .node b o a l r, deep, c, h => by
    rw [mayF] at h
    by_cases hm : mayB a (flen l) deep c = true
    · rw [if_pos hm] at h
      by_cases hl : (mayF l (deep + 1) (c + 1)).1 = true
      · rw [if_pos hl] at h
        refine ⟨?_, mayF_ar l _ _ hl, mayF_ar r _ _ h⟩
        simp only [mayB, formedB, Bool.and_eq_true, decide_eq_true_eq] at hm
        exact hm.2.2.1
      · rw [if_neg hl] at h; simp at h
    · rw [if_neg hm] at h; simp at h

theorem may_ar (a : Nd) (l : Fo) (h : may a l = true) : (flen l : Int) = kidsOf a.kind ∧ ArF l := by
  unfold may at h
  rw [mayT_node a l 1 0 0 0] at h
  have := mayF_ar _ _ _ h
  exact ⟨this.1, this.2.1⟩

/-- Two terms with their boxes: what Same, Less and Has begin with. -/
theorem RepF.alloc2 {w : World} {B : Nat} {f : Fo} {b o : Nat} (hr : RepF w B f b o) (hB : B ≤ w.heap.size) (x y : Obj) : RepF ((w.alloc x).alloc y) ((w.alloc x).alloc y).heap.size f b o :=
  RepF.keep (w := w) (by simp; omega) (fun b' o' hb' => by rw [World.cell?_alloc_past _ _ _ (by simp; omega), World.cell?_alloc_past _ _ _ (by omega)]) hr

set_option maxHeartbeats 1000000 in
theorem same_any (a : Nd) (l : Fo) (b : Nd) (m : Fo) (v u : Value) (B : Nat) (w : World) (hv : RepV w B a l v) (hu : RepV w B b m u) (hB : B ≤ w.heap.size) (ma : may a l = true) (mb : may b m = true) :
    Calls Tryz.prog 26 #[v, u] w fun e w' => e = .returned (.bool (ordT a l b m == 0)) ∧ Below w.heap.size w w' := by
  obtain ⟨hf, A, cap, b0, o0, rfl, hn, hA, hr⟩ := hv
  obtain ⟨hg, A', cap', b0', o0', rfl, hn', hA', hr'⟩ := hu
  have HA : Hid (flen l = 0 ∨ A = some ⟨b0, o0, none⟩) := hA
  have HA' : Hid (flen m = 0 ∨ A' = some ⟨b0', o0', none⟩) := hA'
  have Ma : Hid (may a l = true) := ma
  have Mb : Hid (may b m = true) := mb
  clear hA hA'
  go_enter Tryz.func26, Tryz.ntmps26
  go_wp2_with fail
  refine (may_any a l _ _ ⟨hf, A, cap, b0, o0, rfl, hn, HA.out, hr.alloc2 hB _ _⟩).mono ?_
  rintro e w1 ⟨rfl, ho1⟩
  have hx1 : Box4 w1 w.heap.size (.int .i64 a.kind) (.int .i64 a.n) (.string a.s) (.slice A (flen l) cap) := ((Box4.new w _ _ _ _ _).alloc _).below ho1
  have hy1 : Box4 w1 (w.heap.size + 1) (.int .i64 b.kind) (.int .i64 b.n) (.string b.s) (.slice A' (flen m) cap') := by
    have h := (Box4.new (w.alloc (.cells #[.int .i64 a.kind, .int .i64 a.n, .string a.s, .slice A (flen l) cap] 27)) (.int .i64 b.kind) (.int .i64 b.n) (.string b.s) (.slice A' (flen m) cap') 27).below ho1
    simpa using h
  have hbw1 : Below w.heap.size w w1 := Below.trans (by repeat (first | exact Below.refl _ _ | assumption | refine below_drewN ?_ _ | refine Below.drew ?_ | refine Below.alloc ?_ (by simp <;> omega) _ | refine Below.setCell ?_ (by simp <;> omega) _)) (ho1.mono (by simp <;> omega))
  have hx1' := hx1
  have hy1' := hy1
  obtain ⟨x0, x1, x2, x3, x4⟩ := hx1
  obtain ⟨y0, y1, y2, y3, y4⟩ := hy1
  go_wp2_with fail
  refine (may_any b m _ w1 ⟨hg, A', cap', b0', o0', rfl, hn', HA'.out, RepF.keep (w := w) (by have := hbw1.size; omega) (fun _ _ hb => hbw1.cell (by simp; omega)) hr'⟩).mono ?_
  rintro e w2 ⟨rfl, ho2⟩
  obtain ⟨x0', x1', x2', x3', x4'⟩ := hx1'.below ho2
  obtain ⟨y0', y1', y2', y3', y4'⟩ := hy1'.below ho2
  have hbw : Below w.heap.size w w2 := hbw1.trans (ho2.mono (by omega))
  have hbl : Below B w w2 := hbw.mono hB
  go_wp2_with fail
  refine (ord_any a l _ _ b m B w2 ⟨hf, A, cap, b0, o0, rfl, hn, HA.out, hr.below hbl⟩ ⟨hg, A', cap', b0', o0', rfl, hn', HA'.out, hr'.below hbl⟩ (by have := hbl.size; omega) (may_ar a l Ma.out).1 (may_ar b m Mb.out).1 (may_ar a l Ma.out).2 (may_ar b m Mb.out).2).mono ?_
  rintro e w3 ⟨rfl, ho3⟩
  go_wp2_with fail
  go_ret
  exact ⟨rfl, hbw.trans (ho3.mono (by have := hbw.size; omega))⟩

set_option maxHeartbeats 1000000 in
theorem less_any (a : Nd) (l : Fo) (b : Nd) (m : Fo) (v u : Value) (B : Nat) (w : World) (hv : RepV w B a l v) (hu : RepV w B b m u) (hB : B ≤ w.heap.size) (ma : may a l = true) (mb : may b m = true) :
    Calls Tryz.prog 64 #[v, u] w fun e w' => e = .returned (.bool (decide (ordT a l b m < 0))) ∧ Below w.heap.size w w' := by
  obtain ⟨hf, A, cap, b0, o0, rfl, hn, hA, hr⟩ := hv
  obtain ⟨hg, A', cap', b0', o0', rfl, hn', hA', hr'⟩ := hu
  have HA : Hid (flen l = 0 ∨ A = some ⟨b0, o0, none⟩) := hA
  have HA' : Hid (flen m = 0 ∨ A' = some ⟨b0', o0', none⟩) := hA'
  have Ma : Hid (may a l = true) := ma
  have Mb : Hid (may b m = true) := mb
  clear hA hA'
  go_enter Tryz.func64, Tryz.ntmps64
  go_wp2_with fail
  refine (may_any a l _ _ ⟨hf, A, cap, b0, o0, rfl, hn, HA.out, hr.alloc2 hB _ _⟩).mono ?_
  rintro e w1 ⟨rfl, ho1⟩
  have hx1 : Box4 w1 w.heap.size (.int .i64 a.kind) (.int .i64 a.n) (.string a.s) (.slice A (flen l) cap) := ((Box4.new w _ _ _ _ _).alloc _).below ho1
  have hy1 : Box4 w1 (w.heap.size + 1) (.int .i64 b.kind) (.int .i64 b.n) (.string b.s) (.slice A' (flen m) cap') := by
    have h := (Box4.new (w.alloc (.cells #[.int .i64 a.kind, .int .i64 a.n, .string a.s, .slice A (flen l) cap] 27)) (.int .i64 b.kind) (.int .i64 b.n) (.string b.s) (.slice A' (flen m) cap') 27).below ho1
    simpa using h
  have hbw1 : Below w.heap.size w w1 := Below.trans (by repeat (first | exact Below.refl _ _ | assumption | refine below_drewN ?_ _ | refine Below.drew ?_ | refine Below.alloc ?_ (by simp <;> omega) _ | refine Below.setCell ?_ (by simp <;> omega) _)) (ho1.mono (by simp <;> omega))
  have hx1' := hx1
  have hy1' := hy1
  obtain ⟨x0, x1, x2, x3, x4⟩ := hx1
  obtain ⟨y0, y1, y2, y3, y4⟩ := hy1
  go_wp2_with fail
  refine (may_any b m _ w1 ⟨hg, A', cap', b0', o0', rfl, hn', HA'.out, RepF.keep (w := w) (by have := hbw1.size; omega) (fun _ _ hb => hbw1.cell (by simp; omega)) hr'⟩).mono ?_
  rintro e w2 ⟨rfl, ho2⟩
  obtain ⟨x0', x1', x2', x3', x4'⟩ := hx1'.below ho2
  obtain ⟨y0', y1', y2', y3', y4'⟩ := hy1'.below ho2
  have hbw : Below w.heap.size w w2 := hbw1.trans (ho2.mono (by omega))
  have hbl : Below B w w2 := hbw.mono hB
  go_wp2_with fail
  refine (ord_any a l _ _ b m B w2 ⟨hf, A, cap, b0, o0, rfl, hn, HA.out, hr.below hbl⟩ ⟨hg, A', cap', b0', o0', rfl, hn', HA'.out, hr'.below hbl⟩ (by have := hbl.size; omega) (may_ar a l Ma.out).1 (may_ar b m Mb.out).1 (may_ar a l Ma.out).2 (may_ar b m Mb.out).2).mono ?_
  rintro e w3 ⟨rfl, ho3⟩
  go_wp2_with fail
  go_ret
  exact ⟨rfl, hbw.trans (ho3.mono (by have := hbw.size; omega))⟩

end Go.Proofs.YtanpplgmdemlaaaGreatDoor
