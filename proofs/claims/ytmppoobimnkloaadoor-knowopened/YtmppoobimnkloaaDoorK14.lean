import Derived.Test.YtmppoobimnkloaaDoorWZ
import Derived.Test.YtmppoobimnkloaaDoorKQ
namespace Go.Proofs.YtmppoobimnkloaaDoor
open Go.RowKit
set_option linter.unusedVariables false
set_option linter.unusedSimpArgs false

/-- Whether a term is among some. -/
def amongB (ks : List Kd) (a : Nd) (l : Fo) : Bool := ks.any fun k => ordT k.a k.l a l == 0

theorem among_true {ks : List Kd} {a : Nd} {l : Fo} {n : Nat} (hn : n < ks.length) (h : ordT (ks.getD n kd0).a (ks.getD n kd0).l a l = 0) : amongB ks a l = true := by
  unfold amongB
  rw [List.any_eq_true]
  exact ⟨_, getD_mem hn, beq_iff_eq.2 h⟩
theorem among_false {ks : List Kd} {a : Nd} {l : Fo} (h : ∀ j, j < ks.length → ordT (ks.getD j kd0).a (ks.getD j kd0).l a l ≠ 0) : amongB ks a l = false := by
  unfold amongB
  rw [List.any_eq_false]
  intro k hk
  obtain ⟨j, hj, rfl⟩ := List.getElem_of_mem hk
  have := h j hj
  rw [show ks.getD j kd0 = ks[j] from by simp [List.getD, List.getElem?_eq_getElem hj]] at this
  simpa using this
theorem among_iff (ks : List Kd) (a : Nd) (l : Fo) : amongB ks a l = true ↔ InL (tms ks) (nm (a, l)) := by
  unfold amongB
  rw [List.any_eq_true]
  constructor
  · rintro ⟨k, hk, e⟩
    exact ⟨(k.a, k.l), List.mem_map_of_mem hk, nm_iff.2 (by simpa using e)⟩
  · rintro ⟨x, hx, e⟩
    rw [tms, List.mem_map] at hx
    obtain ⟨k, hk, rfl⟩ := hx
    exact ⟨k, hk, by simpa using nm_iff.1 e⟩

def AmRel (w : World) (ks : List Kd) (a : Nd) (l : Fo) (iv : Value) (wr : World) : Prop :=
  ∃ n : Nat, iv = .int .i64 (n : Int) ∧ n ≤ ks.length ∧ (∀ j, j < n → ordT (ks.getD j kd0).a (ks.getD j kd0).l a l ≠ 0) ∧ Below w.heap.size w wr

set_option maxRecDepth 20000 in
set_option maxHeartbeats 2000000 in
theorem among_any (ks : List Kd) (vo : Value) (a : Nd) (l : Fo) (v : Value) (B : Nat) (w : World) (h : SlT w vo ks) (hl : ks.length ≤ 1000) (hv : RepV w B a l v) (hB : B ≤ w.heap.size) (k1 : (flen l : Int) = kidsOf a.kind) (r1 : ArF l) :
    Calls Tryd.prog 8 #[vo, v] w fun e w' => e = .returned (.bool (amongB ks a l)) ∧ Below w.heap.size w w' := by
  obtain ⟨A, c, rfl, hA⟩ := h.len
  have HA : Hid (ks.length = 0 ∨ ∃ g, A = some ⟨g, 0, none⟩ ∧ RowT w g ks) := hA
  have HV : Hid (RepV w B a l v) := hv
  obtain ⟨hf, A', cap', b', o', rfl, hn', hA', hr'⟩ := hv
  have K1 : Hid ((flen l : Int) = kidsOf a.kind) := k1
  clear hA h hA' hr' k1
  go_enter Tryd.func8, Tryd.ntmps8
  go_wp2_with fail
  obtain ⟨W, hW⟩ : ∃ W : World, W = w.alloc (.cells #[.int .i64 a.kind, .int .i64 a.n, .string a.s, .slice A' (flen l) cap'] 29) := ⟨_, rfl⟩
  have hbx : Box4 W w.heap.size (.int .i64 a.kind) (.int .i64 a.n) (.string a.s) (.slice A' (flen l) cap') := by rw [hW]; exact Box4.new w _ _ _ _ _
  have hbA : Below w.heap.size w W := by rw [hW]; exact Below.alloc (Below.refl _ _) (Nat.le_refl _) _
  rw [← hW]
  clear hW
  have HBX : Hid (Box4 W w.heap.size (.int .i64 a.kind) (.int .i64 a.n) (.string a.s) (.slice A' (flen l) cap')) := hbx
  clear hbx
  go_loopw [5] (fun iv wr => AmRel W ks a l iv wr) (fun iv _ => ks.length - (intOf iv).toNat)
  case atStart => exact ⟨0, rfl, by omega, fun j hj => by omega, Below.refl _ _⟩
  case round =>
    obtain ⟨n, rfl, hn, hno, hbl⟩ := hrel
    have HNO : Hid (∀ j, j < n → ordT (ks.getD j kd0).a (ks.getD j kd0).l a l ≠ 0) := hno
    have hsW := hbA.size
    clear hno
    by_cases hlt : n < ks.length
    · obtain ⟨g, rfl, hrow⟩ : ∃ g, A = some ⟨g, 0, none⟩ ∧ RowT w g ks := by rcases HA.out with h | h; omega; exact h
      have e1 := fun (W' : World) (hW : Below W.heap.size W W') => (hrow.below (hbA.trans (hW.mono hsW))).at n hlt
      have c1 : ∀ W', Below W.heap.size W W' → Calls Tryd.prog 20 #[(ks.getD n kd0).val, .agg #[.int .i64 a.kind, .int .i64 a.n, .string a.s, .slice A' (flen l) cap']] W' fun e w' => e = .returned (.bool (ordT (ks.getD n kd0).a (ks.getD n kd0).l a l == 0)) ∧ Below W.heap.size W w' :=
        fun W' hW => by
          have hb := hbA.trans (hW.mono hsW)
          have hok := (hrow.below hb).ok n hlt
          refine (refSame_any _ _ a l _ _ W'.heap.size W' (Kd.rep hok.1) (RepV.keep (by have := hb.size; omega) (fun b o hb' => (hb.mono hB).cell hb') HV.out) (Nat.le_refl _) hok.2.1 K1.out hok.2.2 r1).mono ?_
          exact fun e w' h => ⟨h.1, hW.trans (h.2.mono hW.size)⟩
      have HY : Hid (ordT (ks.getD n kd0).a (ks.getD n kd0).l a l = ordT (ks.getD n kd0).a (ks.getD n kd0).l a l) := rfl
      generalize hx0 : ks.getD n kd0 = x at *
      have HX : Hid (ks.getD n kd0 = x) := hx0
      obtain ⟨y, hy⟩ : ∃ y : Int, ordT x.a x.l a l = y := ⟨_, rfl⟩
      have HYY : Hid (ordT x.a x.l a l = y) := hy
      rw [hy] at c1
      have E1 : Hid _ := e1
      have C1 : Hid _ := c1
      clear e1 c1 hrow hx0 hy HY
      have hni : (n : Int) < (ks.length : Int) := by omega
      go_wp2_with fail
      go_region_held3 (fun w' => (w'.cell? ⟨g, n * 4, none⟩ = some (.int .i64 x.a.kind) ∧ w'.cell? ⟨g, n * 4 + 1, none⟩ = some (.int .i64 x.a.n) ∧ w'.cell? ⟨g, n * 4 + 2, none⟩ = some (.string x.a.s) ∧ w'.cell? ⟨g, n * 4 + 3, none⟩ = some (.slice x.A (flen x.l) x.cap)) ∧ Box4 w' w.heap.size (.int .i64 a.kind) (.int .i64 a.n) (.string a.s) (.slice A' (flen l) cap') ∧ Below W.heap.size W w')
        (first | exact ⟨E1.out _ hbl.drew, HBX.out.below hbl.drew, hbl.drew⟩ | exact ⟨E1.out _ ho1, HBX.out.below ho1, ho1⟩)
        (first
          | (go_at_call 20; refine (C1.out _ ?_).mono ?_; exact (And.right (And.right (by assumption))); rintro e w1 ⟨rfl, ho1⟩))
      by_cases hy : y = 0
      · have hy' : (y == 0) = true := by simp [hy]
        go_wp2_with fail
        go_ret
        refine ⟨ret_bool (among_true hlt (n := n) ?_).symm, hbA.trans (ho1.mono hsW)⟩
        rw [HX.out, HYY.out]; exact hy
      · have hy' : (y == 0) = false := by simp [hy]
        go_wp2_with fail
        go_roundw
        case rel =>
          refine ⟨n + 1, by go_num, hlt, fun j hj => ?_, ho1⟩
          rcases Nat.lt_or_ge j n with h | h
          · exact HNO.out j h
          · obtain rfl : j = n := by omega
            rw [HX.out, HYY.out]; exact hy
        case measure => simp [intOf]; omega
    · obtain rfl : n = ks.length := by omega
      have hni : decide ((ks.length : Int) < (ks.length : Int)) = false := by simp
      go_wp2_with fail
      go_ret
      exact ⟨ret_bool (among_false HNO.out).symm, hbA.trans (hbl.mono hsW)⟩

end Go.Proofs.YtmppoobimnkloaaDoor
