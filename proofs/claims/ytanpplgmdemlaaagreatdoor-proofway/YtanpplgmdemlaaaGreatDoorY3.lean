import Derived.Test.YtanpplgmdemlaaaGreatDoorYA
import Derived.Deep.RegionHeld3
namespace Go.Proofs.YtanpplgmdemlaaaGreatDoor
open Go.RowKit
set_option linter.unusedVariables false
set_option linter.unusedSimpArgs false

set_option maxRecDepth 20000 in
set_option maxHeartbeats 2000000 in
theorem one_2 (w : World) (R : Nat) (lv ov : Value) (ks js : List Kd) (Q : Nat → Prop) (x y : Int) (s : ByteArray) (h : OneSt w R lv ov ks js Q) (hl : ks.length ≤ 2000) (hj : js.length ≤ 2000) (hs : s.size ≤ maxLen) :
    Calls Tryz.prog 50 #[.pointer (some ⟨R, 0, none⟩), .agg #[.int .i64 2, .int .i64 x, .int .i64 y, .string s]] w fun e w' => OneEnd4 w (tms ks) (tms js) ⟨2, x, y, s⟩ Q e w' := by
  have H : Hid (OneSt w R lv ov ks js Q) := h
  clear h
  have HS : Hid (s.size ≤ maxLen) := hs
  clear hs
  go_enter Tryz.func50, Tryz.ntmps50
  go_wp2_with fail
  go_quiet (fail)
  go_wp2_with fail
  refine (refA_any _ _).mono ?_
  rintro e w1 ⟨rfl, ho1⟩
  have hbw : Below w.heap.size w w1 := Below.trans (by exact (by repeat (first | exact Below.refl _ _ | assumption | refine below_drewN ?_ _ | refine Below.drew ?_ | refine Below.alloc ?_ (by simp <;> omega) _ | refine Below.setCell ?_ (by simp <;> omega) _))) (ho1.mono (by simp; omega))
  obtain ⟨⟨p0, p1, p2, p3⟩, ⟨r0, r1, r2, r3⟩, ⟨f0, f1, f2, f3⟩⟩ := (ResBox.new w ⟨2, x, y, s⟩).below (by simp) (Below.trans (by exact (by repeat (first | exact Below.refl _ _ | assumption | refine below_drewN ?_ _ | refine Below.drew ?_ | refine Below.alloc ?_ (by simp <;> omega) _ | refine Below.setCell ?_ (by simp <;> omega) _))) (ho1.mono (by simp)))
  have hs1 : w.heap.size + 1 < w1.heap.size := by have := ho1.size; simp at this; omega
  clear ho1
  go_wp2_with fail
  refine bodyPost_ret (v := .tuple #[.agg #[.int .i64 1, .int .i64 0, .string s, .slice none 0 0], .int .i64 0]) (by simp [results, Tryz.results50, go_sem, r0, r1, r2, r3]) rfl ?_
  refine OneEnd4.of (w := w) (k := ⟨0, 0, ⟨1, 0, s⟩, .nil, none, 0, 0, 0⟩) (by exact (by repeat (first | exact Below.refl _ _ | assumption | refine below_drewN ?_ _ | refine Below.drew ?_ | refine Below.alloc ?_ (by simp <;> omega) _ | refine Below.setCell ?_ (by simp <;> omega) _))) ?_ fun hb => ⟨fit_atom s HS.out, ⟨by simp [flen], by simp [flen]⟩, .inl rfl, trivial⟩
  unfold rawP
  rw [if_neg (by simp), if_pos (by simp)]

set_option maxRecDepth 20000 in
set_option maxHeartbeats 2000000 in
theorem one_6 (w : World) (R : Nat) (lv ov : Value) (ks js : List Kd) (Q : Nat → Prop) (x y : Int) (s : ByteArray) (h : OneSt w R lv ov ks js Q) (hl : ks.length ≤ 2000) (hj : js.length ≤ 2000) (hs : s.size ≤ maxLen) :
    Calls Tryz.prog 50 #[.pointer (some ⟨R, 0, none⟩), .agg #[.int .i64 6, .int .i64 x, .int .i64 y, .string s]] w fun e w' => OneEnd4 w (tms ks) (tms js) ⟨6, x, y, s⟩ Q e w' := by
  have H : Hid (OneSt w R lv ov ks js Q) := h
  clear h hs
  by_cases hx : inR js.length x
  · have HO := H.out.out hx
    have hraw : atL (tms js) x = some ((js.getD x.toNat kd0).a, (js.getD x.toNat kd0).l) := atL_in hx
    have cA : Hid (∀ W, OneSt W R lv ov ks js Q → Calls Tryz.prog 66 #[.pointer (some ⟨R, 0, none⟩), .int .i64 x] W fun e w' => e = .returned (.tuple #[.agg #[.int .i64 (js.getD x.toNat kd0).a.kind, .int .i64 (js.getD x.toNat kd0).a.n, .string (js.getD x.toNat kd0).a.s, .slice (js.getD x.toNat kd0).A (flen (js.getD x.toNat kd0).l) (js.getD x.toNat kd0).cap], .bool true]) ∧ Below W.heap.size W w') := fun W hW => at_in W R lv ov ks js Q x hW hx hj
    generalize js.getD x.toNat kd0 = k1 at *
    have HO1 : Hid (k1.Ok w Q ∧ may k1.a k1.l = true) := HO
    clear HO hx
    have HR : Hid (rawP (tms ks) (tms js) ⟨6, x, y, s⟩ = .ok (⟨3, 0, ByteArray.empty⟩, .node 0 0 k1.a k1.l .nil)) := by
      show rawP _ _ _ = _
      unfold rawP
      rw [if_neg (by simp), if_neg (by simp), if_neg (by simp), if_neg (by simp), if_neg (by simp), if_pos (by simp), show (⟨6, x, y, s⟩ : Mv).a = x from rfl, hraw]; rfl
    clear hraw
    go_enter Tryz.func50, Tryz.ntmps50
    go_wp2_with fail
    go_quiet (fail)
    go_wp2_with fail
    refine (cA.out _ (H.out.below (by exact (by repeat (first | exact Below.refl _ _ | assumption | refine below_drewN ?_ _ | refine Below.drew ?_ | refine Below.alloc ?_ (by simp <;> omega) _ | refine Below.setCell ?_ (by simp <;> omega) _))))).mono ?_
    rintro e w1 ⟨rfl, ho1⟩
    have hb1 : Below w.heap.size w w1 := Below.trans (by exact (by repeat (first | exact Below.refl _ _ | assumption | refine below_drewN ?_ _ | refine Below.drew ?_ | refine Below.alloc ?_ (by simp <;> omega) _ | refine Below.setCell ?_ (by simp <;> omega) _))) (ho1.mono (by simp; omega))
    have rb1 := (ResBox.new w ⟨6, x, y, s⟩).below (by simp) (Below.trans (by exact (by repeat (first | exact Below.refl _ _ | assumption | refine below_drewN ?_ _ | refine Below.drew ?_ | refine Below.alloc ?_ (by simp <;> omega) _ | refine Below.setCell ?_ (by simp <;> omega) _))) (ho1.mono (by simp)))
    have hs1 : w.heap.size + 1 < w1.heap.size := by have := ho1.size; simp at this; omega
    have RB1 : Hid (ResBox w w1 ⟨6, x, y, s⟩) := rb1
    obtain ⟨⟨p0, p1, p2, p3⟩, ⟨r0, r1, r2, r3⟩, ⟨f0, f1, f2, f3⟩⟩ := rb1
    have hs0 : w.heap.size < w1.heap.size := by omega
    dsimp only at p0 p1 p2 p3
    clear ho1
    go_wp2_with fail
    refine (at_any _ R lv ov ks js Q y (H.out.below (hb1.alloc hb1.size _)) hj).mono ?_
    rintro e w2 ⟨⟨k2, b2, rfl, hb2, hk2⟩, ho2⟩
    have hbw : Below w.heap.size w w2 := Below.trans (hb1.alloc hb1.size _) (ho2.mono (by have := hb1.size; simp; omega))
    clear p0 p1 p2 p3 r0 r1 r2 r3 f0 f1 f2 f3
    have rb2 := RB1.out.below hs1 (Below.trans (Below.alloc (Below.refl _ _) (Nat.le_refl _) _) (ho2.mono (by simp)))
    have RB2 : Hid (ResBox w w2 ⟨6, x, y, s⟩) := rb2
    obtain ⟨⟨p0, p1, p2, p3⟩, ⟨r0, r1, r2, r3⟩, ⟨f0, f1, f2, f3⟩⟩ := rb2
    obtain ⟨q0, q1, q2, q3, q4⟩ := Box4.below (Box4.new w1 (.int .i64 k1.a.kind) (.int .i64 k1.a.n) (.string k1.a.s) (.slice k1.A (flen k1.l) k1.cap) 27) ho2
    have hs2 : w1.heap.size < w2.heap.size := q0
    have HB2 : Hid (b2 = true ↔ inR js.length y) := hb2
    have HK2 : Hid (b2 = true → k2 = js.getD y.toNat kd0) := hk2
    have ht0 : w.heap.size < w2.heap.size := by omega
    have ht1 : w.heap.size + 1 < w2.heap.size := by omega
    dsimp only at p0 p1 p2 p3
    clear ho2 hb1 hb2 hk2
    go_wp2_with fail
    refine (refT_any _ _ _ _ _).mono ?_
    rintro e w3 ⟨rfl, ho3⟩
    have hbw3 : Below w.heap.size w w3 := Below.trans ((hbw.alloc hbw.size _).alloc (by have := hbw.size; simp; omega) _) (ho3.mono (by simp; omega))
    have HNE : Hid (w2.heap.size + 1 ≠ w.heap.size + 1 ∧ w.heap.size ≤ w2.heap.size + 1 ∧ w2.heap.size + 1 < w3.heap.size) := ⟨by omega, by omega, by have := ho3.size; simp at this; omega⟩
    clear p0 p1 p2 p3 r0 r1 r2 r3 f0 f1 f2 f3 q0 q1 q2 q3 q4
    obtain ⟨⟨p0, p1, p2, p3⟩, ⟨r0, r1, r2, r3⟩, ⟨f0, f1, f2, f3⟩⟩ := RB2.out.below ht1 (Below.trans (by exact (by repeat (first | exact Below.refl _ _ | assumption | refine below_drewN ?_ _ | refine Below.drew ?_ | refine Below.alloc ?_ (by simp <;> omega) _ | refine Below.setCell ?_ (by simp <;> omega) _))) (ho3.mono (by simp; omega)))
    have g0 : w3.cell? ⟨w2.heap.size + 1, 0, none⟩ = some (.int .i64 k1.a.kind) := by rw [ho3.cell (by simp)]; simp [go_sem]
    have g1 : w3.cell? ⟨w2.heap.size + 1, 1, none⟩ = some (.int .i64 k1.a.n) := by rw [ho3.cell (by simp)]; simp [go_sem]
    have g2 : w3.cell? ⟨w2.heap.size + 1, 2, none⟩ = some (.string k1.a.s) := by rw [ho3.cell (by simp)]; simp [go_sem]
    have g3 : w3.cell? ⟨w2.heap.size + 1, 3, none⟩ = some (.slice k1.A (flen k1.l) k1.cap) := by rw [ho3.cell (by simp)]; simp [go_sem]
    have hu1 : w.heap.size + 1 < w3.heap.size := by have := ho3.size; simp at this; omega
    have hu2 : w2.heap.size + 1 < w3.heap.size := by have := ho3.size; simp at this; omega
    clear ho3
    go_wp2_with fail
    refine bodyPost_ret (v := .tuple #[.agg #[.int .i64 3, .int .i64 0, .string ByteArray.empty, .slice (some ⟨w2.heap.size + 1, 0, none⟩) 1 1], .int .i64 0]) (by simp [results, Tryz.results50, go_sem, r0, r1, r2, r3, hu1]) rfl ?_
    refine OneEnd4.of (w := w) (k := ⟨0, 0, ⟨3, 0, ByteArray.empty⟩, .node 0 0 k1.a k1.l .nil, some ⟨w2.heap.size + 1, 0, none⟩, 1, w2.heap.size + 1, 0⟩) (by exact (by repeat (first | exact Below.refl _ _ | assumption | refine below_drewN ?_ _ | refine Below.drew ?_ | refine Below.alloc ?_ (by simp <;> omega) _ | refine Below.setCell ?_ (by simp <;> omega) _))) HR.out fun hb => ⟨fit_kind _ (by omega), ⟨by simp [flen], by simp [flen]⟩, .inr rfl, row1 (.inr ⟨HNE.out.2.1, by simp [World.setCell]; exact HNE.out.2.2⟩) (H.out.known hb HO1.out.1) ?_ ?_ ?_ ?_⟩
    all_goals (rw [cell_set4 _ _ _ _ _ _ _ _ HNE.out.1]; first | exact g0 | exact g1 | exact g2 | exact g3)
  · have HR : Hid (rawP (tms ks) (tms js) ⟨6, x, y, s⟩ = .error 8) := by
      show rawP _ _ _ = _
      unfold rawP
      rw [if_neg (by simp), if_neg (by simp), if_neg (by simp), if_neg (by simp), if_neg (by simp), if_pos (by simp), show (⟨6, x, y, s⟩ : Mv).a = x from rfl, atL_out hx]; rfl
    have cA : Hid (∀ W, OneSt W R lv ov ks js Q → Calls Tryz.prog 66 #[.pointer (some ⟨R, 0, none⟩), .int .i64 x] W fun e w' => e = .returned (.tuple #[zeroT, .bool false]) ∧ Below W.heap.size W w') := fun W hW => at_out W R lv ov ks js Q x hW hx hj
    obtain ⟨k1, hk1⟩ : ∃ k1 : Kd, k1 = ⟨0, 0, ⟨0, 0, ⟨#[]⟩⟩, .nil, none, 0, 0, 0⟩ := ⟨_, rfl⟩
    have hzT : zeroT = .agg #[.int .i64 k1.a.kind, .int .i64 k1.a.n, .string k1.a.s, .slice k1.A (flen k1.l) k1.cap] := by rw [hk1]; rfl
    rw [hzT] at cA
    clear hzT hk1 hx
    go_enter Tryz.func50, Tryz.ntmps50
    go_wp2_with fail
    go_quiet (fail)
    go_wp2_with fail
    refine (cA.out _ (H.out.below (by exact (by repeat (first | exact Below.refl _ _ | assumption | refine below_drewN ?_ _ | refine Below.drew ?_ | refine Below.alloc ?_ (by simp <;> omega) _ | refine Below.setCell ?_ (by simp <;> omega) _))))).mono ?_
    rintro e w1 ⟨rfl, ho1⟩
    have hb1 : Below w.heap.size w w1 := Below.trans (by exact (by repeat (first | exact Below.refl _ _ | assumption | refine below_drewN ?_ _ | refine Below.drew ?_ | refine Below.alloc ?_ (by simp <;> omega) _ | refine Below.setCell ?_ (by simp <;> omega) _))) (ho1.mono (by simp; omega))
    have rb1 := (ResBox.new w ⟨6, x, y, s⟩).below (by simp) (Below.trans (by exact (by repeat (first | exact Below.refl _ _ | assumption | refine below_drewN ?_ _ | refine Below.drew ?_ | refine Below.alloc ?_ (by simp <;> omega) _ | refine Below.setCell ?_ (by simp <;> omega) _))) (ho1.mono (by simp)))
    have hs1 : w.heap.size + 1 < w1.heap.size := by have := ho1.size; simp at this; omega
    have RB1 : Hid (ResBox w w1 ⟨6, x, y, s⟩) := rb1
    obtain ⟨⟨p0, p1, p2, p3⟩, ⟨r0, r1, r2, r3⟩, ⟨f0, f1, f2, f3⟩⟩ := rb1
    have hs0 : w.heap.size < w1.heap.size := by omega
    dsimp only at p0 p1 p2 p3
    clear ho1
    go_wp2_with fail
    refine (at_any _ R lv ov ks js Q y (H.out.below (hb1.alloc hb1.size _)) hj).mono ?_
    rintro e w2 ⟨⟨k2, b2, rfl, hb2, hk2⟩, ho2⟩
    have hbw : Below w.heap.size w w2 := Below.trans (hb1.alloc hb1.size _) (ho2.mono (by have := hb1.size; simp; omega))
    clear p0 p1 p2 p3 r0 r1 r2 r3 f0 f1 f2 f3
    have rb2 := RB1.out.below hs1 (Below.trans (Below.alloc (Below.refl _ _) (Nat.le_refl _) _) (ho2.mono (by simp)))
    have RB2 : Hid (ResBox w w2 ⟨6, x, y, s⟩) := rb2
    obtain ⟨⟨p0, p1, p2, p3⟩, ⟨r0, r1, r2, r3⟩, ⟨f0, f1, f2, f3⟩⟩ := rb2
    obtain ⟨q0, q1, q2, q3, q4⟩ := Box4.below (Box4.new w1 (.int .i64 k1.a.kind) (.int .i64 k1.a.n) (.string k1.a.s) (.slice k1.A (flen k1.l) k1.cap) 27) ho2
    have hs2 : w1.heap.size < w2.heap.size := q0
    have HB2 : Hid (b2 = true ↔ inR js.length y) := hb2
    have HK2 : Hid (b2 = true → k2 = js.getD y.toNat kd0) := hk2
    have ht0 : w.heap.size < w2.heap.size := by omega
    have ht1 : w.heap.size + 1 < w2.heap.size := by omega
    dsimp only at p0 p1 p2 p3
    clear ho2 hb1 hb2 hk2
    go_wp2_with fail
    refine bodyPost_ret (v := .tuple #[zeroT, .int .i64 8]) (by simp [results, Tryz.results50, go_sem, r0, r1, r2, r3, ht1]) rfl ?_
    exact ⟨by exact (by repeat (first | exact Below.refl _ _ | assumption | refine below_drewN ?_ _ | refine Below.drew ?_ | refine Below.alloc ?_ (by simp <;> omega) _ | refine Below.setCell ?_ (by simp <;> omega) _)), .inl ⟨8, HR.out, by decide, rfl⟩⟩

set_option maxRecDepth 20000 in
set_option maxHeartbeats 2000000 in
theorem one_7 (w : World) (R : Nat) (lv ov : Value) (ks js : List Kd) (Q : Nat → Prop) (x y : Int) (s : ByteArray) (h : OneSt w R lv ov ks js Q) (hl : ks.length ≤ 2000) (hj : js.length ≤ 2000) (hs : s.size ≤ maxLen) :
    Calls Tryz.prog 50 #[.pointer (some ⟨R, 0, none⟩), .agg #[.int .i64 7, .int .i64 x, .int .i64 y, .string s]] w fun e w' => OneEnd4 w (tms ks) (tms js) ⟨7, x, y, s⟩ Q e w' := by
  have H : Hid (OneSt w R lv ov ks js Q) := h
  clear h hs
  by_cases hx : inR js.length x
  · have HO := H.out.out hx
    have hraw : atL (tms js) x = some ((js.getD x.toNat kd0).a, (js.getD x.toNat kd0).l) := atL_in hx
    have cA : Hid (∀ W, OneSt W R lv ov ks js Q → Calls Tryz.prog 66 #[.pointer (some ⟨R, 0, none⟩), .int .i64 x] W fun e w' => e = .returned (.tuple #[.agg #[.int .i64 (js.getD x.toNat kd0).a.kind, .int .i64 (js.getD x.toNat kd0).a.n, .string (js.getD x.toNat kd0).a.s, .slice (js.getD x.toNat kd0).A (flen (js.getD x.toNat kd0).l) (js.getD x.toNat kd0).cap], .bool true]) ∧ Below W.heap.size W w') := fun W hW => at_in W R lv ov ks js Q x hW hx hj
    generalize js.getD x.toNat kd0 = k1 at *
    have HO1 : Hid (k1.Ok w Q ∧ may k1.a k1.l = true) := HO
    clear HO hx
    have HR : Hid (rawP (tms ks) (tms js) ⟨7, x, y, s⟩ = .ok (⟨4, 0, ByteArray.empty⟩, .node 0 0 k1.a k1.l .nil)) := by
      show rawP _ _ _ = _
      unfold rawP
      rw [if_neg (by simp), if_neg (by simp), if_neg (by simp), if_neg (by simp), if_neg (by simp), if_pos (by simp), show (⟨7, x, y, s⟩ : Mv).a = x from rfl, hraw]; rfl
    clear hraw
    go_enter Tryz.func50, Tryz.ntmps50
    go_wp2_with fail
    go_quiet (fail)
    go_wp2_with fail
    refine (cA.out _ (H.out.below (by exact (by repeat (first | exact Below.refl _ _ | assumption | refine below_drewN ?_ _ | refine Below.drew ?_ | refine Below.alloc ?_ (by simp <;> omega) _ | refine Below.setCell ?_ (by simp <;> omega) _))))).mono ?_
    rintro e w1 ⟨rfl, ho1⟩
    have hb1 : Below w.heap.size w w1 := Below.trans (by exact (by repeat (first | exact Below.refl _ _ | assumption | refine below_drewN ?_ _ | refine Below.drew ?_ | refine Below.alloc ?_ (by simp <;> omega) _ | refine Below.setCell ?_ (by simp <;> omega) _))) (ho1.mono (by simp; omega))
    have rb1 := (ResBox.new w ⟨7, x, y, s⟩).below (by simp) (Below.trans (by exact (by repeat (first | exact Below.refl _ _ | assumption | refine below_drewN ?_ _ | refine Below.drew ?_ | refine Below.alloc ?_ (by simp <;> omega) _ | refine Below.setCell ?_ (by simp <;> omega) _))) (ho1.mono (by simp)))
    have hs1 : w.heap.size + 1 < w1.heap.size := by have := ho1.size; simp at this; omega
    have RB1 : Hid (ResBox w w1 ⟨7, x, y, s⟩) := rb1
    obtain ⟨⟨p0, p1, p2, p3⟩, ⟨r0, r1, r2, r3⟩, ⟨f0, f1, f2, f3⟩⟩ := rb1
    have hs0 : w.heap.size < w1.heap.size := by omega
    dsimp only at p0 p1 p2 p3
    clear ho1
    go_wp2_with fail
    refine (at_any _ R lv ov ks js Q y (H.out.below (hb1.alloc hb1.size _)) hj).mono ?_
    rintro e w2 ⟨⟨k2, b2, rfl, hb2, hk2⟩, ho2⟩
    have hbw : Below w.heap.size w w2 := Below.trans (hb1.alloc hb1.size _) (ho2.mono (by have := hb1.size; simp; omega))
    clear p0 p1 p2 p3 r0 r1 r2 r3 f0 f1 f2 f3
    have rb2 := RB1.out.below hs1 (Below.trans (Below.alloc (Below.refl _ _) (Nat.le_refl _) _) (ho2.mono (by simp)))
    have RB2 : Hid (ResBox w w2 ⟨7, x, y, s⟩) := rb2
    obtain ⟨⟨p0, p1, p2, p3⟩, ⟨r0, r1, r2, r3⟩, ⟨f0, f1, f2, f3⟩⟩ := rb2
    obtain ⟨q0, q1, q2, q3, q4⟩ := Box4.below (Box4.new w1 (.int .i64 k1.a.kind) (.int .i64 k1.a.n) (.string k1.a.s) (.slice k1.A (flen k1.l) k1.cap) 27) ho2
    have hs2 : w1.heap.size < w2.heap.size := q0
    have HB2 : Hid (b2 = true ↔ inR js.length y) := hb2
    have HK2 : Hid (b2 = true → k2 = js.getD y.toNat kd0) := hk2
    have ht0 : w.heap.size < w2.heap.size := by omega
    have ht1 : w.heap.size + 1 < w2.heap.size := by omega
    dsimp only at p0 p1 p2 p3
    clear ho2 hb1 hb2 hk2
    go_wp2_with fail
    refine (refT_any _ _ _ _ _).mono ?_
    rintro e w3 ⟨rfl, ho3⟩
    have hbw3 : Below w.heap.size w w3 := Below.trans ((hbw.alloc hbw.size _).alloc (by have := hbw.size; simp; omega) _) (ho3.mono (by simp; omega))
    have HNE : Hid (w2.heap.size + 1 ≠ w.heap.size + 1 ∧ w.heap.size ≤ w2.heap.size + 1 ∧ w2.heap.size + 1 < w3.heap.size) := ⟨by omega, by omega, by have := ho3.size; simp at this; omega⟩
    clear p0 p1 p2 p3 r0 r1 r2 r3 f0 f1 f2 f3 q0 q1 q2 q3 q4
    obtain ⟨⟨p0, p1, p2, p3⟩, ⟨r0, r1, r2, r3⟩, ⟨f0, f1, f2, f3⟩⟩ := RB2.out.below ht1 (Below.trans (by exact (by repeat (first | exact Below.refl _ _ | assumption | refine below_drewN ?_ _ | refine Below.drew ?_ | refine Below.alloc ?_ (by simp <;> omega) _ | refine Below.setCell ?_ (by simp <;> omega) _))) (ho3.mono (by simp; omega)))
    have g0 : w3.cell? ⟨w2.heap.size + 1, 0, none⟩ = some (.int .i64 k1.a.kind) := by rw [ho3.cell (by simp)]; simp [go_sem]
    have g1 : w3.cell? ⟨w2.heap.size + 1, 1, none⟩ = some (.int .i64 k1.a.n) := by rw [ho3.cell (by simp)]; simp [go_sem]
    have g2 : w3.cell? ⟨w2.heap.size + 1, 2, none⟩ = some (.string k1.a.s) := by rw [ho3.cell (by simp)]; simp [go_sem]
    have g3 : w3.cell? ⟨w2.heap.size + 1, 3, none⟩ = some (.slice k1.A (flen k1.l) k1.cap) := by rw [ho3.cell (by simp)]; simp [go_sem]
    have hu1 : w.heap.size + 1 < w3.heap.size := by have := ho3.size; simp at this; omega
    have hu2 : w2.heap.size + 1 < w3.heap.size := by have := ho3.size; simp at this; omega
    clear ho3
    go_wp2_with fail
    refine bodyPost_ret (v := .tuple #[.agg #[.int .i64 4, .int .i64 0, .string ByteArray.empty, .slice (some ⟨w2.heap.size + 1, 0, none⟩) 1 1], .int .i64 0]) (by simp [results, Tryz.results50, go_sem, r0, r1, r2, r3, hu1]) rfl ?_
    refine OneEnd4.of (w := w) (k := ⟨0, 0, ⟨4, 0, ByteArray.empty⟩, .node 0 0 k1.a k1.l .nil, some ⟨w2.heap.size + 1, 0, none⟩, 1, w2.heap.size + 1, 0⟩) (by exact (by repeat (first | exact Below.refl _ _ | assumption | refine below_drewN ?_ _ | refine Below.drew ?_ | refine Below.alloc ?_ (by simp <;> omega) _ | refine Below.setCell ?_ (by simp <;> omega) _))) HR.out fun hb => ⟨fit_kind _ (by omega), ⟨by simp [flen], by simp [flen]⟩, .inr rfl, row1 (.inr ⟨HNE.out.2.1, by simp [World.setCell]; exact HNE.out.2.2⟩) (H.out.known hb HO1.out.1) ?_ ?_ ?_ ?_⟩
    all_goals (rw [cell_set4 _ _ _ _ _ _ _ _ HNE.out.1]; first | exact g0 | exact g1 | exact g2 | exact g3)
  · have HR : Hid (rawP (tms ks) (tms js) ⟨7, x, y, s⟩ = .error 8) := by
      show rawP _ _ _ = _
      unfold rawP
      rw [if_neg (by simp), if_neg (by simp), if_neg (by simp), if_neg (by simp), if_neg (by simp), if_pos (by simp), show (⟨7, x, y, s⟩ : Mv).a = x from rfl, atL_out hx]; rfl
    have cA : Hid (∀ W, OneSt W R lv ov ks js Q → Calls Tryz.prog 66 #[.pointer (some ⟨R, 0, none⟩), .int .i64 x] W fun e w' => e = .returned (.tuple #[zeroT, .bool false]) ∧ Below W.heap.size W w') := fun W hW => at_out W R lv ov ks js Q x hW hx hj
    obtain ⟨k1, hk1⟩ : ∃ k1 : Kd, k1 = ⟨0, 0, ⟨0, 0, ⟨#[]⟩⟩, .nil, none, 0, 0, 0⟩ := ⟨_, rfl⟩
    have hzT : zeroT = .agg #[.int .i64 k1.a.kind, .int .i64 k1.a.n, .string k1.a.s, .slice k1.A (flen k1.l) k1.cap] := by rw [hk1]; rfl
    rw [hzT] at cA
    clear hzT hk1 hx
    go_enter Tryz.func50, Tryz.ntmps50
    go_wp2_with fail
    go_quiet (fail)
    go_wp2_with fail
    refine (cA.out _ (H.out.below (by exact (by repeat (first | exact Below.refl _ _ | assumption | refine below_drewN ?_ _ | refine Below.drew ?_ | refine Below.alloc ?_ (by simp <;> omega) _ | refine Below.setCell ?_ (by simp <;> omega) _))))).mono ?_
    rintro e w1 ⟨rfl, ho1⟩
    have hb1 : Below w.heap.size w w1 := Below.trans (by exact (by repeat (first | exact Below.refl _ _ | assumption | refine below_drewN ?_ _ | refine Below.drew ?_ | refine Below.alloc ?_ (by simp <;> omega) _ | refine Below.setCell ?_ (by simp <;> omega) _))) (ho1.mono (by simp; omega))
    have rb1 := (ResBox.new w ⟨7, x, y, s⟩).below (by simp) (Below.trans (by exact (by repeat (first | exact Below.refl _ _ | assumption | refine below_drewN ?_ _ | refine Below.drew ?_ | refine Below.alloc ?_ (by simp <;> omega) _ | refine Below.setCell ?_ (by simp <;> omega) _))) (ho1.mono (by simp)))
    have hs1 : w.heap.size + 1 < w1.heap.size := by have := ho1.size; simp at this; omega
    have RB1 : Hid (ResBox w w1 ⟨7, x, y, s⟩) := rb1
    obtain ⟨⟨p0, p1, p2, p3⟩, ⟨r0, r1, r2, r3⟩, ⟨f0, f1, f2, f3⟩⟩ := rb1
    have hs0 : w.heap.size < w1.heap.size := by omega
    dsimp only at p0 p1 p2 p3
    clear ho1
    go_wp2_with fail
    refine (at_any _ R lv ov ks js Q y (H.out.below (hb1.alloc hb1.size _)) hj).mono ?_
    rintro e w2 ⟨⟨k2, b2, rfl, hb2, hk2⟩, ho2⟩
    have hbw : Below w.heap.size w w2 := Below.trans (hb1.alloc hb1.size _) (ho2.mono (by have := hb1.size; simp; omega))
    clear p0 p1 p2 p3 r0 r1 r2 r3 f0 f1 f2 f3
    have rb2 := RB1.out.below hs1 (Below.trans (Below.alloc (Below.refl _ _) (Nat.le_refl _) _) (ho2.mono (by simp)))
    have RB2 : Hid (ResBox w w2 ⟨7, x, y, s⟩) := rb2
    obtain ⟨⟨p0, p1, p2, p3⟩, ⟨r0, r1, r2, r3⟩, ⟨f0, f1, f2, f3⟩⟩ := rb2
    obtain ⟨q0, q1, q2, q3, q4⟩ := Box4.below (Box4.new w1 (.int .i64 k1.a.kind) (.int .i64 k1.a.n) (.string k1.a.s) (.slice k1.A (flen k1.l) k1.cap) 27) ho2
    have hs2 : w1.heap.size < w2.heap.size := q0
    have HB2 : Hid (b2 = true ↔ inR js.length y) := hb2
    have HK2 : Hid (b2 = true → k2 = js.getD y.toNat kd0) := hk2
    have ht0 : w.heap.size < w2.heap.size := by omega
    have ht1 : w.heap.size + 1 < w2.heap.size := by omega
    dsimp only at p0 p1 p2 p3
    clear ho2 hb1 hb2 hk2
    go_wp2_with fail
    refine bodyPost_ret (v := .tuple #[zeroT, .int .i64 8]) (by simp [results, Tryz.results50, go_sem, r0, r1, r2, r3, ht1]) rfl ?_
    exact ⟨by exact (by repeat (first | exact Below.refl _ _ | assumption | refine below_drewN ?_ _ | refine Below.drew ?_ | refine Below.alloc ?_ (by simp <;> omega) _ | refine Below.setCell ?_ (by simp <;> omega) _)), .inl ⟨8, HR.out, by decide, rfl⟩⟩

end Go.Proofs.YtanpplgmdemlaaaGreatDoor
