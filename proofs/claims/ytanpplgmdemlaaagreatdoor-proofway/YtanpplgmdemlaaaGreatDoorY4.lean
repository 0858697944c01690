import Derived.Test.YtanpplgmdemlaaaGreatDoorYA
import Derived.Deep.RegionHeld3
namespace Go.Proofs.YtanpplgmdemlaaaGreatDoor
open Go.RowKit
set_option linter.unusedVariables false
set_option linter.unusedSimpArgs false

set_option maxRecDepth 20000 in
set_option maxHeartbeats 2000000 in
theorem one_8 (w : World) (R : Nat) (lv ov : Value) (ks js : List Kd) (Q : Nat → Prop) (x y : Int) (s : ByteArray) (h : OneSt w R lv ov ks js Q) (hl : ks.length ≤ 2000) (hj : js.length ≤ 2000) (hs : s.size ≤ maxLen) :
    Calls Tryz.prog 50 #[.pointer (some ⟨R, 0, none⟩), .agg #[.int .i64 8, .int .i64 x, .int .i64 y, .string s]] w fun e w' => OneEnd4 w (tms ks) (tms js) ⟨8, x, y, s⟩ Q e w' := by
  have H : Hid (OneSt w R lv ov ks js Q) := h
  clear h hs
  by_cases hx : inR js.length x
  · have HO := H.out.out hx
    have hraw : atL (tms js) x = some ((js.getD x.toNat kd0).a, (js.getD x.toNat kd0).l) := atL_in hx
    have cA : Hid (∀ W, OneSt W R lv ov ks js Q → Calls Tryz.prog 66 #[.pointer (some ⟨R, 0, none⟩), .int .i64 x] W fun e w' => e = .returned (.tuple #[.agg #[.int .i64 (js.getD x.toNat kd0).a.kind, .int .i64 (js.getD x.toNat kd0).a.n, .string (js.getD x.toNat kd0).a.s, .slice (js.getD x.toNat kd0).A (flen (js.getD x.toNat kd0).l) (js.getD x.toNat kd0).cap], .bool true]) ∧ Below W.heap.size W w') := fun W hW => at_in W R lv ov ks js Q x hW hx hj
    generalize js.getD x.toNat kd0 = k1 at *
    have HO1 : Hid (k1.Ok w Q ∧ may k1.a k1.l = true) := HO
    clear HO hx
    go_enter Tryz.func50, Tryz.ntmps50
    go_wp2_with fail
    go_quiet (fail)
    go_wp2_with fail
    refine (cA.out _ (H.out.below (by exact (by repeat (first | exact Below.refl _ _ | assumption | refine below_drewN ?_ _ | refine Below.drew ?_ | refine Below.alloc ?_ (by simp <;> omega) _ | refine Below.setCell ?_ (by simp <;> omega) _))))).mono ?_
    rintro e w1 ⟨rfl, ho1⟩
    have hb1 : Below w.heap.size w w1 := Below.trans (by exact (by repeat (first | exact Below.refl _ _ | assumption | refine below_drewN ?_ _ | refine Below.drew ?_ | refine Below.alloc ?_ (by simp <;> omega) _ | refine Below.setCell ?_ (by simp <;> omega) _))) (ho1.mono (by simp; omega))
    have rb1 := (ResBox.new w ⟨8, x, y, s⟩).below (by simp) (Below.trans (by exact (by repeat (first | exact Below.refl _ _ | assumption | refine below_drewN ?_ _ | refine Below.drew ?_ | refine Below.alloc ?_ (by simp <;> omega) _ | refine Below.setCell ?_ (by simp <;> omega) _))) (ho1.mono (by simp)))
    have hs1 : w.heap.size + 1 < w1.heap.size := by have := ho1.size; simp at this; omega
    have RB1 : Hid (ResBox w w1 ⟨8, x, y, s⟩) := rb1
    obtain ⟨⟨p0, p1, p2, p3⟩, ⟨r0, r1, r2, r3⟩, ⟨f0, f1, f2, f3⟩⟩ := rb1
    have hs0 : w.heap.size < w1.heap.size := by omega
    dsimp only at p0 p1 p2 p3
    clear ho1
    go_wp2_with fail
    refine (at_any _ R lv ov ks js Q y (H.out.below (hb1.alloc hb1.size _)) hj).mono ?_
    rintro e w2 ⟨⟨k2, b2, rfl, hb2, hk2⟩, ho2⟩
    have hbw : Below w.heap.size w w2 := Below.trans (hb1.alloc hb1.size _) (ho2.mono (by have := hb1.size; simp; omega))
    clear p0 p1 p2 p3 r0 r1 r2 r3 f0 f1 f2 f3
    have rb2 := RB1.out.below hs1 (Below.trans (Below.alloc (Below.refl _ _) (Nat.le_refl _) _) (ho2.mono (by simp)))
    have RB2 : Hid (ResBox w w2 ⟨8, x, y, s⟩) := rb2
    obtain ⟨⟨p0, p1, p2, p3⟩, ⟨r0, r1, r2, r3⟩, ⟨f0, f1, f2, f3⟩⟩ := rb2
    obtain ⟨q0, q1, q2, q3, q4⟩ := Box4.below (Box4.new w1 (.int .i64 k1.a.kind) (.int .i64 k1.a.n) (.string k1.a.s) (.slice k1.A (flen k1.l) k1.cap) 27) ho2
    have hs2 : w1.heap.size < w2.heap.size := q0
    have HB2 : Hid (b2 = true ↔ inR js.length y) := hb2
    have HK2 : Hid (b2 = true → k2 = js.getD y.toNat kd0) := hk2
    have ht0 : w.heap.size < w2.heap.size := by omega
    have ht1 : w.heap.size + 1 < w2.heap.size := by omega
    dsimp only at p0 p1 p2 p3
    clear ho2 hb1 hb2 hk2
    cases b2 with
    | false =>
      have hy : ¬ inR js.length y := fun h => by have := HB2.out.2 h; cases this
      have HR : Hid (rawP (tms ks) (tms js) ⟨8, x, y, s⟩ = .error 8) := by
        show rawP _ _ _ = _
        unfold rawP
        rw [if_neg (by simp), if_neg (by simp), if_neg (by simp), if_neg (by simp), if_neg (by simp), if_neg (by simp), if_pos (by simp), show (⟨8, x, y, s⟩ : Mv).a = x from rfl, show (⟨8, x, y, s⟩ : Mv).b = y from rfl, hraw, atL_out hy]; rfl
      clear hraw hy HB2 HK2
      go_wp2_with fail
      refine bodyPost_ret (v := .tuple #[zeroT, .int .i64 8]) (by simp [results, Tryz.results50, go_sem, r0, r1, r2, r3, ht1]) rfl ?_
      exact ⟨by exact (by repeat (first | exact Below.refl _ _ | assumption | refine below_drewN ?_ _ | refine Below.drew ?_ | refine Below.alloc ?_ (by simp <;> omega) _ | refine Below.setCell ?_ (by simp <;> omega) _)), .inl ⟨8, HR.out, by decide, rfl⟩⟩
    | true =>
    have hy : inR js.length y := HB2.out.1 rfl
    have HO2 := H.out.out hy
    have hraw2 : atL (tms js) y = some ((js.getD y.toNat kd0).a, (js.getD y.toNat kd0).l) := atL_in hy
    rw [← HK2.out rfl] at HO2 hraw2
    have HO2 : Hid (k2.Ok w Q ∧ may k2.a k2.l = true) := HO2
    have HR : Hid (rawP (tms ks) (tms js) ⟨8, x, y, s⟩ = .ok (⟨5, 0, ByteArray.empty⟩, .node 0 0 k1.a k1.l (.node 0 0 k2.a k2.l .nil))) := by
      show rawP _ _ _ = _
      unfold rawP
      rw [if_neg (by simp), if_neg (by simp), if_neg (by simp), if_neg (by simp), if_neg (by simp), if_neg (by simp), if_pos (by simp), show (⟨8, x, y, s⟩ : Mv).a = x from rfl, show (⟨8, x, y, s⟩ : Mv).b = y from rfl, hraw, hraw2]; rfl
    clear hraw hraw2 hy HB2 HK2
    go_wp2_with fail
    refine (refT_any _ _ _ _ _).mono ?_
    rintro e w3 ⟨rfl, ho3⟩
    have hbw3 : Below w.heap.size w w3 := Below.trans ((hbw.alloc hbw.size _).alloc (by have := hbw.size; simp; omega) _) (ho3.mono (by simp; omega))
    have HNE : Hid (w2.heap.size + 1 ≠ w.heap.size + 1 ∧ w.heap.size ≤ w2.heap.size + 1 ∧ w2.heap.size + 1 < w3.heap.size) := ⟨by omega, by omega, by have := ho3.size; simp at this; omega⟩
    clear p0 p1 p2 p3 r0 r1 r2 r3 f0 f1 f2 f3 q0 q1 q2 q3 q4
    obtain ⟨⟨p0, p1, p2, p3⟩, ⟨r0, r1, r2, r3⟩, ⟨f0, f1, f2, f3⟩⟩ := RB2.out.below ht1 (Below.trans (by exact (by repeat (first | exact Below.refl _ _ | assumption | refine below_drewN ?_ _ | refine Below.drew ?_ | refine Below.alloc ?_ (by simp <;> omega) _ | refine Below.setCell ?_ (by simp <;> omega) _))) (ho3.mono (by simp; omega)))
    have g0 : w3.cell? ⟨w2.heap.size + 1, 0, none⟩ = some (.int .i64 k1.a.kind) := by rw [ho3.cell (by simp)]; simp [go_sem]
    have g1 : w3.cell? ⟨w2.heap.size + 1, 1, none⟩ = some (.int .i64 k1.a.n) := by rw [ho3.cell (by simp)]; simp [go_sem]
    have g2 : w3.cell? ⟨w2.heap.size + 1, 2, none⟩ = some (.string k1.a.s) := by rw [ho3.cell (by simp)]; simp [go_sem]
    have g3 : w3.cell? ⟨w2.heap.size + 1, 3, none⟩ = some (.slice k1.A (flen k1.l) k1.cap) := by rw [ho3.cell (by simp)]; simp [go_sem]
    have g4 : w3.cell? ⟨w2.heap.size + 1, 4, none⟩ = some (.int .i64 k2.a.kind) := by rw [ho3.cell (by simp)]; simp [go_sem]
    have g5 : w3.cell? ⟨w2.heap.size + 1, 5, none⟩ = some (.int .i64 k2.a.n) := by rw [ho3.cell (by simp)]; simp [go_sem]
    have g6 : w3.cell? ⟨w2.heap.size + 1, 6, none⟩ = some (.string k2.a.s) := by rw [ho3.cell (by simp)]; simp [go_sem]
    have g7 : w3.cell? ⟨w2.heap.size + 1, 7, none⟩ = some (.slice k2.A (flen k2.l) k2.cap) := by rw [ho3.cell (by simp)]; simp [go_sem]
    have hu1 : w.heap.size + 1 < w3.heap.size := by have := ho3.size; simp at this; omega
    have hu2 : w2.heap.size + 1 < w3.heap.size := by have := ho3.size; simp at this; omega
    clear ho3
    go_wp2_with fail
    refine bodyPost_ret (v := .tuple #[.agg #[.int .i64 5, .int .i64 0, .string ByteArray.empty, .slice (some ⟨w2.heap.size + 1, 0, none⟩) 2 2], .int .i64 0]) (by simp [results, Tryz.results50, go_sem, r0, r1, r2, r3, hu1]) rfl ?_
    refine OneEnd4.of (w := w) (k := ⟨0, 0, ⟨5, 0, ByteArray.empty⟩, .node 0 0 k1.a k1.l (.node 0 0 k2.a k2.l .nil), some ⟨w2.heap.size + 1, 0, none⟩, 2, w2.heap.size + 1, 0⟩) (by exact (by repeat (first | exact Below.refl _ _ | assumption | refine below_drewN ?_ _ | refine Below.drew ?_ | refine Below.alloc ?_ (by simp <;> omega) _ | refine Below.setCell ?_ (by simp <;> omega) _))) HR.out fun hb => ⟨fit_kind _ (by omega), ⟨by simp [flen], by simp [flen]⟩, .inr rfl, row2 (.inr ⟨HNE.out.2.1, by simp [World.setCell]; exact HNE.out.2.2⟩) (H.out.known hb HO1.out.1) (H.out.known hb HO2.out.1) ?_ ?_ ?_ ?_ ?_ ?_ ?_ ?_⟩
    all_goals (rw [cell_set4 _ _ _ _ _ _ _ _ HNE.out.1]; first | exact g0 | exact g1 | exact g2 | exact g3 | exact g4 | exact g5 | exact g6 | exact g7)
  · have HR : Hid (rawP (tms ks) (tms js) ⟨8, x, y, s⟩ = .error 8) := by
      show rawP _ _ _ = _
      unfold rawP
      rw [if_neg (by simp), if_neg (by simp), if_neg (by simp), if_neg (by simp), if_neg (by simp), if_neg (by simp), if_pos (by simp), show (⟨8, x, y, s⟩ : Mv).a = x from rfl, atL_out hx]; rfl
    have cA : Hid (∀ W, OneSt W R lv ov ks js Q → Calls Tryz.prog 66 #[.pointer (some ⟨R, 0, none⟩), .int .i64 x] W fun e w' => e = .returned (.tuple #[zeroT, .bool false]) ∧ Below W.heap.size W w') := fun W hW => at_out W R lv ov ks js Q x hW hx hj
    obtain ⟨k1, hk1⟩ : ∃ k1 : Kd, k1 = ⟨0, 0, ⟨0, 0, ⟨#[]⟩⟩, .nil, none, 0, 0, 0⟩ := ⟨_, rfl⟩
    have hzT : zeroT = .agg #[.int .i64 k1.a.kind, .int .i64 k1.a.n, .string k1.a.s, .slice k1.A (flen k1.l) k1.cap] := by rw [hk1]; rfl
    rw [hzT] at cA
    clear hzT hk1 hx
    go_enter Tryz.func50, Tryz.ntmps50
    go_wp2_with fail
    go_quiet (fail)
    go_wp2_with fail
    refine (cA.out _ (H.out.below (by exact (by repeat (first | exact Below.refl _ _ | assumption | refine below_drewN ?_ _ | refine Below.drew ?_ | refine Below.alloc ?_ (by simp <;> omega) _ | refine Below.setCell ?_ (by simp <;> omega) _))))).mono ?_
    rintro e w1 ⟨rfl, ho1⟩
    have hb1 : Below w.heap.size w w1 := Below.trans (by exact (by repeat (first | exact Below.refl _ _ | assumption | refine below_drewN ?_ _ | refine Below.drew ?_ | refine Below.alloc ?_ (by simp <;> omega) _ | refine Below.setCell ?_ (by simp <;> omega) _))) (ho1.mono (by simp; omega))
    have rb1 := (ResBox.new w ⟨8, x, y, s⟩).below (by simp) (Below.trans (by exact (by repeat (first | exact Below.refl _ _ | assumption | refine below_drewN ?_ _ | refine Below.drew ?_ | refine Below.alloc ?_ (by simp <;> omega) _ | refine Below.setCell ?_ (by simp <;> omega) _))) (ho1.mono (by simp)))
    have hs1 : w.heap.size + 1 < w1.heap.size := by have := ho1.size; simp at this; omega
    have RB1 : Hid (ResBox w w1 ⟨8, x, y, s⟩) := rb1
    obtain ⟨⟨p0, p1, p2, p3⟩, ⟨r0, r1, r2, r3⟩, ⟨f0, f1, f2, f3⟩⟩ := rb1
    have hs0 : w.heap.size < w1.heap.size := by omega
    dsimp only at p0 p1 p2 p3
    clear ho1
    go_wp2_with fail
    refine (at_any _ R lv ov ks js Q y (H.out.below (hb1.alloc hb1.size _)) hj).mono ?_
    rintro e w2 ⟨⟨k2, b2, rfl, hb2, hk2⟩, ho2⟩
    have hbw : Below w.heap.size w w2 := Below.trans (hb1.alloc hb1.size _) (ho2.mono (by have := hb1.size; simp; omega))
    clear p0 p1 p2 p3 r0 r1 r2 r3 f0 f1 f2 f3
    have rb2 := RB1.out.below hs1 (Below.trans (Below.alloc (Below.refl _ _) (Nat.le_refl _) _) (ho2.mono (by simp)))
    have RB2 : Hid (ResBox w w2 ⟨8, x, y, s⟩) := rb2
    obtain ⟨⟨p0, p1, p2, p3⟩, ⟨r0, r1, r2, r3⟩, ⟨f0, f1, f2, f3⟩⟩ := rb2
    obtain ⟨q0, q1, q2, q3, q4⟩ := Box4.below (Box4.new w1 (.int .i64 k1.a.kind) (.int .i64 k1.a.n) (.string k1.a.s) (.slice k1.A (flen k1.l) k1.cap) 27) ho2
    have hs2 : w1.heap.size < w2.heap.size := q0
    have HB2 : Hid (b2 = true ↔ inR js.length y) := hb2
    have HK2 : Hid (b2 = true → k2 = js.getD y.toNat kd0) := hk2
    have ht0 : w.heap.size < w2.heap.size := by omega
    have ht1 : w.heap.size + 1 < w2.heap.size := by omega
    dsimp only at p0 p1 p2 p3
    clear ho2 hb1 hb2 hk2
    go_wp2_with fail
    refine bodyPost_ret (v := .tuple #[zeroT, .int .i64 8]) (by simp [results, Tryz.results50, go_sem, r0, r1, r2, r3, ht1]) rfl ?_
    exact ⟨by exact (by repeat (first | exact Below.refl _ _ | assumption | refine below_drewN ?_ _ | refine Below.drew ?_ | refine Below.alloc ?_ (by simp <;> omega) _ | refine Below.setCell ?_ (by simp <;> omega) _)), .inl ⟨8, HR.out, by decide, rfl⟩⟩

set_option maxRecDepth 20000 in
set_option maxHeartbeats 2000000 in
theorem one_9 (w : World) (R : Nat) (lv ov : Value) (ks js : List Kd) (Q : Nat → Prop) (x y : Int) (s : ByteArray) (h : OneSt w R lv ov ks js Q) (hl : ks.length ≤ 2000) (hj : js.length ≤ 2000) (hs : s.size ≤ maxLen) :
    Calls Tryz.prog 50 #[.pointer (some ⟨R, 0, none⟩), .agg #[.int .i64 9, .int .i64 x, .int .i64 y, .string s]] w fun e w' => OneEnd4 w (tms ks) (tms js) ⟨9, x, y, s⟩ Q e w' := by
  have H : Hid (OneSt w R lv ov ks js Q) := h
  clear h hs
  by_cases hx : inR js.length x
  · have HO := H.out.out hx
    have hraw : atL (tms js) x = some ((js.getD x.toNat kd0).a, (js.getD x.toNat kd0).l) := atL_in hx
    have cA : Hid (∀ W, OneSt W R lv ov ks js Q → Calls Tryz.prog 66 #[.pointer (some ⟨R, 0, none⟩), .int .i64 x] W fun e w' => e = .returned (.tuple #[.agg #[.int .i64 (js.getD x.toNat kd0).a.kind, .int .i64 (js.getD x.toNat kd0).a.n, .string (js.getD x.toNat kd0).a.s, .slice (js.getD x.toNat kd0).A (flen (js.getD x.toNat kd0).l) (js.getD x.toNat kd0).cap], .bool true]) ∧ Below W.heap.size W w') := fun W hW => at_in W R lv ov ks js Q x hW hx hj
    generalize js.getD x.toNat kd0 = k1 at *
    have HO1 : Hid (k1.Ok w Q ∧ may k1.a k1.l = true) := HO
    clear HO hx
    go_enter Tryz.func50, Tryz.ntmps50
    go_wp2_with fail
    go_quiet (fail)
    go_wp2_with fail
    refine (cA.out _ (H.out.below (by exact (by repeat (first | exact Below.refl _ _ | assumption | refine below_drewN ?_ _ | refine Below.drew ?_ | refine Below.alloc ?_ (by simp <;> omega) _ | refine Below.setCell ?_ (by simp <;> omega) _))))).mono ?_
    rintro e w1 ⟨rfl, ho1⟩
    have hb1 : Below w.heap.size w w1 := Below.trans (by exact (by repeat (first | exact Below.refl _ _ | assumption | refine below_drewN ?_ _ | refine Below.drew ?_ | refine Below.alloc ?_ (by simp <;> omega) _ | refine Below.setCell ?_ (by simp <;> omega) _))) (ho1.mono (by simp; omega))
    have rb1 := (ResBox.new w ⟨9, x, y, s⟩).below (by simp) (Below.trans (by exact (by repeat (first | exact Below.refl _ _ | assumption | refine below_drewN ?_ _ | refine Below.drew ?_ | refine Below.alloc ?_ (by simp <;> omega) _ | refine Below.setCell ?_ (by simp <;> omega) _))) (ho1.mono (by simp)))
    have hs1 : w.heap.size + 1 < w1.heap.size := by have := ho1.size; simp at this; omega
    have RB1 : Hid (ResBox w w1 ⟨9, x, y, s⟩) := rb1
    obtain ⟨⟨p0, p1, p2, p3⟩, ⟨r0, r1, r2, r3⟩, ⟨f0, f1, f2, f3⟩⟩ := rb1
    have hs0 : w.heap.size < w1.heap.size := by omega
    dsimp only at p0 p1 p2 p3
    clear ho1
    go_wp2_with fail
    refine (at_any _ R lv ov ks js Q y (H.out.below (hb1.alloc hb1.size _)) hj).mono ?_
    rintro e w2 ⟨⟨k2, b2, rfl, hb2, hk2⟩, ho2⟩
    have hbw : Below w.heap.size w w2 := Below.trans (hb1.alloc hb1.size _) (ho2.mono (by have := hb1.size; simp; omega))
    clear p0 p1 p2 p3 r0 r1 r2 r3 f0 f1 f2 f3
    have rb2 := RB1.out.below hs1 (Below.trans (Below.alloc (Below.refl _ _) (Nat.le_refl _) _) (ho2.mono (by simp)))
    have RB2 : Hid (ResBox w w2 ⟨9, x, y, s⟩) := rb2
    obtain ⟨⟨p0, p1, p2, p3⟩, ⟨r0, r1, r2, r3⟩, ⟨f0, f1, f2, f3⟩⟩ := rb2
    obtain ⟨q0, q1, q2, q3, q4⟩ := Box4.below (Box4.new w1 (.int .i64 k1.a.kind) (.int .i64 k1.a.n) (.string k1.a.s) (.slice k1.A (flen k1.l) k1.cap) 27) ho2
    have hs2 : w1.heap.size < w2.heap.size := q0
    have HB2 : Hid (b2 = true ↔ inR js.length y) := hb2
    have HK2 : Hid (b2 = true → k2 = js.getD y.toNat kd0) := hk2
    have ht0 : w.heap.size < w2.heap.size := by omega
    have ht1 : w.heap.size + 1 < w2.heap.size := by omega
    dsimp only at p0 p1 p2 p3
    clear ho2 hb1 hb2 hk2
    cases b2 with
    | false =>
      have hy : ¬ inR js.length y := fun h => by have := HB2.out.2 h; cases this
      have HR : Hid (rawP (tms ks) (tms js) ⟨9, x, y, s⟩ = .error 8) := by
        show rawP _ _ _ = _
        unfold rawP
        rw [if_neg (by simp), if_neg (by simp), if_neg (by simp), if_neg (by simp), if_neg (by simp), if_neg (by simp), if_pos (by simp), show (⟨9, x, y, s⟩ : Mv).a = x from rfl, show (⟨9, x, y, s⟩ : Mv).b = y from rfl, hraw, atL_out hy]; rfl
      clear hraw hy HB2 HK2
      go_wp2_with fail
      refine bodyPost_ret (v := .tuple #[zeroT, .int .i64 8]) (by simp [results, Tryz.results50, go_sem, r0, r1, r2, r3, ht1]) rfl ?_
      exact ⟨by exact (by repeat (first | exact Below.refl _ _ | assumption | refine below_drewN ?_ _ | refine Below.drew ?_ | refine Below.alloc ?_ (by simp <;> omega) _ | refine Below.setCell ?_ (by simp <;> omega) _)), .inl ⟨8, HR.out, by decide, rfl⟩⟩
    | true =>
    have hy : inR js.length y := HB2.out.1 rfl
    have HO2 := H.out.out hy
    have hraw2 : atL (tms js) y = some ((js.getD y.toNat kd0).a, (js.getD y.toNat kd0).l) := atL_in hy
    rw [← HK2.out rfl] at HO2 hraw2
    have HO2 : Hid (k2.Ok w Q ∧ may k2.a k2.l = true) := HO2
    have HR : Hid (rawP (tms ks) (tms js) ⟨9, x, y, s⟩ = .ok (⟨6, 0, ByteArray.empty⟩, .node 0 0 k1.a k1.l (.node 0 0 k2.a k2.l .nil))) := by
      show rawP _ _ _ = _
      unfold rawP
      rw [if_neg (by simp), if_neg (by simp), if_neg (by simp), if_neg (by simp), if_neg (by simp), if_neg (by simp), if_pos (by simp), show (⟨9, x, y, s⟩ : Mv).a = x from rfl, show (⟨9, x, y, s⟩ : Mv).b = y from rfl, hraw, hraw2]; rfl
    clear hraw hraw2 hy HB2 HK2
    go_wp2_with fail
    refine (refT_any _ _ _ _ _).mono ?_
    rintro e w3 ⟨rfl, ho3⟩
    have hbw3 : Below w.heap.size w w3 := Below.trans ((hbw.alloc hbw.size _).alloc (by have := hbw.size; simp; omega) _) (ho3.mono (by simp; omega))
    have HNE : Hid (w2.heap.size + 1 ≠ w.heap.size + 1 ∧ w.heap.size ≤ w2.heap.size + 1 ∧ w2.heap.size + 1 < w3.heap.size) := ⟨by omega, by omega, by have := ho3.size; simp at this; omega⟩
    clear p0 p1 p2 p3 r0 r1 r2 r3 f0 f1 f2 f3 q0 q1 q2 q3 q4
    obtain ⟨⟨p0, p1, p2, p3⟩, ⟨r0, r1, r2, r3⟩, ⟨f0, f1, f2, f3⟩⟩ := RB2.out.below ht1 (Below.trans (by exact (by repeat (first | exact Below.refl _ _ | assumption | refine below_drewN ?_ _ | refine Below.drew ?_ | refine Below.alloc ?_ (by simp <;> omega) _ | refine Below.setCell ?_ (by simp <;> omega) _))) (ho3.mono (by simp; omega)))
    have g0 : w3.cell? ⟨w2.heap.size + 1, 0, none⟩ = some (.int .i64 k1.a.kind) := by rw [ho3.cell (by simp)]; simp [go_sem]
    have g1 : w3.cell? ⟨w2.heap.size + 1, 1, none⟩ = some (.int .i64 k1.a.n) := by rw [ho3.cell (by simp)]; simp [go_sem]
    have g2 : w3.cell? ⟨w2.heap.size + 1, 2, none⟩ = some (.string k1.a.s) := by rw [ho3.cell (by simp)]; simp [go_sem]
    have g3 : w3.cell? ⟨w2.heap.size + 1, 3, none⟩ = some (.slice k1.A (flen k1.l) k1.cap) := by rw [ho3.cell (by simp)]; simp [go_sem]
    have g4 : w3.cell? ⟨w2.heap.size + 1, 4, none⟩ = some (.int .i64 k2.a.kind) := by rw [ho3.cell (by simp)]; simp [go_sem]
    have g5 : w3.cell? ⟨w2.heap.size + 1, 5, none⟩ = some (.int .i64 k2.a.n) := by rw [ho3.cell (by simp)]; simp [go_sem]
    have g6 : w3.cell? ⟨w2.heap.size + 1, 6, none⟩ = some (.string k2.a.s) := by rw [ho3.cell (by simp)]; simp [go_sem]
    have g7 : w3.cell? ⟨w2.heap.size + 1, 7, none⟩ = some (.slice k2.A (flen k2.l) k2.cap) := by rw [ho3.cell (by simp)]; simp [go_sem]
    have hu1 : w.heap.size + 1 < w3.heap.size := by have := ho3.size; simp at this; omega
    have hu2 : w2.heap.size + 1 < w3.heap.size := by have := ho3.size; simp at this; omega
    clear ho3
    go_wp2_with fail
    refine bodyPost_ret (v := .tuple #[.agg #[.int .i64 6, .int .i64 0, .string ByteArray.empty, .slice (some ⟨w2.heap.size + 1, 0, none⟩) 2 2], .int .i64 0]) (by simp [results, Tryz.results50, go_sem, r0, r1, r2, r3, hu1]) rfl ?_
    refine OneEnd4.of (w := w) (k := ⟨0, 0, ⟨6, 0, ByteArray.empty⟩, .node 0 0 k1.a k1.l (.node 0 0 k2.a k2.l .nil), some ⟨w2.heap.size + 1, 0, none⟩, 2, w2.heap.size + 1, 0⟩) (by exact (by repeat (first | exact Below.refl _ _ | assumption | refine below_drewN ?_ _ | refine Below.drew ?_ | refine Below.alloc ?_ (by simp <;> omega) _ | refine Below.setCell ?_ (by simp <;> omega) _))) HR.out fun hb => ⟨fit_kind _ (by omega), ⟨by simp [flen], by simp [flen]⟩, .inr rfl, row2 (.inr ⟨HNE.out.2.1, by simp [World.setCell]; exact HNE.out.2.2⟩) (H.out.known hb HO1.out.1) (H.out.known hb HO2.out.1) ?_ ?_ ?_ ?_ ?_ ?_ ?_ ?_⟩
    all_goals (rw [cell_set4 _ _ _ _ _ _ _ _ HNE.out.1]; first | exact g0 | exact g1 | exact g2 | exact g3 | exact g4 | exact g5 | exact g6 | exact g7)
  · have HR : Hid (rawP (tms ks) (tms js) ⟨9, x, y, s⟩ = .error 8) := by
      show rawP _ _ _ = _
      unfold rawP
      rw [if_neg (by simp), if_neg (by simp), if_neg (by simp), if_neg (by simp), if_neg (by simp), if_neg (by simp), if_pos (by simp), show (⟨9, x, y, s⟩ : Mv).a = x from rfl, atL_out hx]; rfl
    have cA : Hid (∀ W, OneSt W R lv ov ks js Q → Calls Tryz.prog 66 #[.pointer (some ⟨R, 0, none⟩), .int .i64 x] W fun e w' => e = .returned (.tuple #[zeroT, .bool false]) ∧ Below W.heap.size W w') := fun W hW => at_out W R lv ov ks js Q x hW hx hj
    obtain ⟨k1, hk1⟩ : ∃ k1 : Kd, k1 = ⟨0, 0, ⟨0, 0, ⟨#[]⟩⟩, .nil, none, 0, 0, 0⟩ := ⟨_, rfl⟩
    have hzT : zeroT = .agg #[.int .i64 k1.a.kind, .int .i64 k1.a.n, .string k1.a.s, .slice k1.A (flen k1.l) k1.cap] := by rw [hk1]; rfl
    rw [hzT] at cA
    clear hzT hk1 hx
    go_enter Tryz.func50, Tryz.ntmps50
    go_wp2_with fail
    go_quiet (fail)
    go_wp2_with fail
    refine (cA.out _ (H.out.below (by exact (by repeat (first | exact Below.refl _ _ | assumption | refine below_drewN ?_ _ | refine Below.drew ?_ | refine Below.alloc ?_ (by simp <;> omega) _ | refine Below.setCell ?_ (by simp <;> omega) _))))).mono ?_
    rintro e w1 ⟨rfl, ho1⟩
    have hb1 : Below w.heap.size w w1 := Below.trans (by exact (by repeat (first | exact Below.refl _ _ | assumption | refine below_drewN ?_ _ | refine Below.drew ?_ | refine Below.alloc ?_ (by simp <;> omega) _ | refine Below.setCell ?_ (by simp <;> omega) _))) (ho1.mono (by simp; omega))
    have rb1 := (ResBox.new w ⟨9, x, y, s⟩).below (by simp) (Below.trans (by exact (by repeat (first | exact Below.refl _ _ | assumption | refine below_drewN ?_ _ | refine Below.drew ?_ | refine Below.alloc ?_ (by simp <;> omega) _ | refine Below.setCell ?_ (by simp <;> omega) _))) (ho1.mono (by simp)))
    have hs1 : w.heap.size + 1 < w1.heap.size := by have := ho1.size; simp at this; omega
    have RB1 : Hid (ResBox w w1 ⟨9, x, y, s⟩) := rb1
    obtain ⟨⟨p0, p1, p2, p3⟩, ⟨r0, r1, r2, r3⟩, ⟨f0, f1, f2, f3⟩⟩ := rb1
    have hs0 : w.heap.size < w1.heap.size := by omega
    dsimp only at p0 p1 p2 p3
    clear ho1
    go_wp2_with fail
    refine (at_any _ R lv ov ks js Q y (H.out.below (hb1.alloc hb1.size _)) hj).mono ?_
    rintro e w2 ⟨⟨k2, b2, rfl, hb2, hk2⟩, ho2⟩
    have hbw : Below w.heap.size w w2 := Below.trans (hb1.alloc hb1.size _) (ho2.mono (by have := hb1.size; simp; omega))
    clear p0 p1 p2 p3 r0 r1 r2 r3 f0 f1 f2 f3
    have rb2 := RB1.out.below hs1 (Below.trans (Below.alloc (Below.refl _ _) (Nat.le_refl _) _) (ho2.mono (by simp)))
    have RB2 : Hid (ResBox w w2 ⟨9, x, y, s⟩) := rb2
    obtain ⟨⟨p0, p1, p2, p3⟩, ⟨r0, r1, r2, r3⟩, ⟨f0, f1, f2, f3⟩⟩ := rb2
    obtain ⟨q0, q1, q2, q3, q4⟩ := Box4.below (Box4.new w1 (.int .i64 k1.a.kind) (.int .i64 k1.a.n) (.string k1.a.s) (.slice k1.A (flen k1.l) k1.cap) 27) ho2
    have hs2 : w1.heap.size < w2.heap.size := q0
    have HB2 : Hid (b2 = true ↔ inR js.length y) := hb2
    have HK2 : Hid (b2 = true → k2 = js.getD y.toNat kd0) := hk2
    have ht0 : w.heap.size < w2.heap.size := by omega
    have ht1 : w.heap.size + 1 < w2.heap.size := by omega
    dsimp only at p0 p1 p2 p3
    clear ho2 hb1 hb2 hk2
    go_wp2_with fail
    refine bodyPost_ret (v := .tuple #[zeroT, .int .i64 8]) (by simp [results, Tryz.results50, go_sem, r0, r1, r2, r3, ht1]) rfl ?_
    exact ⟨by exact (by repeat (first | exact Below.refl _ _ | assumption | refine below_drewN ?_ _ | refine Below.drew ?_ | refine Below.alloc ?_ (by simp <;> omega) _ | refine Below.setCell ?_ (by simp <;> omega) _)), .inl ⟨8, HR.out, by decide, rfl⟩⟩

set_option maxRecDepth 20000 in
set_option maxHeartbeats 2000000 in
theorem one_10 (w : World) (R : Nat) (lv ov : Value) (ks js : List Kd) (Q : Nat → Prop) (x y : Int) (s : ByteArray) (h : OneSt w R lv ov ks js Q) (hl : ks.length ≤ 2000) (hj : js.length ≤ 2000) (hs : s.size ≤ maxLen) :
    Calls Tryz.prog 50 #[.pointer (some ⟨R, 0, none⟩), .agg #[.int .i64 10, .int .i64 x, .int .i64 y, .string s]] w fun e w' => OneEnd4 w (tms ks) (tms js) ⟨10, x, y, s⟩ Q e w' := by
  have H : Hid (OneSt w R lv ov ks js Q) := h
  clear h hs
  by_cases hx : inR js.length x
  · have HO := H.out.out hx
    have hraw : atL (tms js) x = some ((js.getD x.toNat kd0).a, (js.getD x.toNat kd0).l) := atL_in hx
    have cA : Hid (∀ W, OneSt W R lv ov ks js Q → Calls Tryz.prog 66 #[.pointer (some ⟨R, 0, none⟩), .int .i64 x] W fun e w' => e = .returned (.tuple #[.agg #[.int .i64 (js.getD x.toNat kd0).a.kind, .int .i64 (js.getD x.toNat kd0).a.n, .string (js.getD x.toNat kd0).a.s, .slice (js.getD x.toNat kd0).A (flen (js.getD x.toNat kd0).l) (js.getD x.toNat kd0).cap], .bool true]) ∧ Below W.heap.size W w') := fun W hW => at_in W R lv ov ks js Q x hW hx hj
    generalize js.getD x.toNat kd0 = k1 at *
    have HO1 : Hid (k1.Ok w Q ∧ may k1.a k1.l = true) := HO
    clear HO hx
    go_enter Tryz.func50, Tryz.ntmps50
    go_wp2_with fail
    go_quiet (fail)
    go_wp2_with fail
    refine (cA.out _ (H.out.below (by exact (by repeat (first | exact Below.refl _ _ | assumption | refine below_drewN ?_ _ | refine Below.drew ?_ | refine Below.alloc ?_ (by simp <;> omega) _ | refine Below.setCell ?_ (by simp <;> omega) _))))).mono ?_
    rintro e w1 ⟨rfl, ho1⟩
    have hb1 : Below w.heap.size w w1 := Below.trans (by exact (by repeat (first | exact Below.refl _ _ | assumption | refine below_drewN ?_ _ | refine Below.drew ?_ | refine Below.alloc ?_ (by simp <;> omega) _ | refine Below.setCell ?_ (by simp <;> omega) _))) (ho1.mono (by simp; omega))
    have rb1 := (ResBox.new w ⟨10, x, y, s⟩).below (by simp) (Below.trans (by exact (by repeat (first | exact Below.refl _ _ | assumption | refine below_drewN ?_ _ | refine Below.drew ?_ | refine Below.alloc ?_ (by simp <;> omega) _ | refine Below.setCell ?_ (by simp <;> omega) _))) (ho1.mono (by simp)))
    have hs1 : w.heap.size + 1 < w1.heap.size := by have := ho1.size; simp at this; omega
    have RB1 : Hid (ResBox w w1 ⟨10, x, y, s⟩) := rb1
    obtain ⟨⟨p0, p1, p2, p3⟩, ⟨r0, r1, r2, r3⟩, ⟨f0, f1, f2, f3⟩⟩ := rb1
    have hs0 : w.heap.size < w1.heap.size := by omega
    dsimp only at p0 p1 p2 p3
    clear ho1
    go_wp2_with fail
    refine (at_any _ R lv ov ks js Q y (H.out.below (hb1.alloc hb1.size _)) hj).mono ?_
    rintro e w2 ⟨⟨k2, b2, rfl, hb2, hk2⟩, ho2⟩
    have hbw : Below w.heap.size w w2 := Below.trans (hb1.alloc hb1.size _) (ho2.mono (by have := hb1.size; simp; omega))
    clear p0 p1 p2 p3 r0 r1 r2 r3 f0 f1 f2 f3
    have rb2 := RB1.out.below hs1 (Below.trans (Below.alloc (Below.refl _ _) (Nat.le_refl _) _) (ho2.mono (by simp)))
    have RB2 : Hid (ResBox w w2 ⟨10, x, y, s⟩) := rb2
    obtain ⟨⟨p0, p1, p2, p3⟩, ⟨r0, r1, r2, r3⟩, ⟨f0, f1, f2, f3⟩⟩ := rb2
    obtain ⟨q0, q1, q2, q3, q4⟩ := Box4.below (Box4.new w1 (.int .i64 k1.a.kind) (.int .i64 k1.a.n) (.string k1.a.s) (.slice k1.A (flen k1.l) k1.cap) 27) ho2
    have hs2 : w1.heap.size < w2.heap.size := q0
    have HB2 : Hid (b2 = true ↔ inR js.length y) := hb2
    have HK2 : Hid (b2 = true → k2 = js.getD y.toNat kd0) := hk2
    have ht0 : w.heap.size < w2.heap.size := by omega
    have ht1 : w.heap.size + 1 < w2.heap.size := by omega
    dsimp only at p0 p1 p2 p3
    clear ho2 hb1 hb2 hk2
    cases b2 with
    | false =>
      have hy : ¬ inR js.length y := fun h => by have := HB2.out.2 h; cases this
      have HR : Hid (rawP (tms ks) (tms js) ⟨10, x, y, s⟩ = .error 8) := by
        show rawP _ _ _ = _
        unfold rawP
        rw [if_neg (by simp), if_neg (by simp), if_neg (by simp), if_neg (by simp), if_neg (by simp), if_neg (by simp), if_pos (by simp), show (⟨10, x, y, s⟩ : Mv).a = x from rfl, show (⟨10, x, y, s⟩ : Mv).b = y from rfl, hraw, atL_out hy]; rfl
      clear hraw hy HB2 HK2
      go_wp2_with fail
      refine bodyPost_ret (v := .tuple #[zeroT, .int .i64 8]) (by simp [results, Tryz.results50, go_sem, r0, r1, r2, r3, ht1]) rfl ?_
      exact ⟨by exact (by repeat (first | exact Below.refl _ _ | assumption | refine below_drewN ?_ _ | refine Below.drew ?_ | refine Below.alloc ?_ (by simp <;> omega) _ | refine Below.setCell ?_ (by simp <;> omega) _)), .inl ⟨8, HR.out, by decide, rfl⟩⟩
    | true =>
    have hy : inR js.length y := HB2.out.1 rfl
    have HO2 := H.out.out hy
    have hraw2 : atL (tms js) y = some ((js.getD y.toNat kd0).a, (js.getD y.toNat kd0).l) := atL_in hy
    rw [← HK2.out rfl] at HO2 hraw2
    have HO2 : Hid (k2.Ok w Q ∧ may k2.a k2.l = true) := HO2
    have HR : Hid (rawP (tms ks) (tms js) ⟨10, x, y, s⟩ = .ok (⟨7, 0, ByteArray.empty⟩, .node 0 0 k1.a k1.l (.node 0 0 k2.a k2.l .nil))) := by
      show rawP _ _ _ = _
      unfold rawP
      rw [if_neg (by simp), if_neg (by simp), if_neg (by simp), if_neg (by simp), if_neg (by simp), if_neg (by simp), if_pos (by simp), show (⟨10, x, y, s⟩ : Mv).a = x from rfl, show (⟨10, x, y, s⟩ : Mv).b = y from rfl, hraw, hraw2]; rfl
    clear hraw hraw2 hy HB2 HK2
    go_wp2_with fail
    refine (refT_any _ _ _ _ _).mono ?_
    rintro e w3 ⟨rfl, ho3⟩
    have hbw3 : Below w.heap.size w w3 := Below.trans ((hbw.alloc hbw.size _).alloc (by have := hbw.size; simp; omega) _) (ho3.mono (by simp; omega))
    have HNE : Hid (w2.heap.size + 1 ≠ w.heap.size + 1 ∧ w.heap.size ≤ w2.heap.size + 1 ∧ w2.heap.size + 1 < w3.heap.size) := ⟨by omega, by omega, by have := ho3.size; simp at this; omega⟩
    clear p0 p1 p2 p3 r0 r1 r2 r3 f0 f1 f2 f3 q0 q1 q2 q3 q4
    obtain ⟨⟨p0, p1, p2, p3⟩, ⟨r0, r1, r2, r3⟩, ⟨f0, f1, f2, f3⟩⟩ := RB2.out.below ht1 (Below.trans (by exact (by repeat (first | exact Below.refl _ _ | assumption | refine below_drewN ?_ _ | refine Below.drew ?_ | refine Below.alloc ?_ (by simp <;> omega) _ | refine Below.setCell ?_ (by simp <;> omega) _))) (ho3.mono (by simp; omega)))
    have g0 : w3.cell? ⟨w2.heap.size + 1, 0, none⟩ = some (.int .i64 k1.a.kind) := by rw [ho3.cell (by simp)]; simp [go_sem]
    have g1 : w3.cell? ⟨w2.heap.size + 1, 1, none⟩ = some (.int .i64 k1.a.n) := by rw [ho3.cell (by simp)]; simp [go_sem]
    have g2 : w3.cell? ⟨w2.heap.size + 1, 2, none⟩ = some (.string k1.a.s) := by rw [ho3.cell (by simp)]; simp [go_sem]
    have g3 : w3.cell? ⟨w2.heap.size + 1, 3, none⟩ = some (.slice k1.A (flen k1.l) k1.cap) := by rw [ho3.cell (by simp)]; simp [go_sem]
    have g4 : w3.cell? ⟨w2.heap.size + 1, 4, none⟩ = some (.int .i64 k2.a.kind) := by rw [ho3.cell (by simp)]; simp [go_sem]
    have g5 : w3.cell? ⟨w2.heap.size + 1, 5, none⟩ = some (.int .i64 k2.a.n) := by rw [ho3.cell (by simp)]; simp [go_sem]
    have g6 : w3.cell? ⟨w2.heap.size + 1, 6, none⟩ = some (.string k2.a.s) := by rw [ho3.cell (by simp)]; simp [go_sem]
    have g7 : w3.cell? ⟨w2.heap.size + 1, 7, none⟩ = some (.slice k2.A (flen k2.l) k2.cap) := by rw [ho3.cell (by simp)]; simp [go_sem]
    have hu1 : w.heap.size + 1 < w3.heap.size := by have := ho3.size; simp at this; omega
    have hu2 : w2.heap.size + 1 < w3.heap.size := by have := ho3.size; simp at this; omega
    clear ho3
    go_wp2_with fail
    refine bodyPost_ret (v := .tuple #[.agg #[.int .i64 7, .int .i64 0, .string ByteArray.empty, .slice (some ⟨w2.heap.size + 1, 0, none⟩) 2 2], .int .i64 0]) (by simp [results, Tryz.results50, go_sem, r0, r1, r2, r3, hu1]) rfl ?_
    refine OneEnd4.of (w := w) (k := ⟨0, 0, ⟨7, 0, ByteArray.empty⟩, .node 0 0 k1.a k1.l (.node 0 0 k2.a k2.l .nil), some ⟨w2.heap.size + 1, 0, none⟩, 2, w2.heap.size + 1, 0⟩) (by exact (by repeat (first | exact Below.refl _ _ | assumption | refine below_drewN ?_ _ | refine Below.drew ?_ | refine Below.alloc ?_ (by simp <;> omega) _ | refine Below.setCell ?_ (by simp <;> omega) _))) HR.out fun hb => ⟨fit_kind _ (by omega), ⟨by simp [flen], by simp [flen]⟩, .inr rfl, row2 (.inr ⟨HNE.out.2.1, by simp [World.setCell]; exact HNE.out.2.2⟩) (H.out.known hb HO1.out.1) (H.out.known hb HO2.out.1) ?_ ?_ ?_ ?_ ?_ ?_ ?_ ?_⟩
    all_goals (rw [cell_set4 _ _ _ _ _ _ _ _ HNE.out.1]; first | exact g0 | exact g1 | exact g2 | exact g3 | exact g4 | exact g5 | exact g6 | exact g7)
  · have HR : Hid (rawP (tms ks) (tms js) ⟨10, x, y, s⟩ = .error 8) := by
      show rawP _ _ _ = _
      unfold rawP
      rw [if_neg (by simp), if_neg (by simp), if_neg (by simp), if_neg (by simp), if_neg (by simp), if_neg (by simp), if_pos (by simp), show (⟨10, x, y, s⟩ : Mv).a = x from rfl, atL_out hx]; rfl
    have cA : Hid (∀ W, OneSt W R lv ov ks js Q → Calls Tryz.prog 66 #[.pointer (some ⟨R, 0, none⟩), .int .i64 x] W fun e w' => e = .returned (.tuple #[zeroT, .bool false]) ∧ Below W.heap.size W w') := fun W hW => at_out W R lv ov ks js Q x hW hx hj
    obtain ⟨k1, hk1⟩ : ∃ k1 : Kd, k1 = ⟨0, 0, ⟨0, 0, ⟨#[]⟩⟩, .nil, none, 0, 0, 0⟩ := ⟨_, rfl⟩
    have hzT : zeroT = .agg #[.int .i64 k1.a.kind, .int .i64 k1.a.n, .string k1.a.s, .slice k1.A (flen k1.l) k1.cap] := by rw [hk1]; rfl
    rw [hzT] at cA
    clear hzT hk1 hx
    go_enter Tryz.func50, Tryz.ntmps50
    go_wp2_with fail
    go_quiet (fail)
    go_wp2_with fail
    refine (cA.out _ (H.out.below (by exact (by repeat (first | exact Below.refl _ _ | assumption | refine below_drewN ?_ _ | refine Below.drew ?_ | refine Below.alloc ?_ (by simp <;> omega) _ | refine Below.setCell ?_ (by simp <;> omega) _))))).mono ?_
    rintro e w1 ⟨rfl, ho1⟩
    have hb1 : Below w.heap.size w w1 := Below.trans (by exact (by repeat (first | exact Below.refl _ _ | assumption | refine below_drewN ?_ _ | refine Below.drew ?_ | refine Below.alloc ?_ (by simp <;> omega) _ | refine Below.setCell ?_ (by simp <;> omega) _))) (ho1.mono (by simp; omega))
    have rb1 := (ResBox.new w ⟨10, x, y, s⟩).below (by simp) (Below.trans (by exact (by repeat (first | exact Below.refl _ _ | assumption | refine below_drewN ?_ _ | refine Below.drew ?_ | refine Below.alloc ?_ (by simp <;> omega) _ | refine Below.setCell ?_ (by simp <;> omega) _))) (ho1.mono (by simp)))
    have hs1 : w.heap.size + 1 < w1.heap.size := by have := ho1.size; simp at this; omega
    have RB1 : Hid (ResBox w w1 ⟨10, x, y, s⟩) := rb1
    obtain ⟨⟨p0, p1, p2, p3⟩, ⟨r0, r1, r2, r3⟩, ⟨f0, f1, f2, f3⟩⟩ := rb1
    have hs0 : w.heap.size < w1.heap.size := by omega
    dsimp only at p0 p1 p2 p3
    clear ho1
    go_wp2_with fail
    refine (at_any _ R lv ov ks js Q y (H.out.below (hb1.alloc hb1.size _)) hj).mono ?_
    rintro e w2 ⟨⟨k2, b2, rfl, hb2, hk2⟩, ho2⟩
    have hbw : Below w.heap.size w w2 := Below.trans (hb1.alloc hb1.size _) (ho2.mono (by have := hb1.size; simp; omega))
    clear p0 p1 p2 p3 r0 r1 r2 r3 f0 f1 f2 f3
    have rb2 := RB1.out.below hs1 (Below.trans (Below.alloc (Below.refl _ _) (Nat.le_refl _) _) (ho2.mono (by simp)))
    have RB2 : Hid (ResBox w w2 ⟨10, x, y, s⟩) := rb2
    obtain ⟨⟨p0, p1, p2, p3⟩, ⟨r0, r1, r2, r3⟩, ⟨f0, f1, f2, f3⟩⟩ := rb2
    obtain ⟨q0, q1, q2, q3, q4⟩ := Box4.below (Box4.new w1 (.int .i64 k1.a.kind) (.int .i64 k1.a.n) (.string k1.a.s) (.slice k1.A (flen k1.l) k1.cap) 27) ho2
    have hs2 : w1.heap.size < w2.heap.size := q0
    have HB2 : Hid (b2 = true ↔ inR js.length y) := hb2
    have HK2 : Hid (b2 = true → k2 = js.getD y.toNat kd0) := hk2
    have ht0 : w.heap.size < w2.heap.size := by omega
    have ht1 : w.heap.size + 1 < w2.heap.size := by omega
    dsimp only at p0 p1 p2 p3
    clear ho2 hb1 hb2 hk2
    go_wp2_with fail
    refine bodyPost_ret (v := .tuple #[zeroT, .int .i64 8]) (by simp [results, Tryz.results50, go_sem, r0, r1, r2, r3, ht1]) rfl ?_
    exact ⟨by exact (by repeat (first | exact Below.refl _ _ | assumption | refine below_drewN ?_ _ | refine Below.drew ?_ | refine Below.alloc ?_ (by simp <;> omega) _ | refine Below.setCell ?_ (by simp <;> omega) _)), .inl ⟨8, HR.out, by decide, rfl⟩⟩

end Go.Proofs.YtanpplgmdemlaaaGreatDoor
