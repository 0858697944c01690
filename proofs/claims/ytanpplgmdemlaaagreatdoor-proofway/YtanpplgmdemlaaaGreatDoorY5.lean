import Derived.Test.YtanpplgmdemlaaaGreatDoorYA
import Derived.Deep.RegionHeld3
namespace Go.Proofs.YtanpplgmdemlaaaGreatDoor
open Go.RowKit
set_option linter.unusedVariables false
set_option linter.unusedSimpArgs false

set_option maxRecDepth 20000 in
set_option maxHeartbeats 2000000 in
theorem one_3 (w : World) (R : Nat) (lv ov : Value) (ks js : List Kd) (Q : Nat → Prop) (x y : Int) (s : ByteArray) (h : OneSt w R lv ov ks js Q) (hl : ks.length ≤ 2000) (hj : js.length ≤ 2000) (hs : s.size ≤ maxLen) :
    Calls Tryz.prog 50 #[.pointer (some ⟨R, 0, none⟩), .agg #[.int .i64 3, .int .i64 x, .int .i64 y, .string s]] w fun e w' => OneEnd4 w (tms ks) (tms js) ⟨3, x, y, s⟩ Q e w' := by
  have H : Hid (OneSt w R lv ov ks js Q) := h
  clear h hs
  by_cases hx : inR js.length x
  · have HO := H.out.out hx
    have hraw : atL (tms js) x = some ((js.getD x.toNat kd0).a, (js.getD x.toNat kd0).l) := atL_in hx
    have cA : Hid (∀ W, OneSt W R lv ov ks js Q → Calls Tryz.prog 66 #[.pointer (some ⟨R, 0, none⟩), .int .i64 x] W fun e w' => e = .returned (.tuple #[.agg #[.int .i64 (js.getD x.toNat kd0).a.kind, .int .i64 (js.getD x.toNat kd0).a.n, .string (js.getD x.toNat kd0).a.s, .slice (js.getD x.toNat kd0).A (flen (js.getD x.toNat kd0).l) (js.getD x.toNat kd0).cap], .bool true]) ∧ Below W.heap.size W w') := fun W hW => at_in W R lv ov ks js Q x hW hx hj
    generalize js.getD x.toNat kd0 = k1 at *
    have HO1 : Hid (k1.Ok w Q ∧ may k1.a k1.l = true) := HO
    clear HO hx
    by_cases hkk : k1.a.kind = 7
    · have h2 : flen k1.l = 2 := by have := (may_ar _ _ HO1.out.2).1; rw [hkk] at this; simp [kidsOf] at this; omega
      obtain ⟨j1, j2, hkl, ok1, ok2, hA, hS, _, ⟨e0, e1, e2, e3⟩, ⟨d0, d1, d2, d3⟩⟩ := two_kids HO1.out.1 h2
      have HR : Hid (rawP (tms ks) (tms js) ⟨3, x, y, s⟩ = .ok (j1.a, j1.l)) := by
        show rawP _ _ _ = _
        unfold rawP
        rw [if_neg (by simp), if_neg (by simp), if_pos (by simp), show (⟨3, x, y, s⟩ : Mv).a = x from rfl, hraw]
        simp [onP, openP, hkk, hkl]
      have HJ : Hid (j1.Ok w Q) := ok1
      have hSb := H.out.2.2.2.2.2.2.2 _ hS
      have hkn : (k1.a.kind != 7) = false := by simp [hkk]
      have hkA : Hid (k1.A = some ⟨k1.b, k1.o, none⟩) := hA
      have HF : Hid (flen k1.l = 2) := h2
      have HC : Hid (∀ W, Below w.heap.size w W → W.cell? ⟨k1.b, k1.o, none⟩ = some (.int .i64 j1.a.kind) ∧ W.cell? ⟨k1.b, k1.o + 1, none⟩ = some (.int .i64 j1.a.n) ∧ W.cell? ⟨k1.b, k1.o + 2, none⟩ = some (.string j1.a.s) ∧ W.cell? ⟨k1.b, k1.o + 3, none⟩ = some (.slice j1.A (flen j1.l) j1.cap)) := fun W hW =>
        ⟨by rw [hW.cell (by simpa using hSb)]; exact e0, by rw [hW.cell (by simpa using hSb)]; exact e1, by rw [hW.cell (by simpa using hSb)]; exact e2, by rw [hW.cell (by simpa using hSb)]; exact e3⟩
      clear hraw hkk h2 hkl ok1 ok2 hA e0 e1 e2 e3 d0 d1 d2 d3 hS
      go_enter Tryz.func50, Tryz.ntmps50
      go_wp2_with fail
      go_quiet (fail)
      go_wp2_with fail
      refine (cA.out _ (H.out.below (by exact (by repeat (first | exact Below.refl _ _ | assumption | refine below_drewN ?_ _ | refine Below.drew ?_ | refine Below.alloc ?_ (by simp <;> omega) _ | refine Below.setCell ?_ (by simp <;> omega) _))))).mono ?_
      rintro e w1 ⟨rfl, ho1⟩
      have hb1 : Below w.heap.size w w1 := Below.trans (by exact (by repeat (first | exact Below.refl _ _ | assumption | refine below_drewN ?_ _ | refine Below.drew ?_ | refine Below.alloc ?_ (by simp <;> omega) _ | refine Below.setCell ?_ (by simp <;> omega) _))) (ho1.mono (by simp; omega))
      have rb1 := (ResBox.new w ⟨3, x, y, s⟩).below (by simp) (Below.trans (by exact (by repeat (first | exact Below.refl _ _ | assumption | refine below_drewN ?_ _ | refine Below.drew ?_ | refine Below.alloc ?_ (by simp <;> omega) _ | refine Below.setCell ?_ (by simp <;> omega) _))) (ho1.mono (by simp)))
      have hs1 : w.heap.size + 1 < w1.heap.size := by have := ho1.size; simp at this; omega
      have RB1 : Hid (ResBox w w1 ⟨3, x, y, s⟩) := rb1
      obtain ⟨⟨p0, p1, p2, p3⟩, ⟨r0, r1, r2, r3⟩, ⟨f0, f1, f2, f3⟩⟩ := rb1
      have hs0 : w.heap.size < w1.heap.size := by omega
      dsimp only at p0 p1 p2 p3
      clear ho1
      go_wp2_with fail
      refine (at_any _ R lv ov ks js Q y (H.out.below (hb1.alloc hb1.size _)) hj).mono ?_
      rintro e w2 ⟨⟨k2, b2, rfl, hb2, hk2⟩, ho2⟩
      have hbw : Below w.heap.size w w2 := Below.trans (hb1.alloc hb1.size _) (ho2.mono (by have := hb1.size; simp; omega))
      clear p0 p1 p2 p3 r0 r1 r2 r3 f0 f1 f2 f3
      have rb2 := RB1.out.below hs1 (Below.trans (Below.alloc (Below.refl _ _) (Nat.le_refl _) _) (ho2.mono (by simp)))
      have RB2 : Hid (ResBox w w2 ⟨3, x, y, s⟩) := rb2
      obtain ⟨⟨p0, p1, p2, p3⟩, ⟨r0, r1, r2, r3⟩, ⟨f0, f1, f2, f3⟩⟩ := rb2
      obtain ⟨q0, q1, q2, q3, q4⟩ := Box4.below (Box4.new w1 (.int .i64 k1.a.kind) (.int .i64 k1.a.n) (.string k1.a.s) (.slice k1.A (flen k1.l) k1.cap) 27) ho2
      have hs2 : w1.heap.size < w2.heap.size := q0
      have HB2 : Hid (b2 = true ↔ inR js.length y) := hb2
      have HK2 : Hid (b2 = true → k2 = js.getD y.toNat kd0) := hk2
      have ht0 : w.heap.size < w2.heap.size := by omega
      have ht1 : w.heap.size + 1 < w2.heap.size := by omega
      dsimp only at p0 p1 p2 p3
      clear ho2 hb1 hb2 hk2
      obtain ⟨z0, z1, z2, z3⟩ := HC.out w2 hbw
      have hq2 : k1.b < w2.heap.size := by omega
      rw [hkA.out, HF.out] at q4
      clear HC
      go_wp2_with fail
      refine bodyPost_ret (v := .tuple #[.agg #[.int .i64 j1.a.kind, .int .i64 j1.a.n, .string j1.a.s, .slice j1.A (flen j1.l) j1.cap], .int .i64 0]) (by simp [results, Tryz.results50, go_sem, r0, r1, r2, r3, ht1]) rfl ?_
      exact OneEnd4.of (w := w) (k := j1) (by exact (by repeat (first | exact Below.refl _ _ | assumption | refine below_drewN ?_ _ | refine Below.drew ?_ | refine Below.alloc ?_ (by simp <;> omega) _ | refine Below.setCell ?_ (by simp <;> omega) _))) HR.out fun hb => H.out.known hb HJ.out
    · have HR : Hid (rawP (tms ks) (tms js) ⟨3, x, y, s⟩ = .error 3) := by
        show rawP _ _ _ = _
        unfold rawP
        rw [if_neg (by simp), if_neg (by simp), if_pos (by simp), show (⟨3, x, y, s⟩ : Mv).a = x from rfl, hraw]
        simp [onP, openP, hkk]
      have hkn : (k1.a.kind != 7) = true := by simp [hkk]
      clear hraw hkk
      go_enter Tryz.func50, Tryz.ntmps50
      go_wp2_with fail
      go_quiet (fail)
      go_wp2_with fail
      refine (cA.out _ (H.out.below (by exact (by repeat (first | exact Below.refl _ _ | assumption | refine below_drewN ?_ _ | refine Below.drew ?_ | refine Below.alloc ?_ (by simp <;> omega) _ | refine Below.setCell ?_ (by simp <;> omega) _))))).mono ?_
      rintro e w1 ⟨rfl, ho1⟩
      have hb1 : Below w.heap.size w w1 := Below.trans (by exact (by repeat (first | exact Below.refl _ _ | assumption | refine below_drewN ?_ _ | refine Below.drew ?_ | refine Below.alloc ?_ (by simp <;> omega) _ | refine Below.setCell ?_ (by simp <;> omega) _))) (ho1.mono (by simp; omega))
      have rb1 := (ResBox.new w ⟨3, x, y, s⟩).below (by simp) (Below.trans (by exact (by repeat (first | exact Below.refl _ _ | assumption | refine below_drewN ?_ _ | refine Below.drew ?_ | refine Below.alloc ?_ (by simp <;> omega) _ | refine Below.setCell ?_ (by simp <;> omega) _))) (ho1.mono (by simp)))
      have hs1 : w.heap.size + 1 < w1.heap.size := by have := ho1.size; simp at this; omega
      have RB1 : Hid (ResBox w w1 ⟨3, x, y, s⟩) := rb1
      obtain ⟨⟨p0, p1, p2, p3⟩, ⟨r0, r1, r2, r3⟩, ⟨f0, f1, f2, f3⟩⟩ := rb1
      have hs0 : w.heap.size < w1.heap.size := by omega
      dsimp only at p0 p1 p2 p3
      clear ho1
      go_wp2_with fail
      refine (at_any _ R lv ov ks js Q y (H.out.below (hb1.alloc hb1.size _)) hj).mono ?_
      rintro e w2 ⟨⟨k2, b2, rfl, hb2, hk2⟩, ho2⟩
      have hbw : Below w.heap.size w w2 := Below.trans (hb1.alloc hb1.size _) (ho2.mono (by have := hb1.size; simp; omega))
      clear p0 p1 p2 p3 r0 r1 r2 r3 f0 f1 f2 f3
      have rb2 := RB1.out.below hs1 (Below.trans (Below.alloc (Below.refl _ _) (Nat.le_refl _) _) (ho2.mono (by simp)))
      have RB2 : Hid (ResBox w w2 ⟨3, x, y, s⟩) := rb2
      obtain ⟨⟨p0, p1, p2, p3⟩, ⟨r0, r1, r2, r3⟩, ⟨f0, f1, f2, f3⟩⟩ := rb2
      obtain ⟨q0, q1, q2, q3, q4⟩ := Box4.below (Box4.new w1 (.int .i64 k1.a.kind) (.int .i64 k1.a.n) (.string k1.a.s) (.slice k1.A (flen k1.l) k1.cap) 27) ho2
      have hs2 : w1.heap.size < w2.heap.size := q0
      have HB2 : Hid (b2 = true ↔ inR js.length y) := hb2
      have HK2 : Hid (b2 = true → k2 = js.getD y.toNat kd0) := hk2
      have ht0 : w.heap.size < w2.heap.size := by omega
      have ht1 : w.heap.size + 1 < w2.heap.size := by omega
      dsimp only at p0 p1 p2 p3
      clear ho2 hb1 hb2 hk2
      go_wp2_with fail
      refine bodyPost_ret (v := .tuple #[zeroT, .int .i64 3]) (by simp [results, Tryz.results50, go_sem, r0, r1, r2, r3, ht1]) rfl ?_
      exact ⟨by exact (by repeat (first | exact Below.refl _ _ | assumption | refine below_drewN ?_ _ | refine Below.drew ?_ | refine Below.alloc ?_ (by simp <;> omega) _ | refine Below.setCell ?_ (by simp <;> omega) _)), .inl ⟨3, HR.out, by decide, rfl⟩⟩
  · have HR : Hid (rawP (tms ks) (tms js) ⟨3, x, y, s⟩ = .error 8) := by
      show rawP _ _ _ = _
      unfold rawP
      rw [if_neg (by simp), if_neg (by simp), if_pos (by simp), show (⟨3, x, y, s⟩ : Mv).a = x from rfl, atL_out hx]; rfl
    have cA : Hid (∀ W, OneSt W R lv ov ks js Q → Calls Tryz.prog 66 #[.pointer (some ⟨R, 0, none⟩), .int .i64 x] W fun e w' => e = .returned (.tuple #[zeroT, .bool false]) ∧ Below W.heap.size W w') := fun W hW => at_out W R lv ov ks js Q x hW hx hj
    obtain ⟨k1, hk1⟩ : ∃ k1 : Kd, k1 = ⟨0, 0, ⟨0, 0, ⟨#[]⟩⟩, .nil, none, 0, 0, 0⟩ := ⟨_, rfl⟩
    have hzT : zeroT = .agg #[.int .i64 k1.a.kind, .int .i64 k1.a.n, .string k1.a.s, .slice k1.A (flen k1.l) k1.cap] := by rw [hk1]; rfl
    rw [hzT] at cA
    clear hzT hk1 hx
    go_enter Tryz.func50, Tryz.ntmps50
    go_wp2_with fail
    go_quiet (fail)
    go_wp2_with fail
    refine (cA.out _ (H.out.below (by exact (by repeat (first | exact Below.refl _ _ | assumption | refine below_drewN ?_ _ | refine Below.drew ?_ | refine Below.alloc ?_ (by simp <;> omega) _ | refine Below.setCell ?_ (by simp <;> omega) _))))).mono ?_
    rintro e w1 ⟨rfl, ho1⟩
    have hb1 : Below w.heap.size w w1 := Below.trans (by exact (by repeat (first | exact Below.refl _ _ | assumption | refine below_drewN ?_ _ | refine Below.drew ?_ | refine Below.alloc ?_ (by simp <;> omega) _ | refine Below.setCell ?_ (by simp <;> omega) _))) (ho1.mono (by simp; omega))
    have rb1 := (ResBox.new w ⟨3, x, y, s⟩).below (by simp) (Below.trans (by exact (by repeat (first | exact Below.refl _ _ | assumption | refine below_drewN ?_ _ | refine Below.drew ?_ | refine Below.alloc ?_ (by simp <;> omega) _ | refine Below.setCell ?_ (by simp <;> omega) _))) (ho1.mono (by simp)))
    have hs1 : w.heap.size + 1 < w1.heap.size := by have := ho1.size; simp at this; omega
    have RB1 : Hid (ResBox w w1 ⟨3, x, y, s⟩) := rb1
    obtain ⟨⟨p0, p1, p2, p3⟩, ⟨r0, r1, r2, r3⟩, ⟨f0, f1, f2, f3⟩⟩ := rb1
    have hs0 : w.heap.size < w1.heap.size := by omega
    dsimp only at p0 p1 p2 p3
    clear ho1
    go_wp2_with fail
    refine (at_any _ R lv ov ks js Q y (H.out.below (hb1.alloc hb1.size _)) hj).mono ?_
    rintro e w2 ⟨⟨k2, b2, rfl, hb2, hk2⟩, ho2⟩
    have hbw : Below w.heap.size w w2 := Below.trans (hb1.alloc hb1.size _) (ho2.mono (by have := hb1.size; simp; omega))
    clear p0 p1 p2 p3 r0 r1 r2 r3 f0 f1 f2 f3
    have rb2 := RB1.out.below hs1 (Below.trans (Below.alloc (Below.refl _ _) (Nat.le_refl _) _) (ho2.mono (by simp)))
    have RB2 : Hid (ResBox w w2 ⟨3, x, y, s⟩) := rb2
    obtain ⟨⟨p0, p1, p2, p3⟩, ⟨r0, r1, r2, r3⟩, ⟨f0, f1, f2, f3⟩⟩ := rb2
    obtain ⟨q0, q1, q2, q3, q4⟩ := Box4.below (Box4.new w1 (.int .i64 k1.a.kind) (.int .i64 k1.a.n) (.string k1.a.s) (.slice k1.A (flen k1.l) k1.cap) 27) ho2
    have hs2 : w1.heap.size < w2.heap.size := q0
    have HB2 : Hid (b2 = true ↔ inR js.length y) := hb2
    have HK2 : Hid (b2 = true → k2 = js.getD y.toNat kd0) := hk2
    have ht0 : w.heap.size < w2.heap.size := by omega
    have ht1 : w.heap.size + 1 < w2.heap.size := by omega
    dsimp only at p0 p1 p2 p3
    clear ho2 hb1 hb2 hk2
    go_wp2_with fail
    refine bodyPost_ret (v := .tuple #[zeroT, .int .i64 8]) (by simp [results, Tryz.results50, go_sem, r0, r1, r2, r3, ht1]) rfl ?_
    exact ⟨by exact (by repeat (first | exact Below.refl _ _ | assumption | refine below_drewN ?_ _ | refine Below.drew ?_ | refine Below.alloc ?_ (by simp <;> omega) _ | refine Below.setCell ?_ (by simp <;> omega) _)), .inl ⟨8, HR.out, by decide, rfl⟩⟩

set_option maxRecDepth 20000 in
set_option maxHeartbeats 2000000 in
theorem one_4 (w : World) (R : Nat) (lv ov : Value) (ks js : List Kd) (Q : Nat → Prop) (x y : Int) (s : ByteArray) (h : OneSt w R lv ov ks js Q) (hl : ks.length ≤ 2000) (hj : js.length ≤ 2000) (hs : s.size ≤ maxLen) :
    Calls Tryz.prog 50 #[.pointer (some ⟨R, 0, none⟩), .agg #[.int .i64 4, .int .i64 x, .int .i64 y, .string s]] w fun e w' => OneEnd4 w (tms ks) (tms js) ⟨4, x, y, s⟩ Q e w' := by
  have H : Hid (OneSt w R lv ov ks js Q) := h
  clear h hs
  by_cases hx : inR js.length x
  · have HO := H.out.out hx
    have hraw : atL (tms js) x = some ((js.getD x.toNat kd0).a, (js.getD x.toNat kd0).l) := atL_in hx
    have cA : Hid (∀ W, OneSt W R lv ov ks js Q → Calls Tryz.prog 66 #[.pointer (some ⟨R, 0, none⟩), .int .i64 x] W fun e w' => e = .returned (.tuple #[.agg #[.int .i64 (js.getD x.toNat kd0).a.kind, .int .i64 (js.getD x.toNat kd0).a.n, .string (js.getD x.toNat kd0).a.s, .slice (js.getD x.toNat kd0).A (flen (js.getD x.toNat kd0).l) (js.getD x.toNat kd0).cap], .bool true]) ∧ Below W.heap.size W w') := fun W hW => at_in W R lv ov ks js Q x hW hx hj
    generalize js.getD x.toNat kd0 = k1 at *
    have HO1 : Hid (k1.Ok w Q ∧ may k1.a k1.l = true) := HO
    clear HO hx
    by_cases hkk : k1.a.kind = 7
    · have h2 : flen k1.l = 2 := by have := (may_ar _ _ HO1.out.2).1; rw [hkk] at this; simp [kidsOf] at this; omega
      obtain ⟨j1, j2, hkl, ok1, ok2, hA, hS, _, ⟨e0, e1, e2, e3⟩, ⟨d0, d1, d2, d3⟩⟩ := two_kids HO1.out.1 h2
      have HR : Hid (rawP (tms ks) (tms js) ⟨4, x, y, s⟩ = .ok (j2.a, j2.l)) := by
        show rawP _ _ _ = _
        unfold rawP
        rw [if_neg (by simp), if_neg (by simp), if_neg (by simp), if_pos (by simp), show (⟨4, x, y, s⟩ : Mv).a = x from rfl, hraw]
        simp [onP, openP, hkk, hkl]
      have HJ : Hid (j2.Ok w Q) := ok2
      have hSb := H.out.2.2.2.2.2.2.2 _ hS
      have hkn : (k1.a.kind != 7) = false := by simp [hkk]
      have hkA : Hid (k1.A = some ⟨k1.b, k1.o, none⟩) := hA
      have HF : Hid (flen k1.l = 2) := h2
      have HC : Hid (∀ W, Below w.heap.size w W → W.cell? ⟨k1.b, k1.o + 4, none⟩ = some (.int .i64 j2.a.kind) ∧ W.cell? ⟨k1.b, k1.o + 4 + 1, none⟩ = some (.int .i64 j2.a.n) ∧ W.cell? ⟨k1.b, k1.o + 4 + 2, none⟩ = some (.string j2.a.s) ∧ W.cell? ⟨k1.b, k1.o + 4 + 3, none⟩ = some (.slice j2.A (flen j2.l) j2.cap)) := fun W hW =>
        ⟨by rw [hW.cell (by simpa using hSb)]; exact d0, by rw [hW.cell (by simpa using hSb)]; exact d1, by rw [hW.cell (by simpa using hSb)]; exact d2, by rw [hW.cell (by simpa using hSb)]; exact d3⟩
      clear hraw hkk h2 hkl ok1 ok2 hA e0 e1 e2 e3 d0 d1 d2 d3 hS
      go_enter Tryz.func50, Tryz.ntmps50
      go_wp2_with fail
      go_quiet (fail)
      go_wp2_with fail
      refine (cA.out _ (H.out.below (by exact (by repeat (first | exact Below.refl _ _ | assumption | refine below_drewN ?_ _ | refine Below.drew ?_ | refine Below.alloc ?_ (by simp <;> omega) _ | refine Below.setCell ?_ (by simp <;> omega) _))))).mono ?_
      rintro e w1 ⟨rfl, ho1⟩
      have hb1 : Below w.heap.size w w1 := Below.trans (by exact (by repeat (first | exact Below.refl _ _ | assumption | refine below_drewN ?_ _ | refine Below.drew ?_ | refine Below.alloc ?_ (by simp <;> omega) _ | refine Below.setCell ?_ (by simp <;> omega) _))) (ho1.mono (by simp; omega))
      have rb1 := (ResBox.new w ⟨4, x, y, s⟩).below (by simp) (Below.trans (by exact (by repeat (first | exact Below.refl _ _ | assumption | refine below_drewN ?_ _ | refine Below.drew ?_ | refine Below.alloc ?_ (by simp <;> omega) _ | refine Below.setCell ?_ (by simp <;> omega) _))) (ho1.mono (by simp)))
      have hs1 : w.heap.size + 1 < w1.heap.size := by have := ho1.size; simp at this; omega
      have RB1 : Hid (ResBox w w1 ⟨4, x, y, s⟩) := rb1
      obtain ⟨⟨p0, p1, p2, p3⟩, ⟨r0, r1, r2, r3⟩, ⟨f0, f1, f2, f3⟩⟩ := rb1
      have hs0 : w.heap.size < w1.heap.size := by omega
      dsimp only at p0 p1 p2 p3
      clear ho1
      go_wp2_with fail
      refine (at_any _ R lv ov ks js Q y (H.out.below (hb1.alloc hb1.size _)) hj).mono ?_
      rintro e w2 ⟨⟨k2, b2, rfl, hb2, hk2⟩, ho2⟩
      have hbw : Below w.heap.size w w2 := Below.trans (hb1.alloc hb1.size _) (ho2.mono (by have := hb1.size; simp; omega))
      clear p0 p1 p2 p3 r0 r1 r2 r3 f0 f1 f2 f3
      have rb2 := RB1.out.below hs1 (Below.trans (Below.alloc (Below.refl _ _) (Nat.le_refl _) _) (ho2.mono (by simp)))
      have RB2 : Hid (ResBox w w2 ⟨4, x, y, s⟩) := rb2
      obtain ⟨⟨p0, p1, p2, p3⟩, ⟨r0, r1, r2, r3⟩, ⟨f0, f1, f2, f3⟩⟩ := rb2
      obtain ⟨q0, q1, q2, q3, q4⟩ := Box4.below (Box4.new w1 (.int .i64 k1.a.kind) (.int .i64 k1.a.n) (.string k1.a.s) (.slice k1.A (flen k1.l) k1.cap) 27) ho2
      have hs2 : w1.heap.size < w2.heap.size := q0
      have HB2 : Hid (b2 = true ↔ inR js.length y) := hb2
      have HK2 : Hid (b2 = true → k2 = js.getD y.toNat kd0) := hk2
      have ht0 : w.heap.size < w2.heap.size := by omega
      have ht1 : w.heap.size + 1 < w2.heap.size := by omega
      dsimp only at p0 p1 p2 p3
      clear ho2 hb1 hb2 hk2
      obtain ⟨z0, z1, z2, z3⟩ := HC.out w2 hbw
      have hq2 : k1.b < w2.heap.size := by omega
      rw [hkA.out, HF.out] at q4
      clear HC
      go_wp2_with fail
      refine bodyPost_ret (v := .tuple #[.agg #[.int .i64 j2.a.kind, .int .i64 j2.a.n, .string j2.a.s, .slice j2.A (flen j2.l) j2.cap], .int .i64 0]) (by simp [results, Tryz.results50, go_sem, r0, r1, r2, r3, ht1]) rfl ?_
      exact OneEnd4.of (w := w) (k := j2) (by exact (by repeat (first | exact Below.refl _ _ | assumption | refine below_drewN ?_ _ | refine Below.drew ?_ | refine Below.alloc ?_ (by simp <;> omega) _ | refine Below.setCell ?_ (by simp <;> omega) _))) HR.out fun hb => H.out.known hb HJ.out
    · have HR : Hid (rawP (tms ks) (tms js) ⟨4, x, y, s⟩ = .error 3) := by
        show rawP _ _ _ = _
        unfold rawP
        rw [if_neg (by simp), if_neg (by simp), if_neg (by simp), if_pos (by simp), show (⟨4, x, y, s⟩ : Mv).a = x from rfl, hraw]
        simp [onP, openP, hkk]
      have hkn : (k1.a.kind != 7) = true := by simp [hkk]
      clear hraw hkk
      go_enter Tryz.func50, Tryz.ntmps50
      go_wp2_with fail
      go_quiet (fail)
      go_wp2_with fail
      refine (cA.out _ (H.out.below (by exact (by repeat (first | exact Below.refl _ _ | assumption | refine below_drewN ?_ _ | refine Below.drew ?_ | refine Below.alloc ?_ (by simp <;> omega) _ | refine Below.setCell ?_ (by simp <;> omega) _))))).mono ?_
      rintro e w1 ⟨rfl, ho1⟩
      have hb1 : Below w.heap.size w w1 := Below.trans (by exact (by repeat (first | exact Below.refl _ _ | assumption | refine below_drewN ?_ _ | refine Below.drew ?_ | refine Below.alloc ?_ (by simp <;> omega) _ | refine Below.setCell ?_ (by simp <;> omega) _))) (ho1.mono (by simp; omega))
      have rb1 := (ResBox.new w ⟨4, x, y, s⟩).below (by simp) (Below.trans (by exact (by repeat (first | exact Below.refl _ _ | assumption | refine below_drewN ?_ _ | refine Below.drew ?_ | refine Below.alloc ?_ (by simp <;> omega) _ | refine Below.setCell ?_ (by simp <;> omega) _))) (ho1.mono (by simp)))
      have hs1 : w.heap.size + 1 < w1.heap.size := by have := ho1.size; simp at this; omega
      have RB1 : Hid (ResBox w w1 ⟨4, x, y, s⟩) := rb1
      obtain ⟨⟨p0, p1, p2, p3⟩, ⟨r0, r1, r2, r3⟩, ⟨f0, f1, f2, f3⟩⟩ := rb1
      have hs0 : w.heap.size < w1.heap.size := by omega
      dsimp only at p0 p1 p2 p3
      clear ho1
      go_wp2_with fail
      refine (at_any _ R lv ov ks js Q y (H.out.below (hb1.alloc hb1.size _)) hj).mono ?_
      rintro e w2 ⟨⟨k2, b2, rfl, hb2, hk2⟩, ho2⟩
      have hbw : Below w.heap.size w w2 := Below.trans (hb1.alloc hb1.size _) (ho2.mono (by have := hb1.size; simp; omega))
      clear p0 p1 p2 p3 r0 r1 r2 r3 f0 f1 f2 f3
      have rb2 := RB1.out.below hs1 (Below.trans (Below.alloc (Below.refl _ _) (Nat.le_refl _) _) (ho2.mono (by simp)))
      have RB2 : Hid (ResBox w w2 ⟨4, x, y, s⟩) := rb2
      obtain ⟨⟨p0, p1, p2, p3⟩, ⟨r0, r1, r2, r3⟩, ⟨f0, f1, f2, f3⟩⟩ := rb2
      obtain ⟨q0, q1, q2, q3, q4⟩ := Box4.below (Box4.new w1 (.int .i64 k1.a.kind) (.int .i64 k1.a.n) (.string k1.a.s) (.slice k1.A (flen k1.l) k1.cap) 27) ho2
      have hs2 : w1.heap.size < w2.heap.size := q0
      have HB2 : Hid (b2 = true ↔ inR js.length y) := hb2
      have HK2 : Hid (b2 = true → k2 = js.getD y.toNat kd0) := hk2
      have ht0 : w.heap.size < w2.heap.size := by omega
      have ht1 : w.heap.size + 1 < w2.heap.size := by omega
      dsimp only at p0 p1 p2 p3
      clear ho2 hb1 hb2 hk2
      go_wp2_with fail
      refine bodyPost_ret (v := .tuple #[zeroT, .int .i64 3]) (by simp [results, Tryz.results50, go_sem, r0, r1, r2, r3, ht1]) rfl ?_
      exact ⟨by exact (by repeat (first | exact Below.refl _ _ | assumption | refine below_drewN ?_ _ | refine Below.drew ?_ | refine Below.alloc ?_ (by simp <;> omega) _ | refine Below.setCell ?_ (by simp <;> omega) _)), .inl ⟨3, HR.out, by decide, rfl⟩⟩
  · have HR : Hid (rawP (tms ks) (tms js) ⟨4, x, y, s⟩ = .error 8) := by
      show rawP _ _ _ = _
      unfold rawP
      rw [if_neg (by simp), if_neg (by simp), if_neg (by simp), if_pos (by simp), show (⟨4, x, y, s⟩ : Mv).a = x from rfl, atL_out hx]; rfl
    have cA : Hid (∀ W, OneSt W R lv ov ks js Q → Calls Tryz.prog 66 #[.pointer (some ⟨R, 0, none⟩), .int .i64 x] W fun e w' => e = .returned (.tuple #[zeroT, .bool false]) ∧ Below W.heap.size W w') := fun W hW => at_out W R lv ov ks js Q x hW hx hj
    obtain ⟨k1, hk1⟩ : ∃ k1 : Kd, k1 = ⟨0, 0, ⟨0, 0, ⟨#[]⟩⟩, .nil, none, 0, 0, 0⟩ := ⟨_, rfl⟩
    have hzT : zeroT = .agg #[.int .i64 k1.a.kind, .int .i64 k1.a.n, .string k1.a.s, .slice k1.A (flen k1.l) k1.cap] := by rw [hk1]; rfl
    rw [hzT] at cA
    clear hzT hk1 hx
    go_enter Tryz.func50, Tryz.ntmps50
    go_wp2_with fail
    go_quiet (fail)
    go_wp2_with fail
    refine (cA.out _ (H.out.below (by exact (by repeat (first | exact Below.refl _ _ | assumption | refine below_drewN ?_ _ | refine Below.drew ?_ | refine Below.alloc ?_ (by simp <;> omega) _ | refine Below.setCell ?_ (by simp <;> omega) _))))).mono ?_
    rintro e w1 ⟨rfl, ho1⟩
    have hb1 : Below w.heap.size w w1 := Below.trans (by exact (by repeat (first | exact Below.refl _ _ | assumption | refine below_drewN ?_ _ | refine Below.drew ?_ | refine Below.alloc ?_ (by simp <;> omega) _ | refine Below.setCell ?_ (by simp <;> omega) _))) (ho1.mono (by simp; omega))
    have rb1 := (ResBox.new w ⟨4, x, y, s⟩).below (by simp) (Below.trans (by exact (by repeat (first | exact Below.refl _ _ | assumption | refine below_drewN ?_ _ | refine Below.drew ?_ | refine Below.alloc ?_ (by simp <;> omega) _ | refine Below.setCell ?_ (by simp <;> omega) _))) (ho1.mono (by simp)))
    have hs1 : w.heap.size + 1 < w1.heap.size := by have := ho1.size; simp at this; omega
    have RB1 : Hid (ResBox w w1 ⟨4, x, y, s⟩) := rb1
    obtain ⟨⟨p0, p1, p2, p3⟩, ⟨r0, r1, r2, r3⟩, ⟨f0, f1, f2, f3⟩⟩ := rb1
    have hs0 : w.heap.size < w1.heap.size := by omega
    dsimp only at p0 p1 p2 p3
    clear ho1
    go_wp2_with fail
    refine (at_any _ R lv ov ks js Q y (H.out.below (hb1.alloc hb1.size _)) hj).mono ?_
    rintro e w2 ⟨⟨k2, b2, rfl, hb2, hk2⟩, ho2⟩
    have hbw : Below w.heap.size w w2 := Below.trans (hb1.alloc hb1.size _) (ho2.mono (by have := hb1.size; simp; omega))
    clear p0 p1 p2 p3 r0 r1 r2 r3 f0 f1 f2 f3
    have rb2 := RB1.out.below hs1 (Below.trans (Below.alloc (Below.refl _ _) (Nat.le_refl _) _) (ho2.mono (by simp)))
    have RB2 : Hid (ResBox w w2 ⟨4, x, y, s⟩) := rb2
    obtain ⟨⟨p0, p1, p2, p3⟩, ⟨r0, r1, r2, r3⟩, ⟨f0, f1, f2, f3⟩⟩ := rb2
    obtain ⟨q0, q1, q2, q3, q4⟩ := Box4.below (Box4.new w1 (.int .i64 k1.a.kind) (.int .i64 k1.a.n) (.string k1.a.s) (.slice k1.A (flen k1.l) k1.cap) 27) ho2
    have hs2 : w1.heap.size < w2.heap.size := q0
    have HB2 : Hid (b2 = true ↔ inR js.length y) := hb2
    have HK2 : Hid (b2 = true → k2 = js.getD y.toNat kd0) := hk2
    have ht0 : w.heap.size < w2.heap.size := by omega
    have ht1 : w.heap.size + 1 < w2.heap.size := by omega
    dsimp only at p0 p1 p2 p3
    clear ho2 hb1 hb2 hk2
    go_wp2_with fail
    refine bodyPost_ret (v := .tuple #[zeroT, .int .i64 8]) (by simp [results, Tryz.results50, go_sem, r0, r1, r2, r3, ht1]) rfl ?_
    exact ⟨by exact (by repeat (first | exact Below.refl _ _ | assumption | refine below_drewN ?_ _ | refine Below.drew ?_ | refine Below.alloc ?_ (by simp <;> omega) _ | refine Below.setCell ?_ (by simp <;> omega) _)), .inl ⟨8, HR.out, by decide, rfl⟩⟩

set_option maxRecDepth 20000 in
set_option maxHeartbeats 2000000 in
theorem one_5 (w : World) (R : Nat) (lv ov : Value) (ks js : List Kd) (Q : Nat → Prop) (x y : Int) (s : ByteArray) (h : OneSt w R lv ov ks js Q) (hl : ks.length ≤ 2000) (hj : js.length ≤ 2000) (hs : s.size ≤ maxLen) :
    Calls Tryz.prog 50 #[.pointer (some ⟨R, 0, none⟩), .agg #[.int .i64 5, .int .i64 x, .int .i64 y, .string s]] w fun e w' => OneEnd4 w (tms ks) (tms js) ⟨5, x, y, s⟩ Q e w' := by
  have H : Hid (OneSt w R lv ov ks js Q) := h
  clear h hs
  by_cases hx : inR js.length x
  · have HO := H.out.out hx
    have hraw : atL (tms js) x = some ((js.getD x.toNat kd0).a, (js.getD x.toNat kd0).l) := atL_in hx
    have cA : Hid (∀ W, OneSt W R lv ov ks js Q → Calls Tryz.prog 66 #[.pointer (some ⟨R, 0, none⟩), .int .i64 x] W fun e w' => e = .returned (.tuple #[.agg #[.int .i64 (js.getD x.toNat kd0).a.kind, .int .i64 (js.getD x.toNat kd0).a.n, .string (js.getD x.toNat kd0).a.s, .slice (js.getD x.toNat kd0).A (flen (js.getD x.toNat kd0).l) (js.getD x.toNat kd0).cap], .bool true]) ∧ Below W.heap.size W w') := fun W hW => at_in W R lv ov ks js Q x hW hx hj
    generalize js.getD x.toNat kd0 = k1 at *
    have HO1 : Hid (k1.Ok w Q ∧ may k1.a k1.l = true) := HO
    clear HO hx
    by_cases hkk : k1.a.kind = 6
    · have h2 : flen k1.l = 2 := by have := (may_ar _ _ HO1.out.2).1; rw [hkk] at this; simp [kidsOf] at this; omega
      obtain ⟨j1, j2, hkl, ok1, ok2, hA, hS, _, ⟨e0, e1, e2, e3⟩, ⟨d0, d1, d2, d3⟩⟩ := two_kids HO1.out.1 h2
      have HR : Hid (rawP (tms ks) (tms js) ⟨5, x, y, s⟩ = .ok (j2.a, j2.l)) := by
        show rawP _ _ _ = _
        unfold rawP
        rw [if_neg (by simp), if_neg (by simp), if_neg (by simp), if_neg (by simp), if_pos (by simp), show (⟨5, x, y, s⟩ : Mv).a = x from rfl, hraw]
        simp [onP, openP, hkk, hkl]
      have HJ : Hid (j2.Ok w Q) := ok2
      have hSb := H.out.2.2.2.2.2.2.2 _ hS
      have hkn : (k1.a.kind != 6) = false := by simp [hkk]
      have hkA : Hid (k1.A = some ⟨k1.b, k1.o, none⟩) := hA
      have HF : Hid (flen k1.l = 2) := h2
      have HC : Hid (∀ W, Below w.heap.size w W → W.cell? ⟨k1.b, k1.o + 4, none⟩ = some (.int .i64 j2.a.kind) ∧ W.cell? ⟨k1.b, k1.o + 4 + 1, none⟩ = some (.int .i64 j2.a.n) ∧ W.cell? ⟨k1.b, k1.o + 4 + 2, none⟩ = some (.string j2.a.s) ∧ W.cell? ⟨k1.b, k1.o + 4 + 3, none⟩ = some (.slice j2.A (flen j2.l) j2.cap)) := fun W hW =>
        ⟨by rw [hW.cell (by simpa using hSb)]; exact d0, by rw [hW.cell (by simpa using hSb)]; exact d1, by rw [hW.cell (by simpa using hSb)]; exact d2, by rw [hW.cell (by simpa using hSb)]; exact d3⟩
      clear hraw hkk h2 hkl ok1 ok2 hA e0 e1 e2 e3 d0 d1 d2 d3 hS
      go_enter Tryz.func50, Tryz.ntmps50
      go_wp2_with fail
      go_quiet (fail)
      go_wp2_with fail
      refine (cA.out _ (H.out.below (by exact (by repeat (first | exact Below.refl _ _ | assumption | refine below_drewN ?_ _ | refine Below.drew ?_ | refine Below.alloc ?_ (by simp <;> omega) _ | refine Below.setCell ?_ (by simp <;> omega) _))))).mono ?_
      rintro e w1 ⟨rfl, ho1⟩
      have hb1 : Below w.heap.size w w1 := Below.trans (by exact (by repeat (first | exact Below.refl _ _ | assumption | refine below_drewN ?_ _ | refine Below.drew ?_ | refine Below.alloc ?_ (by simp <;> omega) _ | refine Below.setCell ?_ (by simp <;> omega) _))) (ho1.mono (by simp; omega))
      have rb1 := (ResBox.new w ⟨5, x, y, s⟩).below (by simp) (Below.trans (by exact (by repeat (first | exact Below.refl _ _ | assumption | refine below_drewN ?_ _ | refine Below.drew ?_ | refine Below.alloc ?_ (by simp <;> omega) _ | refine Below.setCell ?_ (by simp <;> omega) _))) (ho1.mono (by simp)))
      have hs1 : w.heap.size + 1 < w1.heap.size := by have := ho1.size; simp at this; omega
      have RB1 : Hid (ResBox w w1 ⟨5, x, y, s⟩) := rb1
      obtain ⟨⟨p0, p1, p2, p3⟩, ⟨r0, r1, r2, r3⟩, ⟨f0, f1, f2, f3⟩⟩ := rb1
      have hs0 : w.heap.size < w1.heap.size := by omega
      dsimp only at p0 p1 p2 p3
      clear ho1
      go_wp2_with fail
      refine (at_any _ R lv ov ks js Q y (H.out.below (hb1.alloc hb1.size _)) hj).mono ?_
      rintro e w2 ⟨⟨k2, b2, rfl, hb2, hk2⟩, ho2⟩
      have hbw : Below w.heap.size w w2 := Below.trans (hb1.alloc hb1.size _) (ho2.mono (by have := hb1.size; simp; omega))
      clear p0 p1 p2 p3 r0 r1 r2 r3 f0 f1 f2 f3
      have rb2 := RB1.out.below hs1 (Below.trans (Below.alloc (Below.refl _ _) (Nat.le_refl _) _) (ho2.mono (by simp)))
      have RB2 : Hid (ResBox w w2 ⟨5, x, y, s⟩) := rb2
      obtain ⟨⟨p0, p1, p2, p3⟩, ⟨r0, r1, r2, r3⟩, ⟨f0, f1, f2, f3⟩⟩ := rb2
      obtain ⟨q0, q1, q2, q3, q4⟩ := Box4.below (Box4.new w1 (.int .i64 k1.a.kind) (.int .i64 k1.a.n) (.string k1.a.s) (.slice k1.A (flen k1.l) k1.cap) 27) ho2
      have hs2 : w1.heap.size < w2.heap.size := q0
      have HB2 : Hid (b2 = true ↔ inR js.length y) := hb2
      have HK2 : Hid (b2 = true → k2 = js.getD y.toNat kd0) := hk2
      have ht0 : w.heap.size < w2.heap.size := by omega
      have ht1 : w.heap.size + 1 < w2.heap.size := by omega
      dsimp only at p0 p1 p2 p3
      clear ho2 hb1 hb2 hk2
      obtain ⟨z0, z1, z2, z3⟩ := HC.out w2 hbw
      have hq2 : k1.b < w2.heap.size := by omega
      rw [hkA.out, HF.out] at q4
      clear HC
      go_wp2_with fail
      refine bodyPost_ret (v := .tuple #[.agg #[.int .i64 j2.a.kind, .int .i64 j2.a.n, .string j2.a.s, .slice j2.A (flen j2.l) j2.cap], .int .i64 0]) (by simp [results, Tryz.results50, go_sem, r0, r1, r2, r3, ht1]) rfl ?_
      exact OneEnd4.of (w := w) (k := j2) (by exact (by repeat (first | exact Below.refl _ _ | assumption | refine below_drewN ?_ _ | refine Below.drew ?_ | refine Below.alloc ?_ (by simp <;> omega) _ | refine Below.setCell ?_ (by simp <;> omega) _))) HR.out fun hb => H.out.known hb HJ.out
    · have HR : Hid (rawP (tms ks) (tms js) ⟨5, x, y, s⟩ = .error 3) := by
        show rawP _ _ _ = _
        unfold rawP
        rw [if_neg (by simp), if_neg (by simp), if_neg (by simp), if_neg (by simp), if_pos (by simp), show (⟨5, x, y, s⟩ : Mv).a = x from rfl, hraw]
        simp [onP, openP, hkk]
      have hkn : (k1.a.kind != 6) = true := by simp [hkk]
      clear hraw hkk
      go_enter Tryz.func50, Tryz.ntmps50
      go_wp2_with fail
      go_quiet (fail)
      go_wp2_with fail
      refine (cA.out _ (H.out.below (by exact (by repeat (first | exact Below.refl _ _ | assumption | refine below_drewN ?_ _ | refine Below.drew ?_ | refine Below.alloc ?_ (by simp <;> omega) _ | refine Below.setCell ?_ (by simp <;> omega) _))))).mono ?_
      rintro e w1 ⟨rfl, ho1⟩
      have hb1 : Below w.heap.size w w1 := Below.trans (by exact (by repeat (first | exact Below.refl _ _ | assumption | refine below_drewN ?_ _ | refine Below.drew ?_ | refine Below.alloc ?_ (by simp <;> omega) _ | refine Below.setCell ?_ (by simp <;> omega) _))) (ho1.mono (by simp; omega))
      have rb1 := (ResBox.new w ⟨5, x, y, s⟩).below (by simp) (Below.trans (by exact (by repeat (first | exact Below.refl _ _ | assumption | refine below_drewN ?_ _ | refine Below.drew ?_ | refine Below.alloc ?_ (by simp <;> omega) _ | refine Below.setCell ?_ (by simp <;> omega) _))) (ho1.mono (by simp)))
      have hs1 : w.heap.size + 1 < w1.heap.size := by have := ho1.size; simp at this; omega
      have RB1 : Hid (ResBox w w1 ⟨5, x, y, s⟩) := rb1
      obtain ⟨⟨p0, p1, p2, p3⟩, ⟨r0, r1, r2, r3⟩, ⟨f0, f1, f2, f3⟩⟩ := rb1
      have hs0 : w.heap.size < w1.heap.size := by omega
      dsimp only at p0 p1 p2 p3
      clear ho1
      go_wp2_with fail
      refine (at_any _ R lv ov ks js Q y (H.out.below (hb1.alloc hb1.size _)) hj).mono ?_
      rintro e w2 ⟨⟨k2, b2, rfl, hb2, hk2⟩, ho2⟩
      have hbw : Below w.heap.size w w2 := Below.trans (hb1.alloc hb1.size _) (ho2.mono (by have := hb1.size; simp; omega))
      clear p0 p1 p2 p3 r0 r1 r2 r3 f0 f1 f2 f3
      have rb2 := RB1.out.below hs1 (Below.trans (Below.alloc (Below.refl _ _) (Nat.le_refl _) _) (ho2.mono (by simp)))
      have RB2 : Hid (ResBox w w2 ⟨5, x, y, s⟩) := rb2
      obtain ⟨⟨p0, p1, p2, p3⟩, ⟨r0, r1, r2, r3⟩, ⟨f0, f1, f2, f3⟩⟩ := rb2
      obtain ⟨q0, q1, q2, q3, q4⟩ := Box4.below (Box4.new w1 (.int .i64 k1.a.kind) (.int .i64 k1.a.n) (.string k1.a.s) (.slice k1.A (flen k1.l) k1.cap) 27) ho2
      have hs2 : w1.heap.size < w2.heap.size := q0
      have HB2 : Hid (b2 = true ↔ inR js.length y) := hb2
      have HK2 : Hid (b2 = true → k2 = js.getD y.toNat kd0) := hk2
      have ht0 : w.heap.size < w2.heap.size := by omega
      have ht1 : w.heap.size + 1 < w2.heap.size := by omega
      dsimp only at p0 p1 p2 p3
      clear ho2 hb1 hb2 hk2
      go_wp2_with fail
      refine bodyPost_ret (v := .tuple #[zeroT, .int .i64 3]) (by simp [results, Tryz.results50, go_sem, r0, r1, r2, r3, ht1]) rfl ?_
      exact ⟨by exact (by repeat (first | exact Below.refl _ _ | assumption | refine below_drewN ?_ _ | refine Below.drew ?_ | refine Below.alloc ?_ (by simp <;> omega) _ | refine Below.setCell ?_ (by simp <;> omega) _)), .inl ⟨3, HR.out, by decide, rfl⟩⟩
  · have HR : Hid (rawP (tms ks) (tms js) ⟨5, x, y, s⟩ = .error 8) := by
      show rawP _ _ _ = _
      unfold rawP
      rw [if_neg (by simp), if_neg (by simp), if_neg (by simp), if_neg (by simp), if_pos (by simp), show (⟨5, x, y, s⟩ : Mv).a = x from rfl, atL_out hx]; rfl
    have cA : Hid (∀ W, OneSt W R lv ov ks js Q → Calls Tryz.prog 66 #[.pointer (some ⟨R, 0, none⟩), .int .i64 x] W fun e w' => e = .returned (.tuple #[zeroT, .bool false]) ∧ Below W.heap.size W w') := fun W hW => at_out W R lv ov ks js Q x hW hx hj
    obtain ⟨k1, hk1⟩ : ∃ k1 : Kd, k1 = ⟨0, 0, ⟨0, 0, ⟨#[]⟩⟩, .nil, none, 0, 0, 0⟩ := ⟨_, rfl⟩
    have hzT : zeroT = .agg #[.int .i64 k1.a.kind, .int .i64 k1.a.n, .string k1.a.s, .slice k1.A (flen k1.l) k1.cap] := by rw [hk1]; rfl
    rw [hzT] at cA
    clear hzT hk1 hx
    go_enter Tryz.func50, Tryz.ntmps50
    go_wp2_with fail
    go_quiet (fail)
    go_wp2_with fail
    refine (cA.out _ (H.out.below (by exact (by repeat (first | exact Below.refl _ _ | assumption | refine below_drewN ?_ _ | refine Below.drew ?_ | refine Below.alloc ?_ (by simp <;> omega) _ | refine Below.setCell ?_ (by simp <;> omega) _))))).mono ?_
    rintro e w1 ⟨rfl, ho1⟩
    have hb1 : Below w.heap.size w w1 := Below.trans (by exact (by repeat (first | exact Below.refl _ _ | assumption | refine below_drewN ?_ _ | refine Below.drew ?_ | refine Below.alloc ?_ (by simp <;> omega) _ | refine Below.setCell ?_ (by simp <;> omega) _))) (ho1.mono (by simp; omega))
    have rb1 := (ResBox.new w ⟨5, x, y, s⟩).below (by simp) (Below.trans (by exact (by repeat (first | exact Below.refl _ _ | assumption | refine below_drewN ?_ _ | refine Below.drew ?_ | refine Below.alloc ?_ (by simp <;> omega) _ | refine Below.setCell ?_ (by simp <;> omega) _))) (ho1.mono (by simp)))
    have hs1 : w.heap.size + 1 < w1.heap.size := by have := ho1.size; simp at this; omega
    have RB1 : Hid (ResBox w w1 ⟨5, x, y, s⟩) := rb1
    obtain ⟨⟨p0, p1, p2, p3⟩, ⟨r0, r1, r2, r3⟩, ⟨f0, f1, f2, f3⟩⟩ := rb1
    have hs0 : w.heap.size < w1.heap.size := by omega
    dsimp only at p0 p1 p2 p3
    clear ho1
    go_wp2_with fail
    refine (at_any _ R lv ov ks js Q y (H.out.below (hb1.alloc hb1.size _)) hj).mono ?_
    rintro e w2 ⟨⟨k2, b2, rfl, hb2, hk2⟩, ho2⟩
    have hbw : Below w.heap.size w w2 := Below.trans (hb1.alloc hb1.size _) (ho2.mono (by have := hb1.size; simp; omega))
    clear p0 p1 p2 p3 r0 r1 r2 r3 f0 f1 f2 f3
    have rb2 := RB1.out.below hs1 (Below.trans (Below.alloc (Below.refl _ _) (Nat.le_refl _) _) (ho2.mono (by simp)))
    have RB2 : Hid (ResBox w w2 ⟨5, x, y, s⟩) := rb2
    obtain ⟨⟨p0, p1, p2, p3⟩, ⟨r0, r1, r2, r3⟩, ⟨f0, f1, f2, f3⟩⟩ := rb2
    obtain ⟨q0, q1, q2, q3, q4⟩ := Box4.below (Box4.new w1 (.int .i64 k1.a.kind) (.int .i64 k1.a.n) (.string k1.a.s) (.slice k1.A (flen k1.l) k1.cap) 27) ho2
    have hs2 : w1.heap.size < w2.heap.size := q0
    have HB2 : Hid (b2 = true ↔ inR js.length y) := hb2
    have HK2 : Hid (b2 = true → k2 = js.getD y.toNat kd0) := hk2
    have ht0 : w.heap.size < w2.heap.size := by omega
    have ht1 : w.heap.size + 1 < w2.heap.size := by omega
    dsimp only at p0 p1 p2 p3
    clear ho2 hb1 hb2 hk2
    go_wp2_with fail
    refine bodyPost_ret (v := .tuple #[zeroT, .int .i64 8]) (by simp [results, Tryz.results50, go_sem, r0, r1, r2, r3, ht1]) rfl ?_
    exact ⟨by exact (by repeat (first | exact Below.refl _ _ | assumption | refine below_drewN ?_ _ | refine Below.drew ?_ | refine Below.alloc ?_ (by simp <;> omega) _ | refine Below.setCell ?_ (by simp <;> omega) _)), .inl ⟨8, HR.out, by decide, rfl⟩⟩

end Go.Proofs.YtanpplgmdemlaaaGreatDoor
