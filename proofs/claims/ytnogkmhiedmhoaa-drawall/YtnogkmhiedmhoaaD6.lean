import Derived.Test.YtnogkmhiedmhoaaD5
namespace Go.Proofs.Ytnogkmhiedmhoaa
open Go.RowKit
set_option linter.unusedVariables false
set_option linter.unusedSimpArgs false

set_option maxRecDepth 20000 in
set_option maxHeartbeats 4000000 in
theorem drawAll_near (a b now by_ til : Int) (w : World) (a1 : -9223372036854775808 ≤ a) (a2 : a ≤ 9223372036854775807) (c1 : -9223372036854775808 ≤ b) (c2 : b ≤ 9223372036854775807) (d1 : -9223372036854775808 ≤ now) (d2 : now ≤ 9223372036854775807) (b7 : -9223372036854775808 ≤ by_) (b8 : by_ ≤ 9223372036854775807) :
    Calls Try.prog 3 #[.int .i64 a, .int .i64 b, .int .i64 now, .int .i64 by_, .int .i64 til, .bool true] w fun e w' => e = .returned (.bool true) ∧ Below w.heap.size w w' := by
  obtain ⟨p, hp, p1, p2⟩ : ∃ z, a % 1073741825 = z ∧ 0 ≤ z ∧ z < 1073741825 := ⟨_, rfl, by omega, by omega⟩
  obtain ⟨q, hq, q1, q2⟩ : ∃ z, b % 1073741825 = z ∧ 0 ≤ z ∧ z < 1073741825 := ⟨_, rfl, by omega, by omega⟩
  obtain ⟨r, hr, r1, r2⟩ : ∃ z, now % 1099511627777 = z ∧ 0 ≤ z ∧ z < 1099511627777 := ⟨_, rfl, by omega, by omega⟩
  have kp : Hid (∀ w : World, Calls Try.prog 7 #[.int .i64 a, .int .i64 1073741825] w fun e w' => e = .returned (.int .i64 p) ∧ w' = w) := fun w => by
    have h := within5_any a 1073741825 w (by omega) (by omega) a1 a2
    rwa [hp] at h
  have kq : Hid (∀ w : World, Calls Try.prog 7 #[.int .i64 b, .int .i64 1073741825] w fun e w' => e = .returned (.int .i64 q) ∧ w' = w) := fun w => by
    have h := within5_any b 1073741825 w (by omega) (by omega) c1 c2
    rwa [hq] at h
  have kr : Hid (∀ w : World, Calls Try.prog 7 #[.int .i64 now, .int .i64 1099511627777] w fun e w' => e = .returned (.int .i64 r) ∧ w' = w) := fun w => by
    have h := within5_any now 1099511627777 w (by omega) (by omega) d1 d2
    rwa [hr] at h
  obtain ⟨s, hs, s1, s2⟩ : ∃ z, a % 3 = z ∧ 0 ≤ z ∧ z < 3 := ⟨_, rfl, by omega, by omega⟩
  obtain ⟨t, ht, t1, t2⟩ : ∃ z, b % 3 = z ∧ 0 ≤ z ∧ z < 3 := ⟨_, rfl, by omega, by omega⟩
  obtain ⟨v, hv, v1, v2⟩ : ∃ z, now % 5 = z ∧ 0 ≤ z ∧ z < 5 := ⟨_, rfl, by omega, by omega⟩
  have ks : Hid (∀ w : World, Calls Try.prog 7 #[.int .i64 a, .int .i64 3] w fun e w' => e = .returned (.int .i64 s) ∧ w' = w) := fun w => by
    have h := within5_any a 3 w (by omega) (by omega) a1 a2
    rwa [hs] at h
  have kt : Hid (∀ w : World, Calls Try.prog 7 #[.int .i64 b, .int .i64 3] w fun e w' => e = .returned (.int .i64 t) ∧ w' = w) := fun w => by
    have h := within5_any b 3 w (by omega) (by omega) c1 c2
    rwa [ht] at h
  have kv : Hid (∀ w : World, Calls Try.prog 7 #[.int .i64 now, .int .i64 5] w fun e w' => e = .returned (.int .i64 v) ∧ w' = w) := fun w => by
    have h := within5_any now 5 w (by omega) (by omega) d1 d2
    rwa [hv] at h
  clear hp hq hr hs ht hv a1 a2 c1 c2 d1 d2
  go_enter Try.func3, Try.ntmps3
  go_wp2_with fail
  refine (known5_any _).mono ?_
  rintro e w1 ⟨rfl, ho1⟩
  go_wp2_with fail
  refine (kp.out _).mono ?_
  rintro e wx ⟨rfl, rfl⟩
  go_wp2_with fail
  refine (kq.out _).mono ?_
  rintro e wx ⟨rfl, rfl⟩
  go_wp2_with fail
  refine (kr.out _).mono ?_
  rintro e wx ⟨rfl, rfl⟩
  go_wp2_with fail
  refine (ks.out _).mono ?_
  rintro e wx ⟨rfl, rfl⟩
  go_wp2_with fail
  refine (kt.out _).mono ?_
  rintro e wx ⟨rfl, rfl⟩
  go_wp2_with fail
  refine (kv.out _).mono ?_
  rintro e wx ⟨rfl, rfl⟩
  clear kp kq kr ks kt kv
  obtain ⟨N, hN, N1, N2⟩ : ∃ N : Int, N = 1073741823 + s ∧ 1 ≤ N ∧ N ≤ 1073741825 := ⟨_, rfl, by omega, by omega⟩
  obtain ⟨C, hC, C1, C2⟩ : ∃ C : Int, C = 1073741823 + t ∧ 1 ≤ C ∧ C ≤ 1073741825 := ⟨_, rfl, by omega, by omega⟩
  obtain ⟨T, hT, b5, b6⟩ : ∃ T : Int, T = 1099511627776 - v ∧ 0 ≤ T ∧ T ≤ 1099511627776 := ⟨_, rfl, by omega, by omega⟩
  obtain ⟨n0, n1, n2, n3, n4, hv⟩ := drawV_shape N N C T (N + 1) C T
  obtain ⟨m0, m1, m2, m3, m4, hu⟩ := drawV_shape C N C T N (C + 1) T
  obtain ⟨T1, HT⟩ : ∃ T1, Hid (untilI T by_ = T1) := ⟨_, rfl⟩
  obtain ⟨lv, HL⟩ : ∃ lv, Hid (decide (T < til) = lv) := ⟨_, rfl⟩
  go_wp2_with fail
  rw [← hN, ← hC, ← hT]
  clear hN hC hT
  clear p1 p2 q1 q2 r1 r2 s1 s2 t1 t2 v1 v2
  go_wp2_with fail
  refine (nonce_any N C T _ (by omega) (by omega)).mono ?_
  rw [hv]
  rintro e w2 ⟨rfl, ho2⟩
  obtain ⟨x0, x1, x2, x3⟩ := Box3.below (q := wx.heap.size) (v0 := .int .i64 (N)) (v1 := .int .i64 (C)) (v2 := .int .i64 (T)) ⟨by simp, by simp [go_sem], by simp [go_sem], by simp [go_sem]⟩ ho2
  have hb2 : Below w.heap.size w w2 := Below.trans (ho1.alloc ho1.size _) (ho2.mono (by have := ho1.size; simp; omega))
  clear ho2
  go_wp2_with fail
  refine (refNonce_any N C T _ (by omega) (by omega)).mono ?_
  rw [hv]
  rintro e w3 ⟨rfl, ho3⟩
  obtain ⟨x0, x1, x2, x3⟩ := Box3.below (q := wx.heap.size) (v0 := .int .i64 (N)) (v1 := .int .i64 (C)) (v2 := .int .i64 (T)) ⟨by simp; omega, by simp [go_sem, x0, x1], by simp [go_sem, x0, x2], by simp [go_sem, x0, x3]⟩ ho3
  obtain ⟨y0, y1, y2, y3⟩ := Box3.below (q := w2.heap.size) (v0 := .int .i64 n1) (v1 := .int .i64 n2) (v2 := .int .i64 n3) ⟨by simp, by simp [go_sem], by simp [go_sem], by simp [go_sem]⟩ ho3
  have hb3 : Below w.heap.size w w3 := Below.trans (hb2.alloc hb2.size _) (ho3.mono (by have := hb2.size; simp; omega))
  clear ho3 hb2
  go_wp2_with fail
  refine (conn_any N C T _ (by omega) (by omega)).mono ?_
  rw [hu]
  rintro e w4 ⟨rfl, ho4⟩
  obtain ⟨x0, x1, x2, x3⟩ := Box3.below (q := wx.heap.size) (v0 := .int .i64 (N)) (v1 := .int .i64 (C)) (v2 := .int .i64 (T)) ⟨by simp; omega, by simp [go_sem, x0, x1], by simp [go_sem, x0, x2], by simp [go_sem, x0, x3]⟩ ho4
  obtain ⟨y0, y1, y2, y3⟩ := Box3.below (q := w2.heap.size) (v0 := .int .i64 n1) (v1 := .int .i64 n2) (v2 := .int .i64 n3) ⟨by simp; omega, by simp [go_sem, y0, y1], by simp [go_sem, y0, y2], by simp [go_sem, y0, y3]⟩ ho4
  obtain ⟨z0, z1, z2, z3⟩ := Box3.below (q := w3.heap.size) (v0 := .int .i64 n1) (v1 := .int .i64 n2) (v2 := .int .i64 n3) ⟨by simp, by simp [go_sem], by simp [go_sem], by simp [go_sem]⟩ ho4
  have hb4 : Below w.heap.size w w4 := Below.trans (hb3.alloc hb3.size _) (ho4.mono (by have := hb3.size; simp; omega))
  clear ho4 hb3
  go_wp2_with fail
  refine (refConn_any N C T _ (by omega) (by omega)).mono ?_
  rw [hu]
  rintro e w5 ⟨rfl, ho5⟩
  obtain ⟨x0, x1, x2, x3⟩ := Box3.below (q := wx.heap.size) (v0 := .int .i64 (N)) (v1 := .int .i64 (C)) (v2 := .int .i64 (T)) ⟨by simp; omega, by simp [go_sem, x0, x1], by simp [go_sem, x0, x2], by simp [go_sem, x0, x3]⟩ ho5
  obtain ⟨y0, y1, y2, y3⟩ := Box3.below (q := w2.heap.size) (v0 := .int .i64 n1) (v1 := .int .i64 n2) (v2 := .int .i64 n3) ⟨by simp; omega, by simp [go_sem, y0, y1], by simp [go_sem, y0, y2], by simp [go_sem, y0, y3]⟩ ho5
  obtain ⟨z0, z1, z2, z3⟩ := Box3.below (q := w3.heap.size) (v0 := .int .i64 n1) (v1 := .int .i64 n2) (v2 := .int .i64 n3) ⟨by simp; omega, by simp [go_sem, z0, z1], by simp [go_sem, z0, z2], by simp [go_sem, z0, z3]⟩ ho5
  obtain ⟨u0, u1, u2, u3⟩ := Box3.below (q := w4.heap.size) (v0 := .int .i64 m1) (v1 := .int .i64 m2) (v2 := .int .i64 m3) ⟨by simp, by simp [go_sem], by simp [go_sem], by simp [go_sem]⟩ ho5
  have hb5 : Below w.heap.size w w5 := Below.trans (hb4.alloc hb4.size _) (ho5.mono (by have := hb4.size; simp; omega))
  clear ho5 hb4 ho1
  have hb6 : Below w.heap.size w (w5.alloc (.cells #[.int .i64 m1, .int .i64 m2, .int .i64 m3] 25)) := hb5.alloc hb5.size _
  have E : ∀ W, Below (w5.alloc (.cells #[.int .i64 m1, .int .i64 m2, .int .i64 m3] 25)).heap.size (w5.alloc (.cells #[.int .i64 m1, .int .i64 m2, .int .i64 m3] 25)) W →
      Box3 W wx.heap.size (.int .i64 N) (.int .i64 C) (.int .i64 T) ∧ Box3 W w2.heap.size (.int .i64 n1) (.int .i64 n2) (.int .i64 n3) ∧ Box3 W w3.heap.size (.int .i64 n1) (.int .i64 n2) (.int .i64 n3) ∧ Box3 W w4.heap.size (.int .i64 m1) (.int .i64 m2) (.int .i64 m3) ∧ Box3 W w5.heap.size (.int .i64 m1) (.int .i64 m2) (.int .i64 m3) := fun W hW => by
    have hW' : Below w5.heap.size w5 W := Below.trans (Below.alloc (Below.refl _ _) (Nat.le_refl _) _) (hW.mono (by simp))
    exact ⟨Box3.below ⟨x0, x1, x2, x3⟩ hW', Box3.below ⟨y0, y1, y2, y3⟩ hW', Box3.below ⟨z0, z1, z2, z3⟩ hW', Box3.below ⟨u0, u1, u2, u3⟩ hW', Box3.below ⟨by simp, by simp [go_sem], by simp [go_sem], by simp [go_sem]⟩ hW⟩
  clear hb5 hv hu
  go_wp2_with fail
  clear x0 x1 x2 x3 y0 y1 y2 y3 z0 z1 z2 z3 u0 u1 u2 u3
  generalize w5.alloc (.cells #[.int .i64 m1, .int .i64 m2, .int .i64 m3] 25) = w6 at *
  have HE : Hid (∀ W, Below w6.heap.size w6 W → Box3 W wx.heap.size (.int .i64 N) (.int .i64 C) (.int .i64 T) ∧ Box3 W w2.heap.size (.int .i64 n1) (.int .i64 n2) (.int .i64 n3) ∧ Box3 W w3.heap.size (.int .i64 n1) (.int .i64 n2) (.int .i64 n3) ∧ Box3 W w4.heap.size (.int .i64 m1) (.int .i64 m2) (.int .i64 m3) ∧ Box3 W w5.heap.size (.int .i64 m1) (.int .i64 m2) (.int .i64 m3)) := E
  clear E
  have cT1 : Hid (∀ W, Below w6.heap.size w6 W → Calls Try.prog 12 #[(.agg #[.int .i64 (N), .int .i64 (C), .int .i64 (T)]), .int .i64 by_] W fun e w' => e = .returned (.agg #[.int .i64 (N), .int .i64 (C), .int .i64 (T1)]) ∧ Below w6.heap.size w6 w') := fun W hW => by
    refine (tick_any N C T by_ W b5 b6 b7 b8).mono fun e w' ⟨h, hb⟩ => ⟨by rw [h, HT.out], hW.trans (hb.mono hW.size)⟩
  have cT2 : Hid (∀ W, Below w6.heap.size w6 W → Calls Try.prog 13 #[(.agg #[.int .i64 (N), .int .i64 (C), .int .i64 (T)]), .int .i64 by_] W fun e w' => e = .returned (.agg #[.int .i64 (N), .int .i64 (C), .int .i64 (T1)]) ∧ Below w6.heap.size w6 w') := fun W hW => by
    refine (refTick_any N C T by_ W b5 b6 b7 b8).mono fun e w' ⟨h, hb⟩ => ⟨by rw [h, HT.out], hW.trans (hb.mono hW.size)⟩
  have cU1 : Hid (∀ W, Calls Try.prog 14 #[.int .i64 T, .int .i64 by_] W fun e w' => e = .returned (.int .i64 T1) ∧ w' = W) := fun W => by
    have h := until_any T by_ W b5 b6 b7 b8
    rwa [HT.out] at h
  have cU2 : Hid (∀ W, Calls Try.prog 15 #[.int .i64 T, .int .i64 by_] W fun e w' => e = .returned (.int .i64 T1) ∧ w' = W) := fun W => by
    have h := refUntil_any T by_ W b5 b6 b7 b8
    rwa [HT.out] at h
  have cL1 : Hid (∀ W, Calls Try.prog 16 #[.int .i64 T, .int .i64 til] W fun e w' => e = .returned (.bool lv) ∧ w' = W) := fun W => by
    have h := live_any T til W
    rwa [HL.out] at h
  have cL2 : Hid (∀ W, Calls Try.prog 17 #[.int .i64 T, .int .i64 til] W fun e w' => e = .returned (.bool lv) ∧ w' = W) := fun W => by
    have h := refLive_any T til W
    rwa [HL.out] at h
  have cN1 : Hid (∀ W, Below w6.heap.size w6 W → Calls Try.prog 18 #[] W fun e w' => e = .returned (.agg #[.int .i64 (1), .int .i64 (1), .int .i64 (0)]) ∧ Below w6.heap.size w6 w') := fun W hW => by
    refine (new_any W).mono fun e w' ⟨h, hb⟩ => ⟨h, hW.trans (hb.mono hW.size)⟩
  have cN2 : Hid (∀ W, Below w6.heap.size w6 W → Calls Try.prog 19 #[] W fun e w' => e = .returned (.agg #[.int .i64 (1), .int .i64 (1), .int .i64 (0)]) ∧ Below w6.heap.size w6 w') := fun W hW => by
    refine (refNew_any W).mono fun e w' ⟨h, hb⟩ => ⟨h, hW.trans (hb.mono hW.size)⟩
  clear HT HL b7 b8
  dsimp only [List.append]
  go_region_held3 (fun W => (Box3 W wx.heap.size (.int .i64 N) (.int .i64 C) (.int .i64 T) ∧ Box3 W w2.heap.size (.int .i64 n1) (.int .i64 n2) (.int .i64 n3) ∧ Box3 W w3.heap.size (.int .i64 n1) (.int .i64 n2) (.int .i64 n3) ∧ Box3 W w4.heap.size (.int .i64 m1) (.int .i64 m2) (.int .i64 m3) ∧ Box3 W w5.heap.size (.int .i64 m1) (.int .i64 m2) (.int .i64 m3)) ∧ Below w6.heap.size w6 W)
    (first | exact ⟨HE.out _ (Below.drew (Below.refl _ _)), Below.drew (Below.refl _ _)⟩ | assumption | exact ⟨HE.out _ (by assumption), by assumption⟩)
    (first
      | (go_at_call 16; refine (cL1.out _).mono ?_; rintro e w7 ⟨rfl, rfl⟩)
      | (go_at_call 17; refine (cL2.out _).mono ?_; rintro e w8 ⟨rfl, rfl⟩)
      | (go_at_call 14; refine (cU1.out _).mono ?_; rintro e w9 ⟨rfl, rfl⟩)
      | (go_at_call 15; refine (cU2.out _).mono ?_; rintro e w10 ⟨rfl, rfl⟩)
      | (go_at_call 12; refine (cT1.out _ ?_).mono ?_; exact (And.right (by assumption)); rintro e w11 ⟨rfl, ho11⟩)
      | (go_at_call 13; refine (cT2.out _ ?_).mono ?_; exact (And.right (by assumption)); rintro e w12 ⟨rfl, ho12⟩)
      | (go_at_call 18; refine (cN1.out _ ?_).mono ?_; exact (And.right (by assumption)); rintro e w13 ⟨rfl, ho13⟩)
      | (go_at_call 19; refine (cN2.out _ ?_).mono ?_; exact (And.right (by assumption)); rintro e w14 ⟨rfl, ho14⟩))
  have hfin : Below w6.heap.size w6 w14 := by
    have h : (Box3 w14 wx.heap.size (.int .i64 N) (.int .i64 C) (.int .i64 T) ∧ Box3 w14 w2.heap.size (.int .i64 n1) (.int .i64 n2) (.int .i64 n3) ∧ Box3 w14 w3.heap.size (.int .i64 n1) (.int .i64 n2) (.int .i64 n3) ∧ Box3 w14 w4.heap.size (.int .i64 m1) (.int .i64 m2) (.int .i64 m3) ∧ Box3 w14 w5.heap.size (.int .i64 m1) (.int .i64 m2) (.int .i64 m3)) ∧ Below w6.heap.size w6 w14 := by assumption
    exact h.2
  go_wp2_with fail
  go_ret
  exact ⟨rfl, hb6.trans (hfin.mono hb6.size)⟩

theorem drawAll_any (a b now by_ til : Int) (near : Bool) (w : World) (a1 : -9223372036854775808 ≤ a) (a2 : a ≤ 9223372036854775807) (c1 : -9223372036854775808 ≤ b) (c2 : b ≤ 9223372036854775807) (d1 : -9223372036854775808 ≤ now) (d2 : now ≤ 9223372036854775807) (b7 : -9223372036854775808 ≤ by_) (b8 : by_ ≤ 9223372036854775807) :
    Calls Try.prog 3 #[.int .i64 a, .int .i64 b, .int .i64 now, .int .i64 by_, .int .i64 til, .bool near] w fun e w' => e = .returned (.bool true) ∧ Below w.heap.size w w' := by
  cases near
  · exact drawAll_far a b now by_ til w a1 a2 c1 c2 d1 d2 b7 b8
  · exact drawAll_near a b now by_ til w a1 a2 c1 c2 d1 d2 b7 b8

end Go.Proofs.Ytnogkmhiedmhoaa
