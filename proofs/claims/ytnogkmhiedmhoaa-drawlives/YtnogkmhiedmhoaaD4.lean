import Derived.Test.YtnogkmhiedmhoaaD3
namespace Go.Proofs.Ytnogkmhiedmhoaa
open Go.RowKit
set_option linter.unusedVariables false
set_option linter.unusedSimpArgs false

theorem until_sum (a b c : Int) (w : World) (h1 : 0 ≤ a) (h2 : 0 ≤ b) (h3 : c = a + b) (h4 : c ≤ 1099511627776) :
    Calls Try.prog 14 #[.int .i64 a, .int .i64 b] w fun e w' => e = .returned (.int .i64 c) ∧ w' = w :=
  (until_any a b w h1 (by omega) (by omega) (by omega)).mono fun e w' ⟨h, hw⟩ => ⟨by rw [h, show untilI a b = c from by unfold untilI; omega], hw⟩

theorem until_neg (a b : Int) (w : World) (h1 : 0 ≤ a) (h2 : a ≤ 1099511627776) (h3 : b ≤ 0) (h4 : -9223372036854775808 ≤ b) :
    Calls Try.prog 14 #[.int .i64 a, .int .i64 b] w fun e w' => e = .returned (.int .i64 a) ∧ w' = w :=
  (until_any a b w h1 (by omega) (by omega) (by omega)).mono fun e w' ⟨h, hw⟩ => ⟨by rw [h, show untilI a b = a from by unfold untilI; omega], hw⟩

theorem until_top (b : Int) (w : World) (h2 : 0 ≤ b) (h3 : b ≤ 9223372036854775807) :
    Calls Try.prog 14 #[.int .i64 1099511627776, .int .i64 b] w fun e w' => e = .returned (.int .i64 1099511627776) ∧ w' = w :=
  (until_any 1099511627776 b w (by omega) (by omega) (by omega) (by omega)).mono fun e w' ⟨h, hw⟩ => ⟨by rw [h, show untilI 1099511627776 b = 1099511627776 from by unfold untilI; omega], hw⟩

theorem tick_sum (n m a b c : Int) (w : World) (h1 : 0 ≤ a) (h2 : 0 ≤ b) (h3 : c = a + b) (h4 : c ≤ 1099511627776) :
    Calls Try.prog 12 #[(.agg #[.int .i64 (n), .int .i64 (m), .int .i64 (a)]), .int .i64 b] w fun e w' => e = .returned (.agg #[.int .i64 (n), .int .i64 (m), .int .i64 (c)]) ∧ Below w.heap.size w w' :=
  (tick_any n m a b w h1 (by omega) (by omega) (by omega)).mono fun e w' ⟨h, hw⟩ => ⟨by rw [h, show untilI a b = c from by unfold untilI; omega], hw⟩

theorem tick_neg (n m a b : Int) (w : World) (h1 : 0 ≤ a) (h2 : a ≤ 1099511627776) (h3 : b ≤ 0) (h4 : -9223372036854775808 ≤ b) :
    Calls Try.prog 12 #[(.agg #[.int .i64 (n), .int .i64 (m), .int .i64 (a)]), .int .i64 b] w fun e w' => e = .returned (.agg #[.int .i64 (n), .int .i64 (m), .int .i64 (a)]) ∧ Below w.heap.size w w' :=
  (tick_any n m a b w h1 (by omega) (by omega) (by omega)).mono fun e w' ⟨h, hw⟩ => ⟨by rw [h, show untilI a b = a from by unfold untilI; omega], hw⟩

set_option maxRecDepth 20000 in
set_option maxHeartbeats 2000000 in
theorem drawLives_any (now life later : Int) (w : World) (n1 : -9223372036854775808 ≤ now) (n2 : now ≤ 9223372036854775807) (l1 : -9223372036854775808 ≤ life) (l2 : life ≤ 9223372036854775807) (t1 : -9223372036854775808 ≤ later) (t2 : later ≤ 9223372036854775807) :
    Calls Try.prog 5 #[.int .i64 now, .int .i64 life, .int .i64 later] w fun e w' => e = .returned (.bool true) ∧ Below w.heap.size w w' := by
  obtain ⟨a, ha, a1, a2⟩ : ∃ a, now % 1073741824 = a ∧ 0 ≤ a ∧ a < 1073741824 := ⟨_, rfl, by omega, by omega⟩
  obtain ⟨b, hb, b1, b2⟩ : ∃ b, life % 1048576 = b ∧ 0 ≤ b ∧ b < 1048576 := ⟨_, rfl, by omega, by omega⟩
  obtain ⟨c, hc, c1, c2⟩ : ∃ c, later % 1048576 = c ∧ 0 ≤ c ∧ c < 1048576 := ⟨_, rfl, by omega, by omega⟩
  have ca : Hid (∀ w : World, Calls Try.prog 7 #[.int .i64 now, .int .i64 1073741824] w fun e w' => e = .returned (.int .i64 a) ∧ w' = w) := fun w => by
    have h := within5_any now 1073741824 w (by omega) (by omega) n1 n2
    rwa [ha] at h
  have cb : Hid (∀ w : World, Calls Try.prog 7 #[.int .i64 life, .int .i64 1048576] w fun e w' => e = .returned (.int .i64 b) ∧ w' = w) := fun w => by
    have h := within5_any life 1048576 w (by omega) (by omega) l1 l2
    rwa [hb] at h
  have cc : Hid (∀ w : World, Calls Try.prog 7 #[.int .i64 later, .int .i64 1048576] w fun e w' => e = .returned (.int .i64 c) ∧ w' = w) := fun w => by
    have h := within5_any later 1048576 w (by omega) (by omega) t1 t2
    rwa [hc] at h
  clear ha hb hc
  go_enter Try.func5, Try.ntmps5
  go_wp2_with fail
  refine (known5_any _).mono ?_
  rintro e w1 ⟨rfl, ho1⟩
  go_wp2_with fail
  refine (ca.out _).mono ?_
  rintro e wx ⟨rfl, rfl⟩
  go_wp2_with fail
  refine (cb.out _).mono ?_
  rintro e wx ⟨rfl, rfl⟩
  go_wp2_with fail
  refine (cc.out _).mono ?_
  rintro e wx ⟨rfl, rfl⟩
  clear ca cb cc n1 n2 l1 l2 t1 t2
  go_wp2_with fail
  refine (until_sum a b (a + b) _ a1 b1 rfl (by omega)).mono ?_
  rintro e wx ⟨rfl, rfl⟩
  go_wp2_with fail
  refine (tick_sum 1 1 a c (a + c) _ a1 c1 rfl (by omega)).mono ?_
  rintro e w2 ⟨rfl, ho2⟩
  go_wp2_with fail
  refine (tick_sum 1 1 a c (a + c) _ a1 c1 rfl (by omega)).mono ?_
  rintro e w3 ⟨rfl, ho3⟩
  go_wp2_with fail
  refine (tick_sum 1 1 (a + c) b (a + b + c) _ (by omega) b1 (by omega) (by omega)).mono ?_
  rintro e w4 ⟨rfl, ho4⟩
  have hx3 : Box3 w3 w2.heap.size (.int .i64 1) (.int .i64 1) (.int .i64 (a + c)) := Box3.below ⟨by simp [World.setCell], by simp [go_sem], by simp [go_sem], by simp [go_sem]⟩ ho3
  have hx4 := hx3.below ho4
  have hb2 : Below w.heap.size w w2 := ho1.trans (ho2.mono ho1.size)
  have hs2 := hb2.size
  have hb3 : Below w.heap.size w w3 := Below.trans (hb2.alloc hs2 _) (ho3.mono (by simp; omega))
  have hb4 : Below w.heap.size w w4 := hb3.trans (ho4.mono hb3.size)
  clear hx3 hb3 ho1 ho2 ho3 ho4 hb2 hs2
  have hb5 : Below w.heap.size w (w4.alloc (.cells #[.int .i64 1, .int .i64 1, .int .i64 (a + b + c)] 25)) := hb4.alloc hb4.size _
  have E : ∀ W, Below (w4.alloc (.cells #[.int .i64 1, .int .i64 1, .int .i64 (a + b + c)] 25)).heap.size (w4.alloc (.cells #[.int .i64 1, .int .i64 1, .int .i64 (a + b + c)] 25)) W →
      Box3 W w2.heap.size (.int .i64 1) (.int .i64 1) (.int .i64 (a + c)) ∧ Box3 W w4.heap.size (.int .i64 1) (.int .i64 1) (.int .i64 (a + b + c)) := fun W hW =>
    ⟨hx4.below (Below.trans (Below.alloc (Below.refl _ _) (Nat.le_refl _) _) (hW.mono (by simp))), Box3.below ⟨by simp, by simp [go_sem], by simp [go_sem], by simp [go_sem]⟩ hW⟩
  clear hb4 hx4
  go_wp2_with fail
  generalize w4.alloc (.cells #[.int .i64 1, .int .i64 1, .int .i64 (a + b + c)] 25) = w5 at *
  have HE : Hid (∀ W, Below w5.heap.size w5 W → Box3 W w2.heap.size (.int .i64 1) (.int .i64 1) (.int .i64 (a + c)) ∧ Box3 W w4.heap.size (.int .i64 1) (.int .i64 1) (.int .i64 (a + b + c))) := E
  clear E
  have hlv : Hid (decide (a + c < a + b) = decide (c < b)) := show decide (a + c < a + b) = decide (c < b) from by simp
  have e1 : IntKind.i64.wrap (a + b) = a + b := wrap_in _ (by omega) (by omega)
  have e2 : IntKind.i64.wrap (a + b + c) = a + b + c := wrap_in _ (by omega) (by omega)
  have e3 : IntKind.i64.wrap (-1 - b) = -1 - b := wrap_in _ (by omega) (by omega)
  have e4 : IntKind.i64.wrap (0 - b) = 0 - b := wrap_in _ (by omega) (by omega)
  have e5 : IntKind.i64.wrap (-b) = -b := wrap_in _ (by omega) (by omega)
  go_region_held3 (fun W => Box3 W w2.heap.size (.int .i64 1) (.int .i64 1) (.int .i64 (a + c)) ∧ Box3 W w4.heap.size (.int .i64 1) (.int .i64 1) (.int .i64 (a + b + c)) ∧ Below w5.heap.size w5 W)
    (first | exact ⟨(HE.out _ (Below.drew (Below.refl _ _))).1, (HE.out _ (Below.drew (Below.refl _ _))).2, Below.drew (Below.refl _ _)⟩ | assumption | exact ⟨(HE.out _ (by assumption)).1, (HE.out _ (by assumption)).2, by assumption⟩)
    (first
      | (go_at_call_of 16 (Value.int IntKind.i64 (a + c)); refine (live_any (a + c) (a + b) _).mono ?_; rw [hlv.out]; rintro e w6 ⟨rfl, rfl⟩)
      | (go_at_call 16; refine (live_any 1099511627776 1099511627776 _).mono ?_; rintro e w7 ⟨rfl, rfl⟩)
      | (go_at_call_of 14 (Value.int IntKind.i64 1099511627776); refine (until_top b _ b1 (by omega)).mono ?_; rintro e w8 ⟨rfl, rfl⟩)
      | (go_at_call 14; refine (until_neg a _ _ a1 (by omega) (by omega) (by omega)).mono ?_; rintro e w9 ⟨rfl, rfl⟩)
      | (go_at_call_of 12 (Value.int IntKind.i64 b); refine (tick_sum 1 1 a b (a + b) _ a1 b1 rfl (by omega)).mono ?_; rintro e w10 ⟨rfl, ho10⟩; have ho10 := Below.trans (And.right (And.right (by assumption))) (ho10.mono (Below.size (And.right (And.right (by assumption))))))
      | (go_at_call_of 12 (Value.int IntKind.i64 c); refine (tick_sum 1 1 (a + b) c (a + b + c) _ (by omega) c1 rfl (by omega)).mono ?_; rintro e w11 ⟨rfl, ho11⟩; have ho11 := Below.trans (And.right (And.right (by assumption))) (ho11.mono (Below.size (And.right (And.right (by assumption))))))
      | (go_at_call 12; refine (tick_neg 1 1 (a + c) _ _ (by omega) (by omega) (by omega) (by omega)).mono ?_; rintro e w12 ⟨rfl, ho12⟩; have ho12 := Below.trans (And.right (And.right (by assumption))) (ho12.mono (Below.size (And.right (And.right (by assumption)))))))
  have hfin : Below w5.heap.size w5 w7 := by
    have h : Box3 w7 w2.heap.size (.int .i64 1) (.int .i64 1) (.int .i64 (a + c)) ∧ Box3 w7 w4.heap.size (.int .i64 1) (.int .i64 1) (.int .i64 (a + b + c)) ∧ Below w5.heap.size w5 w7 := by assumption
    exact h.2.2
  go_wp2_with fail
  go_ret
  exact ⟨rfl, hb5.trans (hfin.mono hb5.size)⟩

end Go.Proofs.Ytnogkmhiedmhoaa
