import Derived.Test.YtffhbgakoibgnaaFA
namespace Go.Proofs.Ytffhbgakoibgnaa
open Go.RowKit
set_option linter.unusedVariables false
set_option linter.unusedSimpArgs false

set_option maxRecDepth 100000 in
set_option maxHeartbeats 2000000 in
theorem b64Back_any (A : Option Addr) (xs : List UInt8) (ca : Nat) (B : Option Addr) (ys : List UInt8) (cb : Nat) (w : World) (hx : ByAt w w.heap.size A xs) (hxc : xs.length ≤ ca) (hy : ByAt w w.heap.size B ys) (hyc : ys.length ≤ cb) :
    Calls Try.prog 4 #[.slice A xs.length ca, .slice B ys.length cb] w fun e w' => e = .returned (.bool true) ∧ Below w.heap.size w w' := by
  obtain ⟨i5, hi, hz0, hz1, hz2⟩ := info_has Try.infoByte
  go_enter Try.func4, Try.ntmps4
  go_wp2_with fail
  refine (known8_any w).mono ?_
  rintro e w1 ⟨rfl, h1⟩
  by_cases ha : xs.length ≤ 300
  · by_cases hb : ys.length ≤ 300
    · have ha' : ¬ (xs.length : Int) > 300 := by omega
      have hb' : ¬ (ys.length : Int) > 300 := by omega
      have hx1 := hx.up h1
      have hy1 := hy.up h1
      obtain ⟨n, hn⟩ : ∃ n, n = xs.length / 3 * 3 := ⟨_, rfl⟩
      have k1 := benc_is A xs ca w1 hx1 hxc (by omega) _ rfl (b64S xs) rfl
      have k2 := fun W => bdec_is (b64S xs) W (by rw [b64S_size]; omega) xs 0 _ (dL_enc xs) (dN_enc xs) rfl
      have hsz := b64S_size xs
      have hap : b64S (xs.take n ++ ys) = b64S (xs.take n) ++ b64S ys := b64S_app _ _ (by rw [List.length_take]; omega)
      have hnx : n ≤ xs.length := by omega
      have hq : (xs.length : Int) / 3 * 3 = (n : Int) := by omega
      have htl : (xs.take n).length = n := by rw [List.length_take]; omega
      obtain ⟨s, hs⟩ : ∃ s, s = b64S xs := ⟨_, rfl⟩
      rw [← hs] at k1 k2 hsz
      have hw1 : IntKind.i64.wrap ((xs.length : Int) * 8) = (xs.length : Int) * 8 := wrap_in _ (by omega) (by omega)
      have hw2 : IntKind.i64.wrap ((xs.length : Int) * 8 + 5) = (xs.length : Int) * 8 + 5 := wrap_in _ (by omega) (by omega)
      have hw3 : ((xs.length : Int) * 8 + 5) / 6 = (s.size : Int) := by omega
      have hw4 : ((xs.length : Int) * 8 + 5).tdiv 6 = (s.size : Int) := by rw [Int.tdiv_eq_ediv_of_nonneg (by omega)]; exact hw3
      have hw5 : IntKind.i64.wrap (s.size : Int) = (s.size : Int) := wrap_in _ (by omega) (by omega)
      clear hsz hn hs
      go_wp2_with fail
      refine k1.mono ?_
      rintro e w2 ⟨rfl, h2⟩
      clear k1
      go_wp2_with fail
      refine (k2 _).mono ?_
      rintro e w3 ⟨X, cx, rfl, hx3, hxc3, h3⟩
      have h3' := below_tr8 h2 h3
      have HXA : Hid (∀ W, Below w3.heap.size w3 W → ByAt W W.heap.size A xs) := fun W hW => (hx1.up h3').up hW
      have HYB : Hid (∀ W, Below w3.heap.size w3 W → ByAt W W.heap.size B ys) := fun W hW => (hy1.up h3').up hW
      have HXX : Hid (∀ W, Below w3.heap.size w3 W → ByAt W W.heap.size X xs) := fun W hW => hx3.up hW
      have hB3 := below_tr8 h1 h3'
      clear k2 h1 h2 h3 h3' hx hy hx1 hy1 hx3
      have HS : Hid (∀ W, Below w3.heap.size w3 W → ((convert 22 9 (.slice X xs.length cx)).run Try.prog W = .ok (.string ⟨xs.toArray⟩) W ∧ (convert 22 9 (.slice A xs.length ca)).run Try.prog W = .ok (.string ⟨xs.toArray⟩) W) ∧ Below w3.heap.size w3 W) := fun W hW => ⟨⟨conv_bytes W _ X xs cx (HXX.out W hW), conv_bytes W _ A xs ca (HXA.out W hW)⟩, hW⟩
      obtain ⟨sa, hsa⟩ : ∃ sa : ByteArray, sa = ⟨xs.toArray⟩ := ⟨_, rfl⟩
      rw [← hsa] at HS
      clear hsa
      have hsl := slice_to A xs.length ca n (by omega)
      have HK4 : Hid (∀ W, Below w3.heap.size w3 W → Calls Try.prog 10 #[.slice A n ca] W fun e w' => e = .returned (.string (b64S (xs.take n))) ∧ Below W.heap.size W w') := fun W hW => benc_is A (xs.take n) ca W ((HXA.out W hW).take n) (by omega) (by omega) n htl _ rfl
      have HK5 : Hid (∀ W, Below w3.heap.size w3 W → Calls Try.prog 10 #[.slice B ys.length cb] W fun e w' => e = .returned (.string (b64S ys)) ∧ Below W.heap.size W w') := fun W hW => benc_is B ys cb W (HYB.out W hW) hyc (by omega) _ rfl _ rfl
      have HK3 : Hid (∀ (A8 : Option Addr) (c8 : Nat) W, ByAt W W.heap.size A8 (xs.take n ++ ys) → n + ys.length ≤ c8 → Calls Try.prog 10 #[.slice A8 (n + ys.length) c8] W fun e w' => e = .returned (.string (b64S (xs.take n) ++ b64S ys)) ∧ Below W.heap.size W w') := fun A8 c8 W h1 h2 => benc_is A8 _ c8 W h1 (by rw [List.length_append, htl]; exact h2) (by rw [List.length_append, htl]; omega) _ (by rw [List.length_append, htl]) _ hap
      have HSRC : Hid (∀ W, Below w3.heap.size w3 W → SrcAt W 1 A n (Lib.byteCells (xs.take n))) := fun W hW => by
        have := ((HXA.out W hW).take n).row
        rw [htl] at this; exact this
      have HSRD : Hid (∀ W, Below w3.heap.size w3 W → SrcAt W 1 B ys.length (Lib.byteCells ys)) := fun W hW => (HYB.out W hW).row
      have HOWN : Hid (∀ v8 w8, w8.ownsRow w3.heap.size 5 1 v8 (0 + n + ys.length) ([] ++ Lib.byteCells (xs.take n) ++ Lib.byteCells ys) → ∃ A8 c8, v8 = .slice A8 (n + ys.length) c8 ∧ ByAt w8 w8.heap.size A8 (xs.take n ++ ys) ∧ n + ys.length ≤ c8) := fun v8 w8 h => by
        have e : (xs.take n ++ ys).length = n + ys.length := by rw [List.length_append, htl]
        have h' : OwnB w8 w3.heap.size v8 (xs.take n ++ ys) := by
          show w8.ownsRow _ _ _ _ _ _
          rw [List.nil_append, byteCells_append, Nat.zero_add, ← e] at h; exact h
        obtain ⟨A8, c8, e8, b8, l8, _⟩ := h'.byAt
        rw [e] at e8 l8
        exact ⟨A8, c8, e8, b8, l8⟩
      have o6 : (w3.alloc (.cells #[] 5)).drew.ownsRow w3.heap.size 5 1 (.slice (some ⟨w3.heap.size, 0, none⟩) 0 0) 0 [] := ⟨rfl, .inr ⟨w3.heap.size, 0, #[], rfl, Nat.le_refl _, heap_alloc_new w3 _, Nat.le_refl _, Nat.zero_le _, rfl, rfl⟩⟩
      have O6 : Hid ((w3.alloc (.cells #[] 5)).drew.ownsRow w3.heap.size 5 1 (.slice (some ⟨w3.heap.size, 0, none⟩) 0 0) 0 []) := o6
      have hb0 : Below w3.heap.size w3 w3.drew := (Below.refl _ _).drew
      have hb6 : Below w3.heap.size w3 (w3.alloc (.cells #[] 5)).drew := Below.drew (Below.alloc (Below.refl _ _) (Nat.le_refl _) _)
      clear o6 hap htl
      have z1 : (b64S (xs.take n)).size ≤ 1000 := by rw [b64S_size, List.length_take]; omega
      have z2 : (b64S ys).size ≤ 1000 := by rw [b64S_size]; omega
      generalize b64S (xs.take n) = s1 at *
      generalize b64S ys = s2 at *
      have z3 : s1.size + s2.size ≤ 9223372036854775807 := by omega
      have z4 : ¬ 9223372036854775807 < s1.size + s2.size := by omega
      clear z1 z2
      go_wp2_with fail
      go_region_held3 (fun W => ((convert 22 9 (.slice X xs.length cx)).run Try.prog W = .ok (.string sa) W ∧ (convert 22 9 (.slice A xs.length ca)).run Try.prog W = .ok (.string sa) W) ∧ Below w3.heap.size w3 W)
        (with_reducible (first | exact HS.out _ (Below.refl _ _) | exact HS.out _ hb0 | exact HS.out _ hb6 | exact HS.out _ hb7 | exact HS.out _ hb8 | exact HS.out _ hb9 | exact HS.out _ hb10 | exact HS.out _ hb11 | assumption))
        (first
          | (refine step_append_anyG _ (by rfl) _ _ 22 (by rfl) w3.heap.size 5 i5 (.int .u8 0) 1 1 Try.underlying22 hi hz0 hz1 hz2 rfl (by decide) (.slice (some ⟨w3.heap.size, 0, none⟩) 0 0) 0 [] (by rfl) O6.out A n ca (Lib.byteCells (xs.take n)) (by rfl) (HSRC.out _ hb6) (by unfold maxLen; omega) (by omega) (by simp) ?_; intro v7 w7 hown7 hgrow7 hat7; have hb7 : Below w3.heap.size w3 w7 := hb6.trans ((Grew.step (Grew.refl _ _) hgrow7 hat7).toBelow (fun q hq => (O6.out.lt q hq).1) (by simp)))
          | (refine step_append_anyG _ (by rfl) _ _ 22 (by rfl) w3.heap.size 5 i5 (.int .u8 0) 1 1 Try.underlying22 hi hz0 hz1 hz2 rfl (by decide) v7 (0 + n) ([] ++ Lib.byteCells (xs.take n)) (by rfl) hown7 B ys.length cb (Lib.byteCells ys) (by rfl) (HSRD.out _ hb7) (by unfold maxLen; omega) (by omega) hb7.size ?_; intro v8 w8 hown8 hgrow8 hat8; have hb8 : Below w3.heap.size w3 w8 := hb7.trans ((Grew.step (Grew.refl _ _) hgrow8 hat8).toBelow (fun q hq => (hown7.lt q hq).1) hb7.size); obtain ⟨A8, c8, e8, hy8, hc8⟩ := HOWN.out v8 w8 hown8; clear hown8 hgrow8 hat8; subst e8)
          | (go_at_call_of 10 (Value.slice A8 (n + ys.length) c8); refine (HK3.out A8 c8 w8 hy8 hc8).mono ?_; rintro e w9 ⟨rfl, hb9'⟩; have hb9 := hb8.trans (hb9'.mono hb8.size))
          | (go_at_call_of 10 (Value.slice A n ca); refine (HK4.out _ hb9).mono ?_; rintro e w10 ⟨rfl, hb10'⟩; have hb10 := hb9.trans (hb10'.mono hb9.size))
          | (go_at_call_of 10 (Value.slice B ys.length cb); refine (HK5.out _ hb10).mono ?_; rintro e w11 ⟨rfl, hb11'⟩; have hb11 := hb10.trans (hb11'.mono hb10.size)))
      go_wp2_with fail
      go_ret
      exact ⟨rfl, hB3.trans (hb11.mono hB3.size)⟩
    · have hb' : (ys.length : Int) > 300 := by omega
      go_wp2_with fail
      go_ret
      exact ⟨rfl, h1⟩
  · have ha' : (xs.length : Int) > 300 := by omega
    go_wp2_with fail
    go_ret
    exact ⟨rfl, h1⟩

end Go.Proofs.Ytffhbgakoibgnaa
