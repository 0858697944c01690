import Derived.Test.YtgmmbfnmojjbkaaGreatDoorMV
import Derived.Test.YtgmmbfnmojjbkaaGreatDoorW4f
namespace Go.Proofs.YtgmmbfnmojjbkaaGreatDoor
open Go.RowKit
set_option linter.unusedVariables false
set_option linter.unusedSimpArgs false

set_option maxRecDepth 100000 in
set_option maxHeartbeats 4000000 in
theorem markAll_any (w : World) (a : Nd) (l : Fo) (v : Value) (ns : List Int) (LA : Option Addr) (cap' : Nat) (s : ByteArray) (n : Int) (hv : RepV w w.heap.size a l v) (hns : NumsAt w w.heap.size ns LA) (hnf : NumsFit ns) (hn1 : -9223372036854775808 ≤ n) (hn2 : n ≤ 9223372036854775807) :
    Calls Tryz.prog 3 #[v, .slice LA ns.length cap', .string s, .int .i64 n] w fun e w' => e = .returned (.bool true) ∧ Below w.heap.size w w' := by
  have hv0 := hv
  obtain ⟨hf, A, cap, b, o, rfl, hn, hA, hr⟩ := hv
  have HV : Hid (∀ W, Below w.heap.size w W → RepV W W.heap.size a l (.agg #[.int .i64 a.kind, .int .i64 a.n, .string a.s, .slice A (flen l) cap])) := fun W hW => hv0.keep hW.size (fun b o hb' => hW.cell hb')
  clear hv0 hf hn hA hr
  go_enter Tryz.func3, Tryz.ntmps3
  go_wp2_with fail
  refine (known9_any _).mono ?_
  rintro e w1 ⟨rfl, ho1⟩
  have hx1 : Box4 w1 w.heap.size (.int .i64 a.kind) (.int .i64 a.n) (.string a.s) (.slice A (flen l) cap) := (Box4.new w _ _ _ _ _).below ho1
  have hb1 : Below w.heap.size w w1 := Below.trans (by repeat (first | exact Below.refl _ _ | assumption | refine below_drewN ?_ _ | refine Below.drew ?_ | refine Below.alloc ?_ (by simp <;> omega) _ | refine Below.setCell ?_ (by simp <;> omega) _)) (ho1.mono (by simp))
  have HX1 : Hid (Box4 w1 w.heap.size (.int .i64 a.kind) (.int .i64 a.n) (.string a.s) (.slice A (flen l) cap)) := hx1
  obtain ⟨x0, x1, x2, x3, x4⟩ := hx1
  clear ho1
  go_wp2_with fail
  refine (few_any a l _ w1.heap.size 3000 w1 (HV.out w1 hb1) (Nat.le_refl _) (by omega) (by omega)).mono ?_
  rintro e w2 ⟨rfl, ho2⟩
  have hb2 : Below w.heap.size w w2 := below_tr8 hb1 ho2
  have HX2 : Hid (Box4 w2 w.heap.size (.int .i64 a.kind) (.int .i64 a.n) (.string a.s) (.slice A (flen l) cap)) := HX1.out.below ho2
  generalize fewT a l 3000 = few at *
  clear x0 x1 x2 x3 x4 hb1 ho2 HX1
  by_cases hfew : few < 0
  · go_wp2_with fail
    go_ret
    exact ⟨rfl, hb2⟩
  by_cases h300 : 300 < s.size
  · have h300' : (s.size : Int) > 300 := by omega
    go_wp2_with fail
    go_ret
    exact ⟨rfl, hb2⟩
  have h300' : ¬ (s.size : Int) > 300 := by omega
  have hn3 := nums_below9 hns hb2 (Nat.le_refl _)
  go_wp2_with fail
  refine (texts_any ns LA cap' w.heap.size 3 3 rfl (by decide) w2 hb2.size hn3 hnf).mono ?_
  rintro e w3 ⟨s1, rfl, hz1, hb3'⟩
  have hb3 := below_tr8 hb2 hb3'
  have HX3 : Hid (Box4 w3 w.heap.size (.int .i64 a.kind) (.int .i64 a.n) (.string a.s) (.slice A (flen l) cap)) := HX2.out.below hb3'
  have hn4 := nums_below9 hn3 hb3' hb2.size
  clear hb3' HX2
  have hmay := one_may ns
  have hlen := tape_len ns 4 0
  have HONE : Hid (∀ W, Below w.heap.size w W → Calls Tryz.prog 11 #[.slice LA ns.length cap'] W fun e w' => ∃ v, e = .returned v ∧ Below W.heap.size W w' ∧ RepVG w' (fun b => W.heap.size ≤ b ∧ b < w'.heap.size) (tapeT ns 4 0).1.1 (tapeT ns 4 0).1.2 v) := fun W hW =>
    one_any ns LA cap' w.heap.size W hW.size (nums_below9 hns hW (Nat.le_refl _)) hnf
  generalize tapeT ns 4 0 = T at *
  obtain ⟨⟨a1, l1⟩, k3⟩ := T
  simp only at hmay hlen HONE
  go_wp2_with fail
  refine (HONE.out w3 hb3).mono ?_
  rintro e w4 ⟨v4, rfl, hb4', hrv4⟩
  have hb4 := below_tr8 hb3 hb4'
  have HX4 : Hid (Box4 w4 w.heap.size (.int .i64 a.kind) (.int .i64 a.n) (.string a.s) (.slice A (flen l) cap)) := HX3.out.below hb4'
  have hv4 : RepV w4 w4.heap.size a1 l1 v4 := RepVG.toV (fun _ h => h.2) hrv4
  have ht4 := rtext_any a1 l1 v4 w4 hv4
  obtain ⟨_, A4, cap4, b4, o4, rfl, _, _, _⟩ := hrv4
  have hs2 := markS_size a1 l1 372 (by simpa using hlen)
  clear hb4' HX3 hv4
  obtain ⟨s2, hs2e⟩ : ∃ x, x = markS a1 l1 := ⟨_, rfl⟩
  rw [← hs2e] at hs2 ht4
  have HS2 : Hid (s2 = markS a1 l1) := hs2e
  clear hs2e
  go_wp2_with fail
  refine ht4.mono ?_
  rintro e w5 ⟨rfl, hb5'⟩
  have hb5 := below_tr8 hb4 hb5'
  have HX5 : Hid (Box4 w5 w.heap.size (.int .i64 a.kind) (.int .i64 a.n) (.string a.s) (.slice A (flen l) cap)) := HX4.out.below hb5'
  have hk5 := rKey_any n w5 hn1 hn2
  have hs3 := markS_size ⟨2, n, ⟨#[]⟩⟩ .nil 12 (leafN_len n)
  obtain ⟨s3, hs3e⟩ : ∃ x, x = markS ⟨2, n, ⟨#[]⟩⟩ .nil := ⟨_, rfl⟩
  rw [← hs3e] at hs3 hk5
  have HS3 : Hid (s3 = markS ⟨2, n, ⟨#[]⟩⟩ .nil) := hs3e
  clear hs3e hb5' ht4 HX4
  go_wp2_with fail
  refine hk5.mono ?_
  rintro e w6 ⟨rfl, hb6'⟩
  have hb6 := below_tr8 hb5 hb6'
  have HX6 : Hid (Box4 w6 w.heap.size (.int .i64 a.kind) (.int .i64 a.n) (.string a.s) (.slice A (flen l) cap)) := HX5.out.below hb6'
  have q1 : ¬ 9223372036854775807 < 1 + s.size := by omega
  have q2 : ¬ 9223372036854775807 < 1 + s.size + 1 := by omega
  obtain ⟨s4, hs4⟩ : ∃ x : ByteArray, x = ⟨#[126]⟩ ++ s ++ ⟨#[126]⟩ := ⟨_, rfl⟩
  have hs4z : s4.size ≤ 302 := by rw [hs4, ByteArray.size_append, ByteArray.size_append]; show 1 + s.size + 1 ≤ _; omega
  obtain ⟨w7, hw7⟩ : ∃ W : World, W = w6.alloc (.cells #[.string s, .string s1, .string s2, .string s3, .string (⟨#[126]⟩ ++ s ++ ⟨#[126]⟩)] 9) := ⟨_, rfl⟩
  have hsz7 : w6.heap.size < w7.heap.size := by rw [hw7]; simp
  have hb67 : Below w6.heap.size w6 w7 := by rw [hw7]; exact Below.alloc (Below.refl _ _) (Nat.le_refl _) _
  have HC : Hid (∀ i, i < 5 → ∃ x : ByteArray, w7.cell? ⟨w6.heap.size, i, none⟩ = some (.string x) ∧ x.size ≤ 100000) := fun i hi => by
    rcases (show i = 0 ∨ i = 1 ∨ i = 2 ∨ i = 3 ∨ i = 4 by omega) with rfl | rfl | rfl | rfl | rfl
    · exact ⟨s, by rw [hw7]; simp [go_sem], by omega⟩
    · exact ⟨s1, by rw [hw7]; simp [go_sem], by omega⟩
    · exact ⟨s2, by rw [hw7]; simp [go_sem], by omega⟩
    · exact ⟨s3, by rw [hw7]; simp [go_sem], by omega⟩
    · exact ⟨s4, by rw [hw7, hs4]; simp [go_sem], by omega⟩
  have HX7 : Hid (Box4 w7 w.heap.size (.int .i64 a.kind) (.int .i64 a.n) (.string a.s) (.slice A (flen l) cap)) := HX6.out.below hb67
  have HB7 : Hid (Below w.heap.size w w7) := below_tr8 hb6 hb67
  have hw7s : w.heap.size < w7.heap.size := HX7.out.1
  clear hb2 hb3 hb4 hb5 hb6 hb6' hn3 hn4 hb67 HX5 HX6 hk5 hs4 hs4z
  go_wp2_with fail
  rw [← hw7]
  clear hw7 q1 q2
  go_loopw [10] (fun iv wr => ∃ i : Nat, iv = .int .i64 (i : Int) ∧ i ≤ 5 ∧ Below w7.heap.size w7 wr) (fun iv _ => 5 - (intOf iv).toNat)
  case atStart => exact ⟨0, rfl, by omega, Below.refl _ _⟩
  case round =>
    obtain ⟨i, rfl, hi5, hb⟩ := hrel
    have hsz := hb.size
    have HB : Hid (Below w7.heap.size w7 wr) := hb
    by_cases hlt : i < 5
    · have hlt' : (i : Int) < 5 := by omega
      obtain ⟨x, hc, hxs⟩ := HC.out i hlt
      have hcw : wr.cell? ⟨w6.heap.size, i, none⟩ = some (.string x) := by rw [hb.cell (by simpa using hsz7)]; exact hc
      have HCX : Hid (∀ W, Below wr.heap.size wr W → W.cell? ⟨w6.heap.size, i, none⟩ = some (.string x)) := fun W hW => by rw [hW.cell (by simp; omega)]; exact hcw
      have k1 := fun W => mRead_any x W hxs
      have k2 := fun W => rRead_any x W hxs
      have k3 := fun W => mNumber_any x W hxs
      have k4 := fun W => rNumber_any x W hxs
      generalize hnn : numR (rdL x.data.toList) = nn at k3 k4
      clear hnn hc hb
      go_wp2_with fail
      refine (k1 _).mono ?_
      intro e w8 h8
      obtain ⟨p0, p1, p2, p3, p4, p5, rfl, hb8, hv8⟩ := h8.any
      have hc8 := HCX.out w8 hb8
      have ha8 : ∀ T : Obj, (w8.alloc T).cell? ⟨w6.heap.size, i, none⟩ = some (.string x) := fun T => by rw [World.cell?_alloc_past _ _ _ (by have := hb8.size; omega)]; exact hc8
      generalize hob : okB (rdL x.data.toList) = ob at *
      clear k1 h8 hcw
      go_wp2_with fail
      refine (k2 _).mono ?_
      intro e w9 h9
      obtain ⟨r0, r1, r2, r3, r4, r5, rfl, hb9, hv9⟩ := h9.any
      have hb89 : Below w8.heap.size w8 w9 := (Below.alloc (Below.refl _ _) (Nat.le_refl _) _).trans (hb9.mono (by simp))
      have BX8 : Hid (Box4 w9 w8.heap.size (.int .i64 p0) (.int .i64 p1) (.string p2) (.slice p3 p4 p5)) := (Box4.new w8 _ _ _ _ _).below hb9
      have hbr9 : Below wr.heap.size wr w9 := below_tr8 hb8 hb89
      have hc9 := HCX.out w9 hbr9
      have ha9 : ∀ T : Obj, (w9.alloc T).cell? ⟨w6.heap.size, i, none⟩ = some (.string x) := fun T => by rw [World.cell?_alloc_past _ _ _ (by have := hbr9.size; omega)]; exact hc9
      have HV8 : Hid (TkV w9 (rdL x.data.toList) (.agg #[.int .i64 p0, .int .i64 p1, .string p2, .slice p3 p4 p5])) := hv8.below hb89
      have HV9 : Hid (TkV w9 (rdL x.data.toList) (.agg #[.int .i64 r0, .int .i64 r1, .string r2, .slice r3 r4 r5])) := hv9
      clear k2 h9 hb9 hb8 hv8 hv9 ha8 hc8 hb89
      go_wp2_with fail
      refine (k3 _).mono ?_
      rintro e w10 ⟨rfl, hb10⟩
      have hb9a : Below w9.heap.size w9 w10 := (Below.alloc (Below.refl _ _) (Nat.le_refl _) _).trans (hb10.mono (by simp))
      have BX9 : Hid (Box4 w10 w9.heap.size (.int .i64 r0) (.int .i64 r1) (.string r2) (.slice r3 r4 r5)) := (Box4.new w9 _ _ _ _ _).below hb10
      have hbr10 : Below wr.heap.size wr w10 := below_tr8 hbr9 hb9a
      have hc10 := HCX.out w10 hbr10
      clear k3 hb10 ha9 hc9
      go_wp2_with fail
      refine (k4 _).mono ?_
      rintro e w11 ⟨rfl, hb11⟩
      have hb9b : Below w9.heap.size w9 w11 := below_tr8 hb9a hb11
      have hbr11 : Below wr.heap.size wr w11 := below_tr8 hbr10 hb11
      obtain ⟨d0, d1, d2, d3, d4⟩ := BX8.out.below hb9b
      obtain ⟨f0, f1, f2, f3, f4⟩ := BX9.out.below hb11
      have hsm := sameV (HV8.out.below hb9b) (HV9.out.below hb9b)
      have HBF : Hid (Below w7.heap.size w7 w11) := below_tr8 HB.out hbr11
      clear k4 hb11 hb9a hb9b hbr9 hbr10 hbr11 hc10
      go_wp2_with fail
      refine hsm.mono ?_
      rintro e w12 ⟨rfl, hb12⟩
      have HBG : Hid (Below w7.heap.size w7 w12) := below_tr8 HBF.out hb12
      clear hsm hb12 d0 d1 d2 d3 d4 f0 f1 f2 f3 f4
      go_wp2_with fail
      go_roundw
      case rel => exact ⟨i + 1, by go_num, by omega, HBG.out⟩
      case measure => simp [intOf]; omega
    · have hlt' : ¬ (i : Int) < 5 := by omega
      have hbw : Below w.heap.size w wr := below_tr8 HB7.out HB.out
      have hx := HX7.out.below HB.out
      have hxl := hx.1
      have HS : Hid (∀ W, Below wr.heap.size wr W → ((W.cell? ⟨w.heap.size, 0, none⟩ = some (.int .i64 a.kind) ∧ W.cell? ⟨w.heap.size, 1, none⟩ = some (.int .i64 a.n) ∧ W.cell? ⟨w.heap.size, 2, none⟩ = some (.string a.s) ∧ W.cell? ⟨w.heap.size, 3, none⟩ = some (.slice A (flen l) cap)) ∧ Below wr.heap.size wr W)) := fun W hW => ⟨(hx.below hW).2, hW⟩
      obtain ⟨X, hX⟩ : ∃ X, X = markS a l := ⟨_, rfl⟩
      have P1 : Hid (∀ W, Below wr.heap.size wr W → Calls Tryz.prog 18 #[.agg #[.int .i64 a.kind, .int .i64 a.n, .string a.s, .slice A (flen l) cap]] W fun e w' => e = .returned (.string X) ∧ Below wr.heap.size wr w') := fun W hW => (mtext_any a l _ W (HV.out W (below_tr8 hbw hW))).mono fun e w' h => ⟨by rw [hX]; exact h.1, hW.trans (h.2.mono hW.size)⟩
      have P2 : Hid (∀ W, Below wr.heap.size wr W → Calls Tryz.prog 10 #[.agg #[.int .i64 a.kind, .int .i64 a.n, .string a.s, .slice A (flen l) cap]] W fun e w' => e = .returned (.string X) ∧ Below wr.heap.size wr w') := fun W hW => (rtext_any a l _ W (HV.out W (below_tr8 hbw hW))).mono fun e w' h => ⟨by rw [hX]; exact h.1, hW.trans (h.2.mono hW.size)⟩
      have P3 : Hid (∀ W, Below wr.heap.size wr W → Calls Tryz.prog 11 #[.slice LA ns.length cap'] W fun e w' => ∃ B c, e = .returned (.agg #[.int .i64 a1.kind, .int .i64 a1.n, .string a1.s, .slice B (flen l1) c]) ∧ Below wr.heap.size wr w' ∧ RepV w' w'.heap.size a1 l1 (.agg #[.int .i64 a1.kind, .int .i64 a1.n, .string a1.s, .slice B (flen l1) c])) := fun W hW => (HONE.out W (below_tr8 hbw hW)).mono fun e w' ⟨v, h1, h2, h3⟩ => by
        have h4 : RepV w' w'.heap.size a1 l1 v := RepVG.toV (fun _ h => h.2) h3
        obtain ⟨_, B, c, _, _, rfl, _, _, _⟩ := h3
        exact ⟨B, c, h1, hW.trans (h2.mono hW.size), h4⟩
      have P4 : Hid (∀ W B c, Below wr.heap.size wr W → RepV W W.heap.size a1 l1 (.agg #[.int .i64 a1.kind, .int .i64 a1.n, .string a1.s, .slice B (flen l1) c]) → Calls Tryz.prog 18 #[.agg #[.int .i64 a1.kind, .int .i64 a1.n, .string a1.s, .slice B (flen l1) c]] W fun e w' => e = .returned (.string s2) ∧ Below wr.heap.size wr w') := fun W B c hW hv => (mtext_any a1 l1 _ W hv).mono fun e w' h => ⟨by rw [HS2.out]; exact h.1, hW.trans (h.2.mono hW.size)⟩
      have P5 : Hid (∀ W B c, Below wr.heap.size wr W → RepV W W.heap.size a1 l1 (.agg #[.int .i64 a1.kind, .int .i64 a1.n, .string a1.s, .slice B (flen l1) c]) → Calls Tryz.prog 10 #[.agg #[.int .i64 a1.kind, .int .i64 a1.n, .string a1.s, .slice B (flen l1) c]] W fun e w' => e = .returned (.string s2) ∧ Below wr.heap.size wr w') := fun W B c hW hv => (rtext_any a1 l1 _ W hv).mono fun e w' h => ⟨by rw [HS2.out]; exact h.1, hW.trans (h.2.mono hW.size)⟩
      have P6 : Hid (∀ W, Below wr.heap.size wr W → Calls Tryz.prog 19 #[.int .i64 n] W fun e w' => e = .returned (.string s3) ∧ Below wr.heap.size wr w') := fun W hW => (mKey_any n W hn1 hn2).mono fun e w' h => ⟨by rw [HS3.out]; exact h.1, hW.trans (h.2.mono hW.size)⟩
      have P7 : Hid (∀ W, Below wr.heap.size wr W → Calls Tryz.prog 12 #[.int .i64 n] W fun e w' => e = .returned (.string s3) ∧ Below wr.heap.size wr w') := fun W hW => (rKey_any n W hn1 hn2).mono fun e w' h => ⟨by rw [HS3.out]; exact h.1, hW.trans (h.2.mono hW.size)⟩
      have hb0 : Below wr.heap.size wr wr.drew := (Below.refl _ _).drew
      have e1 : (X.toList == X.toList) = true := beq_self_eq_true _
      have e2 : (s2.toList == s2.toList) = true := beq_self_eq_true _
      have e3 : (s3.toList == s3.toList) = true := beq_self_eq_true _
      clear hX hx hb HC
      go_wp2_with fail
      go_region_held3 (fun W => (W.cell? ⟨w.heap.size, 0, none⟩ = some (.int .i64 a.kind) ∧ W.cell? ⟨w.heap.size, 1, none⟩ = some (.int .i64 a.n) ∧ W.cell? ⟨w.heap.size, 2, none⟩ = some (.string a.s) ∧ W.cell? ⟨w.heap.size, 3, none⟩ = some (.slice A (flen l) cap)) ∧ Below wr.heap.size wr W)
        (with_reducible (first | exact HS.out _ (Below.refl _ _) | exact HS.out _ hb0 | exact HS.out _ b1 | exact HS.out _ b2 | exact HS.out _ b3 | exact HS.out _ b4 | exact HS.out _ b5 | exact HS.out _ b6 | exact HS.out _ b7 | exact HS.out _ b8 | assumption))
        (first
          | (go_at_call 12; refine (P7.out _ b7).mono ?_; rintro e u8 ⟨rfl, b8⟩)
          | (go_at_call 19; refine (P6.out _ b6).mono ?_; rintro e u7 ⟨rfl, b7⟩)
          | (go_at_call 10; refine (P5.out _ _ _ b5 v5).mono ?_; rintro e u6 ⟨rfl, b6⟩)
          | (go_at_call 11; refine (P3.out _ b4).mono ?_; rintro e u5 ⟨B5, c5, rfl, b5, v5⟩)
          | (go_at_call 18; refine (P4.out _ _ _ b3 v3).mono ?_; rintro e u4 ⟨rfl, b4⟩)
          | (go_at_call 11; refine (P3.out _ b2).mono ?_; rintro e u3 ⟨B3, c3, rfl, b3, v3⟩)
          | (go_at_call 10; refine (P2.out _ b1).mono ?_; rintro e u2 ⟨rfl, b2⟩)
          | (go_at_call 18; refine (P1.out _ hb0).mono ?_; rintro e u1 ⟨rfl, b1⟩))
      all_goals go_wp2_with fail
      all_goals go_ret
      all_goals exact ⟨ret_bool (by simp), below_tr8 hbw b8⟩

end Go.Proofs.YtgmmbfnmojjbkaaGreatDoor
