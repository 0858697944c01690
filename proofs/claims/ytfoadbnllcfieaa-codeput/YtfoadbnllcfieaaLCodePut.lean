import Derived.Test.YtfoadbnllcfieaaC12
import Derived.Test.YtfoadbnllcfieaaLCodeApart
namespace Go.Proofs.Ytfoadbnllcfieaa
open Go.RowKit
set_option linter.unusedVariables false
set_option linter.unusedSimpArgs false

set_option maxRecDepth 100000 in
set_option maxHeartbeats 8000000 in
theorem codePut_law (w : World) (a : Nd) (l : Fo) (v : Value) (ns : List Int) (LA : Option Addr) (ca : Nat) (hv : RepV w w.heap.size a l v) (hns : NumsAt w w.heap.size ns LA) (hnf : NumsFit ns) :
    Calls Try.prog 4 #[v, .slice LA ns.length ca] w fun e w' => e = .returned (.bool true) ∧ Below w.heap.size w w' := by
  obtain ⟨hf, A, cap, b, o, rfl, hn, hA, hr⟩ := hv
  have HA : Hid (flen l = 0 ∨ A = some ⟨b, o, none⟩) := hA
  clear hA
  go_enter Try.func4, Try.ntmps4
  go_wp2_with fail
  refine (known2_any _).mono ?_
  rintro e w1 ⟨rfl, ho1⟩
  have hx1 : Box4 w1 w.heap.size (.int .i64 a.kind) (.int .i64 a.n) (.string a.s) (.slice A (flen l) cap) := (Box4.new w _ _ _ _ _).below ho1
  have hb1 : Below w.heap.size w w1 := Below.trans (Below.alloc (Below.refl _ _) (Nat.le_refl _) _) (ho1.mono (by simp))
  have hx1' := hx1
  obtain ⟨x0, x1, x2, x3, x4⟩ := hx1
  go_wp2_with fail
  refine (few_any a l _ w.heap.size 6000 w1 ⟨hf, A, cap, b, o, rfl, hn, HA.out, hr.below hb1⟩ hb1.size (by omega) (by omega)).mono ?_
  rintro e w2 ⟨rfl, ho2⟩
  have hx2 := hx1'.below ho2
  have hb2 : Below w.heap.size w w2 := hb1.trans (ho2.mono hb1.size)
  generalize fewT a l 6000 = few at *
  clear x0 x1 x2 x3 x4 hx1'
  by_cases hfew : few < 0
  · go_wp2_with fail
    go_ret
    exact ⟨rfl, hb2⟩
  · have E1 : Hid (∀ w', Below w2.heap.size w2 w' → Box4 w' w.heap.size (.int .i64 a.kind) (.int .i64 a.n) (.string a.s) (.slice A (flen l) cap)) := fun w' hb => hx2.below hb
    have R1 : Hid (∀ w', Below w2.heap.size w2 w' → RepV w' w'.heap.size a l (.agg #[.int .i64 a.kind, .int .i64 a.n, .string a.s, .slice A (flen l) cap])) := fun w' hb => by
      have hbw : Below w.heap.size w w' := hb2.trans (hb.mono hb2.size)
      exact ⟨hf, A, cap, b, o, rfl, hn, HA.out, RepF.keep hbw.size (fun q j hq => hbw.cell hq) hr⟩
    obtain ⟨sx, hsx⟩ : ∃ sx : ByteArray, sx = ⟨(putB a l).toArray⟩ := ⟨_, rfl⟩
    have P1 : Hid (∀ w', Below w2.heap.size w2 w' → Calls Try.prog 18 #[.agg #[.int .i64 a.kind, .int .i64 a.n, .string a.s, .slice A (flen l) cap]] w' fun e w'' => ∃ u, e = .returned u ∧ Below w'.heap.size w' w'' ∧ Below w2.heap.size w2 w'' ∧ Lasts w'' u (putB a l)) := fun w' hb => (codePut_any a l _ w' (R1.out w' hb)).mono (fun e w'' h => by
      obtain ⟨u, h1, h2, h3⟩ := h
      exact ⟨u, h1, h3, hb.trans (h3.mono hb.size), h2.lasts⟩)
    have P2 : Hid (∀ w', Below w2.heap.size w2 w' → Calls Try.prog 19 #[.agg #[.int .i64 a.kind, .int .i64 a.n, .string a.s, .slice A (flen l) cap]] w' fun e w'' => ∃ u, e = .returned u ∧ Below w'.heap.size w' w'' ∧ Below w2.heap.size w2 w'' ∧ Lasts w'' u (putB a l)) := fun w' hb => (refPut_any a l _ w' (R1.out w' hb)).mono (fun e w'' h => by
      obtain ⟨u, h1, h2, h3⟩ := h
      exact ⟨u, h1, h3, hb.trans (h3.mono hb.size), h2.lasts⟩)
    have CV : Hid (∀ (w' : World) (u : Value), Lasts w' u (putB a l) → (convert 33 9 u).run Try.prog w' = .ok (.string sx) w') := fun w' u h => by rw [hsx]; exact h.conv
    obtain ⟨T, hT⟩ : ∃ T : (Nd × Fo) × Nat, T = tapeT ns 4 0 := ⟨_, rfl⟩
    have P3 : Hid (∀ w', Below w2.heap.size w2 w' → Calls Try.prog 20 #[.slice LA ns.length ca] w' fun e w'' => ∃ A1 cap1 b1 o1, e = .returned (.agg #[.int .i64 T.1.1.kind, .int .i64 T.1.1.n, .string T.1.1.s, .slice A1 (flen T.1.2) cap1]) ∧ Below w'.heap.size w' w'' ∧ Below w2.heap.size w2 w'' ∧ T.1.1.Fit ∧ flen T.1.2 ≤ 9223372036854775807 ∧ (flen T.1.2 = 0 ∨ A1 = some ⟨b1, o1, none⟩) ∧ RepF w'' w''.heap.size T.1.2 b1 o1) := fun w' hb => by
      have hbw : Below w.heap.size w w' := hb2.trans (hb.mono hb2.size)
      refine (one_any ns LA ca w.heap.size w' hbw.size (hns.below2 hbw) hnf).mono (fun e w'' h => ?_)
      obtain ⟨v, h1, h2, h3⟩ := h
      rw [← hT] at h3
      obtain ⟨q1, A1, cap1, b1, o1, rfl, q2, q3, q4⟩ := h3
      exact ⟨A1, cap1, b1, o1, h1, h2, hb.trans (h2.mono hb.size), q1, q2, q3, RepG.toF (fun _ h => h.2) q4⟩
    obtain ⟨sy, hsy⟩ : ∃ sy : ByteArray, sy = ⟨(putB T.1.1 T.1.2).toArray⟩ := ⟨_, rfl⟩
    have CW : Hid (∀ (w' : World) (u : Value), Lasts w' u (putB T.1.1 T.1.2) → (convert 33 9 u).run Try.prog w' = .ok (.string sy) w') := fun w' u h => by rw [hsy]; exact h.conv
    obtain ⟨c, hc⟩ : ∃ c : Nd, c = T.1.1 := ⟨_, rfl⟩
    obtain ⟨m, hm⟩ : ∃ m : Fo, m = T.1.2 := ⟨_, rfl⟩
    rw [← hc, ← hm] at P3 CW
    clear hsx hsy hT hc hm R1
    have P4 : Hid (∀ w' A1 cap1 b1 o1, Below w2.heap.size w2 w' → c.Fit → flen m ≤ 9223372036854775807 → (flen m = 0 ∨ A1 = some ⟨b1, o1, none⟩) → RepF w' w'.heap.size m b1 o1 → Calls Try.prog 18 #[.agg #[.int .i64 c.kind, .int .i64 c.n, .string c.s, .slice A1 (flen m) cap1]] w' fun e w'' => ∃ u, e = .returned u ∧ Below w'.heap.size w' w'' ∧ Below w2.heap.size w2 w'' ∧ Lasts w'' u (putB c m)) := fun w' A1 cap1 b1 o1 hb q1 q2 q3 q4 => (codePut_any c m _ w' ⟨q1, A1, cap1, b1, o1, rfl, q2, q3, q4⟩).mono (fun e w'' h => by
      obtain ⟨u, h1, h2, h3⟩ := h
      exact ⟨u, h1, h3, hb.trans (h3.mono hb.size), h2.lasts⟩)
    have P5 : Hid (∀ w' A1 cap1 b1 o1, Below w2.heap.size w2 w' → c.Fit → flen m ≤ 9223372036854775807 → (flen m = 0 ∨ A1 = some ⟨b1, o1, none⟩) → RepF w' w'.heap.size m b1 o1 → Calls Try.prog 19 #[.agg #[.int .i64 c.kind, .int .i64 c.n, .string c.s, .slice A1 (flen m) cap1]] w' fun e w'' => ∃ u, e = .returned u ∧ Below w'.heap.size w' w'' ∧ Below w2.heap.size w2 w'' ∧ Lasts w'' u (putB c m)) := fun w' A1 cap1 b1 o1 hb q1 q2 q3 q4 => (refPut_any c m _ w' ⟨q1, A1, cap1, b1, o1, rfl, q2, q3, q4⟩).mono (fun e w'' h => by
      obtain ⟨u, h1, h2, h3⟩ := h
      exact ⟨u, h1, h3, hb.trans (h3.mono hb.size), h2.lasts⟩)
    have hs0 : Hid (Below w2.heap.size w2 w2.drew) := Below.drew (Below.refl _ _)
    obtain ⟨x0, x1, x2, x3, x4⟩ := hx2
    go_wp2_with fail
    go_region_with (first
      | (go_at_call_of 18 (Value.slice A (flen l) cap); refine (P1.out _ hs0.out).mono ?_; rintro e w3 ⟨ua, rfl, ho3, hb3, La3⟩; obtain ⟨y0, y1, y2, y3, y4⟩ := E1.out _ hb3; have ca3 := CV.out _ _ La3)
      | (go_at_call_of 19 (Value.slice A (flen l) cap); refine (P2.out _ hb3).mono ?_; rintro e w4 ⟨ub, rfl, ho4, hb4, Lb4⟩; have ca4 := CV.out _ _ (La3.later ho4); have cb4 := CV.out _ _ Lb4)
      | (go_at_call 19; refine (P5.out _ _ _ _ _ hb7 q71 q72 q73 q74).mono ?_; rintro e w8 ⟨ud, rfl, ho8, hb8, Ld8⟩; have cc8 := CW.out _ _ ((Lc6.later ho7).later ho8); have cd8 := CW.out _ _ Ld8)
      | (go_at_call 20; refine (P3.out _ hb6).mono ?_; rintro e w7 ⟨A7, cap7, b7, o7, rfl, ho7, hb7, q71, q72, q73, q74⟩; have cc7 := CW.out _ _ (Lc6.later ho7))
      | (go_at_call 20; refine (P3.out _ hb4).mono ?_; rintro e w5 ⟨A5, cap5, b5, o5, rfl, ho5, hb5, q51, q52, q53, q54⟩)
      | (go_at_call 18; refine (P4.out _ _ _ _ _ hb5 q51 q52 q53 q54).mono ?_; rintro e w6 ⟨uc, rfl, ho6, hb6, Lc6⟩; have cc6 := CW.out _ _ Lc6))
    all_goals go_wp2_with fail
    all_goals go_ret
    all_goals exact ⟨ret_bool (by simp), hb2.trans (hb8.mono hb2.size)⟩

end Go.Proofs.Ytfoadbnllcfieaa
