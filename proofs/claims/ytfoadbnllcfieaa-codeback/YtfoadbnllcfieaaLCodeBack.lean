import Derived.Test.YtfoadbnllcfieaaC11
namespace Go.Proofs.Ytfoadbnllcfieaa
open Go.RowKit
set_option linter.unusedVariables false
set_option linter.unusedSimpArgs false

theorem arF_norm : ∀ f : Fo, ArF f → ArF (norm f)
  | .nil, _ => trivial
  | .node _ _ a l r, ⟨h1, h2, h3⟩ => ⟨by rw [flen_norm]; exact h1, arF_norm l h2, arF_norm r h3⟩

set_option maxRecDepth 100000 in
set_option maxHeartbeats 4000000 in
theorem codeBack_any (w : World) (ns : List Int) (LA : Option Addr) (ca : Nat) (hns : NumsAt w w.heap.size ns LA) (hnf : NumsFit ns) (A : Option Addr) (cap : Nat) (ys : List UInt8) (hy : ByAt w w.heap.size A ys) (hl : ys.length ≤ cap) (hc : cap ≤ maxLen) (cut : Int) (hc1 : -9223372036854775808 ≤ cut) (hc2 : cut ≤ 9223372036854775807) :
    Calls Try.prog 6 #[.slice LA ns.length ca, .slice A ys.length cap, .int .i64 cut] w fun e w' => e = .returned (.bool true) ∧ Below w.heap.size w w' := by
  have hm : ys.length ≤ 9223372036854775807 := by unfold maxLen at hc; omega
  have hSY : Hid (Stays w A cap ys) := ⟨hy, hl, hc⟩
  obtain ⟨i5, hi, hz0, hz1, hz2⟩ := info_has Try.infoByte
  go_enter Try.func6, Try.ntmps6
  go_wp2_with fail
  refine (known2_any _).mono ?_
  rintro e w1 ⟨rfl, ho1⟩
  by_cases h100 : 100 < ys.length
  · go_wp2_with fail
    go_ret
    exact ⟨rfl, ho1⟩
  go_wp2_with fail
  refine (one_any ns LA ca w.heap.size w1 ho1.size (hns.below3 ho1) hnf).mono ?_
  rintro e w2 ⟨va, rfl, ho2, hra⟩
  have hb2 : Below w.heap.size w w2 := ho1.trans (ho2.mono ho1.size)
  have hma := one_may ns
  generalize hT0 : tapeT ns 4 0 = T at *
  clear hT0
  obtain ⟨⟨a, l⟩, k3⟩ := T
  simp only at hra hma
  obtain ⟨hfa, A1, cap1, b1, o1, rfl, hn1, hA1, hl1⟩ := hra
  have HA1 : Hid (flen l = 0 ∨ A1 = some ⟨b1, o1, none⟩) := hA1
  have HMA : Hid (may a l = true) := hma
  clear hA1 hma
  obtain ⟨W, hW⟩ : ∃ W : World, W = w2.alloc (.cells #[.int .i64 a.kind, .int .i64 a.n, .string a.s, .slice A1 (flen l) cap1] 30) := ⟨_, rfl⟩
  have hWs : W.heap.size = w2.heap.size + 1 := by rw [hW]; simp
  have hbW : Below w.heap.size w W := by rw [hW]; exact hb2.alloc hb2.size _
  have hws2 : w2.heap.size < W.heap.size := by omega
  have E1 : Hid (∀ w', Below W.heap.size W w' → Box4 w' w2.heap.size (.int .i64 a.kind) (.int .i64 a.n) (.string a.s) (.slice A1 (flen l) cap1)) := fun w' hb => Box4.below (w := W) (by rw [hW]; exact Box4.new w2 _ _ _ _ _) hb
  have R1 : Hid (∀ w', Below W.heap.size W w' → RepV w' w2.heap.size a l (.agg #[.int .i64 a.kind, .int .i64 a.n, .string a.s, .slice A1 (flen l) cap1])) := fun w' hb =>
    ⟨hfa, A1, cap1, b1, o1, rfl, hn1, HA1.out, RepF.keep (B := w2.heap.size) (Nat.le_refl _) (fun q o h => by rw [hb.cell (by simp; omega), hW, World.cell?_alloc_past _ _ _ (by omega)]) (RepG.toF (fun _ h => h.2) hl1)⟩
  go_wp2_with fail
  rw [← hW]
  clear hW hWs
  refine (codePut_any a l _ W (RepV.keep (Nat.le_of_lt hws2) (fun _ _ _ => rfl) (R1.out W (Below.refl _ _)))).mono ?_
  rintro e w3 ⟨u, rfl, hown, ho3⟩
  rw [putB, if_pos HMA.out] at hown
  obtain ⟨Aa, ka, rfl, hst⟩ := hown.stays
  have hpa := put_pos a l
  have hga := (may_gd HMA.out).2.2
  have HTK : Hid (∀ zs, tk 16 0 (putT a l ++ zs) = .ok (a, norm l, (mayT a l 1 0).2.toNat, zs)) := fun zs => tk_all a l zs HMA.out
  have HCUT : Hid (∀ j, j < (putT a l).length → tk 16 0 ((putT a l).take j) = .error 1) := fun j hj => tk_cut a l j HMA.out hj
  clear hown
  generalize putT a l = x at *
  have HS : Hid (Stays w3 Aa ka x) := hst
  have hxk := hst.le
  have hkm := hst.max'
  unfold maxLen at hkm
  clear hst
  have hne : ((x.length : Int) == 0) = false := beq_eq_false_iff_ne.2 (by omega)
  go_wp2_with (at_builtin; refine wpList_append_any _ rfl _ _ 33 rfl w3.heap.size 5 i5 (.int .u8 0) 1 1 Try.underlying33 hi hz0 hz1 hz2 rfl (by decide) (.slice (some ⟨w3.heap.size, 0, none⟩) 0 0) 0 [] rfl ?own Aa x.length ka (Lib.byteCells x) rfl ?src ?c3 ?c4 ?c5 ?_)
  case own => exact ⟨rfl, .inr ⟨w3.heap.size, 0, #[], rfl, Nat.le_refl _, heap_alloc_new w3 _, Nat.le_refl _, Nat.zero_le _, rfl, rfl⟩⟩
  case src => exact ((HS.out).later (Below.alloc (Below.refl _ _) (Nat.le_refl _) _)).src
  case c3 => unfold maxLen; omega
  case c4 => omega
  case c5 => simp
  intro v6 w6 hown6 hgrow6 hat6
  have o6 : OwnB w6 w3.heap.size v6 x := by simpa [OwnB] using hown6
  have hb36 : Below w3.heap.size w3 w6 := Below.trans (Below.alloc (Below.refl _ _) (Nat.le_refl _) _) (grown_below hgrow6 (fun q e => by simp [Value.ownBlock] at e; omega) (by simp))
  have hbw3 : Below w.heap.size w w3 := hbW.trans (ho3.mono hbW.size)
  have hbw6 : Below w.heap.size w w6 := hbw3.trans (hb36.mono hbw3.size)
  have O6 : Hid (OwnB w6 w3.heap.size v6 x) := o6
  have hs6 := hb36.size
  clear hown6 hgrow6 hat6 o6
  go_wp2_with (at_builtin; refine wpList_append_any _ rfl _ _ 33 rfl w3.heap.size 5 i5 (.int .u8 0) 1 1 Try.underlying33 hi hz0 hz1 hz2 rfl (by decide) v6 x.length (Lib.byteCells x) rfl O6.out A ys.length cap (Lib.byteCells ys) rfl ?src ?c3 ?c4 ?c5 ?_)
  case src => exact (hSY.out.later hbw6).src
  case c3 => unfold maxLen; omega
  case c4 => omega
  case c5 => exact hs6
  intro v7 w7 hown7 hgrow7 hat7
  obtain ⟨zs, hzs⟩ : ∃ zs : List UInt8, zs = x ++ ys := ⟨_, rfl⟩
  have hzl : zs.length = x.length + ys.length := by rw [hzs, List.length_append]
  have o7 : OwnB w7 w3.heap.size v7 zs := by
    unfold OwnB; rw [hzl, hzs, ← byteCells_append]; exact hown7
  have hb37 : Below w3.heap.size w3 w7 := hb36.trans (grown_below hgrow7 (fun q e => (O6.out.base q e).1) hs6)
  obtain ⟨A7, k7, rfl, hst7⟩ := o7.stays
  have Hzs : Hid (zs = x ++ ys) := hzs
  have Hzl : Hid (zs.length = x.length + ys.length) := hzl
  have HS7 : Hid (Stays w7 A7 k7 zs) := hst7
  have hs7 := hb37.size
  clear hown7 hgrow7 hat7 o7 hzs hzl hst7 O6 hb36 hbw6
  go_wp2_with fail
  refine (take_any w7 A7 k7 zs HS7.out.at' HS7.out.le HS7.out.max').mono ?_
  rintro e w8 ⟨_, h2⟩
  obtain ⟨v, rfl, ho8, hf8, A8, cap8, b8, o8, rfl, hn8, hA8, hl8⟩ := h2 a (norm l) _ ys (by rw [Hzs.out]; exact HTK.out ys)
  clear h2
  rw [show zs.length - ys.length = x.length from by have := Hzl.out; omega]
  have HA8 : Hid (flen (norm l) = 0 ∨ A8 = some ⟨b8, o8, none⟩) := hA8
  clear hA8
  have hb38 : Below w3.heap.size w3 w8 := hb37.trans (ho8.mono hs7)
  have hs8 := hb38.size
  obtain ⟨W9, hW9⟩ : ∃ W9 : World, W9 = w8.alloc (.cells #[.int .i64 a.kind, .int .i64 a.n, .string a.s, .slice A8 (flen (norm l)) cap8] 30) := ⟨_, rfl⟩
  have hW9s : W9.heap.size = w8.heap.size + 1 := by rw [hW9]; simp
  have E2 : Hid (∀ w', Below W9.heap.size W9 w' → Box4 w' w8.heap.size (.int .i64 a.kind) (.int .i64 a.n) (.string a.s) (.slice A8 (flen (norm l)) cap8)) := fun w' hb => Box4.below (w := W9) (by rw [hW9]; exact Box4.new w8 _ _ _ _ _) hb
  have R2 : Hid (∀ w', Below W9.heap.size W9 w' → RepV w' w8.heap.size a (norm l) (.agg #[.int .i64 a.kind, .int .i64 a.n, .string a.s, .slice A8 (flen (norm l)) cap8])) := fun w' hb =>
    ⟨hf8, A8, cap8, b8, o8, rfl, hn8, HA8.out, RepF.keep (B := w8.heap.size) (Nat.le_refl _) (fun q o h => by rw [hb.cell (by simp; omega), hW9, World.cell?_alloc_past _ _ _ (by omega)]) (RepG.toF (fun _ h => h.2) hl8)⟩
  have hb39 : Below w3.heap.size w3 W9 := by rw [hW9]; exact hb38.alloc hs8 _
  have HS9 : Hid (Stays W9 Aa ka x) := HS.out.later hb39
  have hs89 : w8.heap.size < W9.heap.size := by omega
  have hs39 := hb39.size
  have l1 := Int.lt_tmod_of_pos cut (show (0 : Int) < (x.length : Int) by omega)
  have l2 := Int.tmod_lt_of_pos cut (show (0 : Int) < (x.length : Int) by omega)
  have hkN : ∃ kN : Nat, kN < x.length ∧ (cut.tmod (x.length : Int) = (kN : Int) ∨ (cut.tmod (x.length : Int) = (kN : Int) - (x.length : Int))) := by
    by_cases hneg : cut.tmod (x.length : Int) < 0
    · exact ⟨(cut.tmod (x.length : Int) + (x.length : Int)).toNat, by omega, .inr (by omega)⟩
    · exact ⟨(cut.tmod (x.length : Int)).toNat, by omega, .inl (by omega)⟩
  obtain ⟨kN, hkx, hcase⟩ := hkN
  have hk0 : (0 : Int) ≤ (kN : Int) := by omega
  have hkk : (kN : Int) ≤ (ka : Int) := by omega
  have HX : Hid (0 < x.length) := hpa
  rcases hcase with hcz | hcz
  · go_wp2_with fail
    rw [← hW9]
    clear hW9 hW9s
    have htk := take_any W9 Aa ka (x.take kN) (HS9.out.at'.take kN) (by rw [List.length_take]; omega) HS9.out.max'
    rw [List.length_take, Nat.min_eq_left (by omega)] at htk
    refine htk.mono ?_
    rintro e w10 ⟨h1, _⟩
    obtain ⟨rfl, ho10⟩ := h1 1 (HCUT.out kN hkx)
    clear h1 htk
    have hs10 := ho10.size
    have hself : Below w10.heap.size w10 w10 := Below.refl _ _
    go_wp2_with (at_builtin; refine wpList_append_any _ rfl _ _ 33 rfl (w10.heap.size + 1) 5 i5 (.int .u8 0) 1 1 Try.underlying33 hi hz0 hz1 hz2 rfl (by decide) (.slice (some ⟨w10.heap.size + 1, 0, none⟩) 0 0) 0 [] rfl ?own Aa x.length ka (Lib.byteCells x) rfl ?src ?c3 ?c4 ?c5 ?_)
    case own => exact ⟨rfl, .inr ⟨w10.heap.size + 1, 0, #[], rfl, Nat.le_refl _, by have := heap_alloc_new (w10.alloc (.cells #[.int .i64 0, .int .i64 0, .string ⟨#[]⟩, .slice none 0 0] 30)) (.cells #[] 5); simpa using this, Nat.le_refl _, Nat.zero_le _, rfl, rfl⟩⟩
    case src => exact (HS9.out.later ((ho10.alloc hs10 _).alloc (by simp; omega) _)).src
    case c3 => unfold maxLen; omega
    case c4 => omega
    case c5 => simp
    intro v11 w11 hown11 hgrow11 hat11
    have o11 : OwnB w11 (w10.heap.size + 1) v11 x := by simpa [OwnB] using hown11
    have hb11 : Below w10.heap.size w10 w11 := Below.trans (Below.alloc (Below.alloc (Below.refl _ _) (Nat.le_refl _) _) (by simp) _) (grown_below hgrow11 (fun q e => by simp [Value.ownBlock] at e; omega) (by simp; omega))
    have hs11 := hgrow11.size
    simp only [World.heap_size_alloc'] at hs11
    have O11 : Hid (OwnB w11 (w10.heap.size + 1) v11 x) := o11
    clear hown11 hgrow11 hat11 o11
    go_wp2_with (at_builtin; refine wpList_append_any _ rfl _ _ 33 rfl (w10.heap.size + 1) 5 i5 (.int .u8 0) 1 1 Try.underlying33 hi hz0 hz1 hz2 rfl (by decide) v11 x.length (Lib.byteCells x) rfl ?own (some ⟨w11.heap.size, 0, none⟩) 1 1 [.int .u8 1] rfl ?src ?c3 ?c4 ?c5 ?_)
    case own => exact World.ownsRow.alloc O11.out _
    case src => exact .inr ⟨_, rfl, rfl, World.news_of_block (t := 5) (fr := (0, 0)) (heap_alloc_new w11 _), by simp [Value.oneCell']⟩
    case c3 => unfold maxLen; omega
    case c4 => omega
    case c5 => simp; omega
    intro v12 w12 hown12 hgrow12 hat12
    obtain ⟨zt, hzt⟩ : ∃ zt : List UInt8, zt = x ++ [1] := ⟨_, rfl⟩
    have o12 : OwnB w12 (w10.heap.size + 1) v12 zt := by
      unfold OwnB; rw [hzt, List.length_append, ← byteCells_append]; exact hown12
    have hb12 : Below w10.heap.size w10 w12 := hb11.trans ((Below.alloc (Below.refl _ _) hb11.size _).trans (grown_below hgrow12 (fun q e => by have := (O11.out.base q e).1; omega) (by have := hb11.size; simp; omega)))
    obtain ⟨A12, k12, rfl, hst12⟩ := o12.stays
    have Hzt : Hid (oneB zt = .error 5) := by show oneB zt = _; rw [hzt, oneB, HTK.out [1]]; rfl
    have HS12 : Hid (Stays w12 A12 k12 zt) := hst12
    clear hown12 hgrow12 hat12 o12 hzt hst12 O11 hb11
    go_wp2_with fail
    refine (codeOne_any w12 A12 k12 zt HS12.out.at' HS12.out.le HS12.out.max').mono ?_
    rintro e w13 ⟨h1, _⟩
    obtain ⟨rfl, ho13⟩ := h1 5 Hzt.out
    clear h1
    have hb913 : Below W9.heap.size W9 w13 := ho10.trans ((hb12.trans (ho13.mono hb12.size)).mono hs10)
    have hb313 : Below w3.heap.size w3 w13 := hb39.trans (hb913.mono hs39)
    have hbW13 : Below W.heap.size W w13 := ho3.trans (hb313.mono ho3.size)
    obtain ⟨x0, x1, x2, x3, x4⟩ := E1.out _ hbW13
    obtain ⟨y0, y1, y2, y3, y4⟩ := E2.out _ hb913
    have hr1 := R1.out _ (hbW13.alloc hbW13.size (.cells #[.int .i64 0, .int .i64 0, .string ⟨#[]⟩, .slice none 0 0] 30))
    have hr2 := R2.out _ (hb913.alloc hb913.size (.cells #[.int .i64 0, .int .i64 0, .string ⟨#[]⟩, .slice none 0 0] 30))
    have HR1 : Hid (RepV _ w2.heap.size a l _) := hr1
    have HR2 : Hid (RepV _ w8.heap.size a (norm l) _) := hr2
    have hle28 : w2.heap.size ≤ w8.heap.size := by have := hb38.size; have := ho3.size; omega
    have hle8 : w8.heap.size ≤ w13.heap.size := by have := hb913.size; omega
    clear hr1 hr2 E1 E2 R1 R2
    go_wp2_with fail
    have hsame := refSame_any a l a (norm l) _ _ w8.heap.size _ (RepV.keep hle28 (fun _ _ _ => rfl) HR1.out) HR2.out (by simp; omega) (may_ar a l HMA.out).1 (by rw [flen_norm]; exact (may_ar a l HMA.out).1) (may_ar a l HMA.out).2 (arF_norm l (may_ar a l HMA.out).2)
    rw [ordT_norm a (norm_norm l).symm] at hsame
    refine hsame.mono ?_
    rintro e w14 ⟨rfl, ho14⟩
    go_wp2_with fail
    go_ret
    refine ⟨by first | rfl | simp, ?_⟩
    have hb13 : Below w.heap.size w w13 := hbW.trans (hbW13.mono hbW.size)
    exact (hb13.alloc hb13.size _).trans (ho14.mono (by have := hb13.size; simp; omega))
  · have hlt : ((kN : Int) - (x.length : Int)) < 0 := by omega
    go_wp2_with fail
    rw [← hW9]
    clear hW9 hW9s
    have htk := take_any W9 Aa ka (x.take kN) (HS9.out.at'.take kN) (by rw [List.length_take]; omega) HS9.out.max'
    rw [List.length_take, Nat.min_eq_left (by omega)] at htk
    refine htk.mono ?_
    rintro e w10 ⟨h1, _⟩
    obtain ⟨rfl, ho10⟩ := h1 1 (HCUT.out kN hkx)
    clear h1 htk
    have hs10 := ho10.size
    have hself : Below w10.heap.size w10 w10 := Below.refl _ _
    go_wp2_with (at_builtin; refine wpList_append_any _ rfl _ _ 33 rfl (w10.heap.size + 1) 5 i5 (.int .u8 0) 1 1 Try.underlying33 hi hz0 hz1 hz2 rfl (by decide) (.slice (some ⟨w10.heap.size + 1, 0, none⟩) 0 0) 0 [] rfl ?own Aa x.length ka (Lib.byteCells x) rfl ?src ?c3 ?c4 ?c5 ?_)
    case own => exact ⟨rfl, .inr ⟨w10.heap.size + 1, 0, #[], rfl, Nat.le_refl _, by have := heap_alloc_new (w10.alloc (.cells #[.int .i64 0, .int .i64 0, .string ⟨#[]⟩, .slice none 0 0] 30)) (.cells #[] 5); simpa using this, Nat.le_refl _, Nat.zero_le _, rfl, rfl⟩⟩
    case src => exact (HS9.out.later ((ho10.alloc hs10 _).alloc (by simp; omega) _)).src
    case c3 => unfold maxLen; omega
    case c4 => omega
    case c5 => simp
    intro v11 w11 hown11 hgrow11 hat11
    have o11 : OwnB w11 (w10.heap.size + 1) v11 x := by simpa [OwnB] using hown11
    have hb11 : Below w10.heap.size w10 w11 := Below.trans (Below.alloc (Below.alloc (Below.refl _ _) (Nat.le_refl _) _) (by simp) _) (grown_below hgrow11 (fun q e => by simp [Value.ownBlock] at e; omega) (by simp; omega))
    have hs11 := hgrow11.size
    simp only [World.heap_size_alloc'] at hs11
    have O11 : Hid (OwnB w11 (w10.heap.size + 1) v11 x) := o11
    clear hown11 hgrow11 hat11 o11
    go_wp2_with (at_builtin; refine wpList_append_any _ rfl _ _ 33 rfl (w10.heap.size + 1) 5 i5 (.int .u8 0) 1 1 Try.underlying33 hi hz0 hz1 hz2 rfl (by decide) v11 x.length (Lib.byteCells x) rfl ?own (some ⟨w11.heap.size, 0, none⟩) 1 1 [.int .u8 1] rfl ?src ?c3 ?c4 ?c5 ?_)
    case own => exact World.ownsRow.alloc O11.out _
    case src => exact .inr ⟨_, rfl, rfl, World.news_of_block (t := 5) (fr := (0, 0)) (heap_alloc_new w11 _), by simp [Value.oneCell']⟩
    case c3 => unfold maxLen; omega
    case c4 => omega
    case c5 => simp; omega
    intro v12 w12 hown12 hgrow12 hat12
    obtain ⟨zt, hzt⟩ : ∃ zt : List UInt8, zt = x ++ [1] := ⟨_, rfl⟩
    have o12 : OwnB w12 (w10.heap.size + 1) v12 zt := by
      unfold OwnB; rw [hzt, List.length_append, ← byteCells_append]; exact hown12
    have hb12 : Below w10.heap.size w10 w12 := hb11.trans ((Below.alloc (Below.refl _ _) hb11.size _).trans (grown_below hgrow12 (fun q e => by have := (O11.out.base q e).1; omega) (by have := hb11.size; simp; omega)))
    obtain ⟨A12, k12, rfl, hst12⟩ := o12.stays
    have Hzt : Hid (oneB zt = .error 5) := by show oneB zt = _; rw [hzt, oneB, HTK.out [1]]; rfl
    have HS12 : Hid (Stays w12 A12 k12 zt) := hst12
    clear hown12 hgrow12 hat12 o12 hzt hst12 O11 hb11
    go_wp2_with fail
    refine (codeOne_any w12 A12 k12 zt HS12.out.at' HS12.out.le HS12.out.max').mono ?_
    rintro e w13 ⟨h1, _⟩
    obtain ⟨rfl, ho13⟩ := h1 5 Hzt.out
    clear h1
    have hb913 : Below W9.heap.size W9 w13 := ho10.trans ((hb12.trans (ho13.mono hb12.size)).mono hs10)
    have hb313 : Below w3.heap.size w3 w13 := hb39.trans (hb913.mono hs39)
    have hbW13 : Below W.heap.size W w13 := ho3.trans (hb313.mono ho3.size)
    obtain ⟨x0, x1, x2, x3, x4⟩ := E1.out _ hbW13
    obtain ⟨y0, y1, y2, y3, y4⟩ := E2.out _ hb913
    have hr1 := R1.out _ (hbW13.alloc hbW13.size (.cells #[.int .i64 0, .int .i64 0, .string ⟨#[]⟩, .slice none 0 0] 30))
    have hr2 := R2.out _ (hb913.alloc hb913.size (.cells #[.int .i64 0, .int .i64 0, .string ⟨#[]⟩, .slice none 0 0] 30))
    have HR1 : Hid (RepV _ w2.heap.size a l _) := hr1
    have HR2 : Hid (RepV _ w8.heap.size a (norm l) _) := hr2
    have hle28 : w2.heap.size ≤ w8.heap.size := by have := hb38.size; have := ho3.size; omega
    have hle8 : w8.heap.size ≤ w13.heap.size := by have := hb913.size; omega
    clear hr1 hr2 E1 E2 R1 R2
    go_wp2_with fail
    have hsame := refSame_any a l a (norm l) _ _ w8.heap.size _ (RepV.keep hle28 (fun _ _ _ => rfl) HR1.out) HR2.out (by simp; omega) (may_ar a l HMA.out).1 (by rw [flen_norm]; exact (may_ar a l HMA.out).1) (may_ar a l HMA.out).2 (arF_norm l (may_ar a l HMA.out).2)
    rw [ordT_norm a (norm_norm l).symm] at hsame
    refine hsame.mono ?_
    rintro e w14 ⟨rfl, ho14⟩
    go_wp2_with fail
    go_ret
    refine ⟨by first | rfl | simp, ?_⟩
    have hb13 : Below w.heap.size w w13 := hbW.trans (hbW13.mono hbW.size)
    exact (hb13.alloc hb13.size _).trans (ho14.mono (by have := hb13.size; simp; omega))

end Go.Proofs.Ytfoadbnllcfieaa
