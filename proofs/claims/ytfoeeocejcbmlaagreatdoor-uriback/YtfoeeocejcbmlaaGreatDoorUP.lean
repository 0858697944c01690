import Derived.Test.YtfoeeocejcbmlaaGreatDoorUG
namespace Go.Proofs.YtfoeeocejcbmlaaGreatDoor
open Go.RowKit
set_option linter.unusedVariables false
set_option linter.unusedSimpArgs false

theorem mayU_parts (u : Ur) : mayU u = (isHost u.1 && isPath u.2.1 && decide (u.2.2.length ≤ 24) && unlB u.2.2 && decide ((uriS u).size ≤ 1024)) := rfl

theorem s3_drewN {w W W' : World} {g m : Nat} {a b c : Value} (h : BoxU W g a b c ∧ Below w.heap.size w W) (hw : W' = W.drewN m) : BoxU W' g a b c ∧ Below w.heap.size w W' := by
  subst hw; exact s3_call h (below_drewN (Below.refl _ _) m)

set_option maxRecDepth 100000 in
set_option maxHeartbeats 2000000 in
theorem rmay_any (u : Ur) (q : Value) (w : World) (hq : RowF w q u.2.2) (hl : u.2.2.length ≤ 100000) (hs : sumF u.2.2 ≤ 100000) (h1 : u.1.size ≤ 100000) (h2 : u.2.1.size ≤ 100000) :
    Calls Tryz.prog 37 #[.agg #[.string u.1, .string u.2.1, q]] w fun e w' => e = .returned (.bool (mayU u)) ∧ Below w.heap.size w w' := by
  have HV : Hid (RowF w q u.2.2) := hq
  have HM : Hid (mayU u = (isHost u.1 && isPath u.2.1 && decide (u.2.2.length ≤ 24) && unlB u.2.2 && decide ((uriS u).size ≤ 1024))) := mayU_parts u
  obtain ⟨A, cap, rfl, hcp, _⟩ := hq
  have b1 : Below w.heap.size w (w.alloc (.cells #[.string u.1, .string u.2.1, .slice A u.2.2.length cap] 28)) := (Below.refl _ _).alloc (Nat.le_refl _) _
  have x1 := BoxU.new w (.string u.1) (.string u.2.1) (.slice A u.2.2.length cap) 28
  have kh := fun W => rhost_any u.1 W (by omega)
  have kp := fun W => rpath_any u.2.1 W (by omega)
  have ku : ∀ W, Below w.heap.size w W → Calls Tryz.prog 54 #[.slice A u.2.2.length cap] W fun e w' => e = .returned (.bool (unlB u.2.2)) ∧ ∃ m, w' = W.drewN m := fun W hw => unl_any u.2.2 _ W (by omega) (HV.out.below hw)
  have kt : ∀ W, Below w.heap.size w W → Calls Tryz.prog 38 #[.agg #[.string u.1, .string u.2.1, .slice A u.2.2.length cap]] W fun e w' => e = .returned (.string (tgtS u)) ∧ Below W.heap.size W w' := fun W hw => rtarget_any u _ W (HV.out.below hw) hl hs h2
  have HUS : Hid ((uriS u).size = 8 + u.1.size + (tgtS u).size) := by
    show _ = _
    have e1 : (uriS u).size = (⟨#[104, 116, 116, 112, 115, 58, 47, 47]⟩ ++ u.1 : ByteArray).size + (tgtS u).size := ByteArray.size_append
    have e2 := ByteArray.size_append (a := ⟨#[104, 116, 116, 112, 115, 58, 47, 47]⟩) (b := u.1)
    have e3 : (⟨#[104, 116, 116, 112, 115, 58, 47, 47]⟩ : ByteArray).size = 8 := rfl
    omega
  have kmost := uri_most u
  rw [HUS.out] at HM kmost
  generalize isHost u.1 = bh at *
  generalize isPath u.2.1 = bp at *
  generalize unlB u.2.2 = bu at *
  generalize mayU u = bm at *
  generalize tgtS u = t at *
  go_enter Tryz.func37, Tryz.ntmps37
  go_wp2_with fail
  generalize w.alloc (.cells #[.string u.1, .string u.2.1, .slice A u.2.2.length cap] 28) = w1 at *
  have HX : Hid (BoxU w1 w.heap.size (.string u.1) (.string u.2.1) (.slice A u.2.2.length cap)) := x1
  have HB1 : Hid (Below w.heap.size w w1) := b1
  obtain ⟨_, c0, c1, c2⟩ := x1
  have hbq : ∀ q, Below w.heap.size w (w1.drewN q) := fun q => below_drewN b1 q
  cases bh with
  | false =>
    have HF : Hid (bm = false) := by show _ = _; rw [HM.out]; rfl
    clear HM ku kt kp
    go_quiet ((go_at_call 29; exact Calls.quiet_of_same (kh _)))
    go_wp2_with fail
    go_ret
    exact ⟨ret_bool HF.out.symm, below_drewN HB1.out _⟩
  | true =>
    cases bp with
    | false =>
      have HF : Hid (bm = false) := by show _ = _; rw [HM.out]; rfl
      clear HM ku kt
      go_quiet ((first | (go_at_call 29; exact Calls.quiet_of_same (kh _)) | (go_at_call 30; exact Calls.quiet_of_same (kp _))))
      go_wp2_with fail
      go_ret
      exact ⟨ret_bool HF.out.symm, below_drewN HB1.out _⟩
    | true =>
      by_cases hn : u.2.2.length ≤ 24
      · have hn' : (u.2.2.length : Int) ≤ 24 := by omega
        cases bu with
        | false =>
          have HF : Hid (bm = false) := by show _ = _; rw [HM.out]; simp
          clear HM kt
          go_quiet ((first | (go_at_call 29; exact Calls.quiet_of_same (kh _)) | (go_at_call 30; exact Calls.quiet_of_same (kp _)) | (go_at_call 54; exact Calls.quiet_of (ku _ (hbq _)))))
          go_wp2_with fail
          go_ret
          exact ⟨ret_bool HF.out.symm, below_drewN HB1.out _⟩
        | true =>
          have HF : Hid (bm = decide (8 + u.1.size + t.size ≤ 1024)) := by show _ = _; rw [HM.out, decide_eq_true hn]; rfl
          have z1 : ¬ 9223372036854775807 < 8 + u.1.size := by omega
          have z2 : ¬ 9223372036854775807 < 8 + u.1.size + t.size := by omega
          clear HM c0 c1 c2 hbq
          go_region_held3 (fun W => BoxU W w.heap.size (.string u.1) (.string u.2.1) (.slice A u.2.2.length cap) ∧ Below w.heap.size w W)
            (first | with_reducible assumption | exact s3_call ⟨HX.out, HB1.out⟩ (Below.drew (Below.refl _ _)) | exact ⟨HX.out, HB1.out⟩ | exact s3_call (w := w) (by with_reducible assumption) (below_drewN (Below.refl _ _) _))
            (first
              | (go_at_call 29; refine (kh _).mono ?_; rintro e w2 ⟨rfl, hw2⟩; rw [hw2]; clear hw2 w2)
              | (go_at_call 30; refine (kp _).mono ?_; rintro e w3 ⟨rfl, hw3⟩; rw [hw3]; clear hw3 w3)
              | (go_at_call 54; refine (ku _ ?_).mono ?_; exact And.right (by with_reducible assumption); rintro e w4 ⟨rfl, m4, hw4⟩; have s4 := s3_drewN (w := w) (by with_reducible assumption) hw4; clear hw4)
              | (go_at_call 38; refine (kt _ ?_).mono ?_; exact And.right (by with_reducible assumption); rintro e w5 ⟨rfl, hb5⟩; have s5 := s3_call (w := w) (by with_reducible assumption) hb5; have b5 := s5.2))
          go_wp2_with fail
          go_ret
          exact ⟨ret_bool (by rw [HF.out, Bool.eq_iff_iff, decide_eq_true_eq, decide_eq_true_eq]; omega), b5⟩
      · have hn' : ¬ (u.2.2.length : Int) ≤ 24 := by omega
        have HF : Hid (bm = false) := by show _ = _; rw [HM.out, decide_eq_false hn]; simp
        clear HM ku kt
        go_quiet ((first | (go_at_call 29; exact Calls.quiet_of_same (kh _)) | (go_at_call 30; exact Calls.quiet_of_same (kp _))))
        go_wp2_with fail
        go_ret
        exact ⟨ret_bool HF.out.symm, below_drewN HB1.out _⟩

set_option maxRecDepth 100000 in
set_option maxHeartbeats 1000000 in
theorem uprint_any {w0 : World} (ht : Tab16 w0.heap.size w0) (u : Ur) (q : Value) (w : World) (hW : Below w0.heap.size w0 w) (hq : RowF w q u.2.2) (hl : u.2.2.length ≤ 100000) (hs : sumF u.2.2 ≤ 100000) (h1 : u.1.size ≤ 100000) (h2 : u.2.1.size ≤ 100000) :
    Calls Tryz.prog 14 #[.agg #[.string u.1, .string u.2.1, q]] w fun e w' => e = .returned (.string (printS u)) ∧ Below w.heap.size w w' := by
  have HV : Hid (RowF w q u.2.2) := hq
  obtain ⟨A, cap, rfl, hcp, _⟩ := hq
  have b1 : Below w.heap.size w (w.alloc (.cells #[.string u.1, .string u.2.1, .slice A u.2.2.length cap] 28)) := (Below.refl _ _).alloc (Nat.le_refl _) _
  have x1 := BoxU.new w (.string u.1) (.string u.2.1) (.slice A u.2.2.length cap) 28
  have km : ∀ W, Below w.heap.size w W → Calls Tryz.prog 16 #[.agg #[.string u.1, .string u.2.1, .slice A u.2.2.length cap]] W fun e w' => e = .returned (.bool (mayU u)) ∧ Below W.heap.size W w' := fun W hw => umay_any ht u _ W (hW.trans (hw.mono hW.size)) (HV.out.below hw) hl hs h1 h2
  have kt : ∀ W, Below w.heap.size w W → Calls Tryz.prog 34 #[.agg #[.string u.1, .string u.2.1, .slice A u.2.2.length cap]] W fun e w' => e = .returned (.string (tgtS u)) ∧ Below W.heap.size W w' := fun W hw => utarget_any ht u _ W (hW.trans (hw.mono hW.size)) (HV.out.below hw) hl hs h2
  have HP : Hid (printS u = if mayU u = true then ⟨#[104, 116, 116, 112, 115, 58, 47, 47]⟩ ++ u.1 ++ tgtS u else ⟨#[]⟩) := rfl
  have hsz := uri_most u
  have e1 : (uriS u).size = (⟨#[104, 116, 116, 112, 115, 58, 47, 47]⟩ ++ u.1 : ByteArray).size + (tgtS u).size := ByteArray.size_append
  have e2 := ByteArray.size_append (a := ⟨#[104, 116, 116, 112, 115, 58, 47, 47]⟩) (b := u.1)
  have e3 : (⟨#[104, 116, 116, 112, 115, 58, 47, 47]⟩ : ByteArray).size = 8 := rfl
  have z1 : ¬ 9223372036854775807 < 8 + u.1.size := by omega
  have z2 : ¬ 9223372036854775807 < 8 + u.1.size + (tgtS u).size := by omega
  generalize mayU u = bm at *
  generalize tgtS u = t at *
  clear hsz e1 e2 e3
  go_enter Tryz.func14, Tryz.ntmps14
  go_wp2_with fail
  generalize w.alloc (.cells #[.string u.1, .string u.2.1, .slice A u.2.2.length cap] 28) = w1 at *
  refine (km w1 b1).mono ?_
  rintro e w2 ⟨rfl, hb2⟩
  have s2 : Hid (BoxU w2 w.heap.size (.string u.1) (.string u.2.1) (.slice A u.2.2.length cap) ∧ Below w.heap.size w w2) := s3_call ⟨x1, b1⟩ hb2
  clear x1 b1 hb2 km
  cases bm with
  | false =>
    go_wp2_with fail
    go_ret
    exact ⟨ret_str HP.out.symm, s2.out.2⟩
  | true =>
    go_wp2_with fail
    go_region_held3 (fun W => BoxU W w.heap.size (.string u.1) (.string u.2.1) (.slice A u.2.2.length cap) ∧ Below w.heap.size w W)
      (first | with_reducible assumption | exact s3_drew s2.out | exact s2.out)
      (first
        | (go_at_call 34; refine (kt _ ?_).mono ?_; exact And.right (by with_reducible assumption); rintro e w5 ⟨rfl, hb5⟩; have s5 := s3_call (w := w) (by with_reducible assumption) hb5; have b5 := s5.2))
    go_wp2_with fail
    go_ret
    exact ⟨ret_str HP.out.symm, b5⟩

set_option maxRecDepth 100000 in
set_option maxHeartbeats 1000000 in
theorem rprint11_any (u : Ur) (q : Value) (w : World) (hq : RowF w q u.2.2) (hl : u.2.2.length ≤ 100000) (hs : sumF u.2.2 ≤ 100000) (h1 : u.1.size ≤ 100000) (h2 : u.2.1.size ≤ 100000) :
    Calls Tryz.prog 17 #[.agg #[.string u.1, .string u.2.1, q]] w fun e w' => e = .returned (.string (printS u)) ∧ Below w.heap.size w w' := by
  have HV : Hid (RowF w q u.2.2) := hq
  obtain ⟨A, cap, rfl, hcp, _⟩ := hq
  have b1 : Below w.heap.size w (w.alloc (.cells #[.string u.1, .string u.2.1, .slice A u.2.2.length cap] 28)) := (Below.refl _ _).alloc (Nat.le_refl _) _
  have x1 := BoxU.new w (.string u.1) (.string u.2.1) (.slice A u.2.2.length cap) 28
  have km : ∀ W, Below w.heap.size w W → Calls Tryz.prog 37 #[.agg #[.string u.1, .string u.2.1, .slice A u.2.2.length cap]] W fun e w' => e = .returned (.bool (mayU u)) ∧ Below W.heap.size W w' := fun W hw => rmay_any u _ W (HV.out.below hw) hl hs h1 h2
  have kt : ∀ W, Below w.heap.size w W → Calls Tryz.prog 38 #[.agg #[.string u.1, .string u.2.1, .slice A u.2.2.length cap]] W fun e w' => e = .returned (.string (tgtS u)) ∧ Below W.heap.size W w' := fun W hw => rtarget_any u _ W (HV.out.below hw) hl hs h2
  have HP : Hid (printS u = if mayU u = true then ⟨#[104, 116, 116, 112, 115, 58, 47, 47]⟩ ++ u.1 ++ tgtS u else ⟨#[]⟩) := rfl
  have hsz := uri_most u
  have e1 : (uriS u).size = (⟨#[104, 116, 116, 112, 115, 58, 47, 47]⟩ ++ u.1 : ByteArray).size + (tgtS u).size := ByteArray.size_append
  have e2 := ByteArray.size_append (a := ⟨#[104, 116, 116, 112, 115, 58, 47, 47]⟩) (b := u.1)
  have e3 : (⟨#[104, 116, 116, 112, 115, 58, 47, 47]⟩ : ByteArray).size = 8 := rfl
  have z1 : ¬ 9223372036854775807 < 8 + u.1.size := by omega
  have z2 : ¬ 9223372036854775807 < 8 + u.1.size + (tgtS u).size := by omega
  generalize mayU u = bm at *
  generalize tgtS u = t at *
  clear hsz e1 e2 e3
  go_enter Tryz.func17, Tryz.ntmps17
  go_wp2_with fail
  generalize w.alloc (.cells #[.string u.1, .string u.2.1, .slice A u.2.2.length cap] 28) = w1 at *
  refine (km w1 b1).mono ?_
  rintro e w2 ⟨rfl, hb2⟩
  have s2 : Hid (BoxU w2 w.heap.size (.string u.1) (.string u.2.1) (.slice A u.2.2.length cap) ∧ Below w.heap.size w w2) := s3_call ⟨x1, b1⟩ hb2
  clear x1 b1 hb2 km
  cases bm with
  | false =>
    go_wp2_with fail
    go_ret
    exact ⟨ret_str HP.out.symm, s2.out.2⟩
  | true =>
    go_wp2_with fail
    go_region_held3 (fun W => BoxU W w.heap.size (.string u.1) (.string u.2.1) (.slice A u.2.2.length cap) ∧ Below w.heap.size w W)
      (first | with_reducible assumption | exact s3_drew s2.out | exact s2.out)
      (first
        | (go_at_call 38; refine (kt _ ?_).mono ?_; exact And.right (by with_reducible assumption); rintro e w5 ⟨rfl, hb5⟩; have s5 := s3_call (w := w) (by with_reducible assumption) hb5; have b5 := s5.2))
    go_wp2_with fail
    go_ret
    exact ⟨ret_str HP.out.symm, b5⟩

set_option maxRecDepth 100000 in
set_option maxHeartbeats 1000000 in
theorem utgt_any {w0 : World} (ht : Tab16 w0.heap.size w0) (u : Ur) (q : Value) (w : World) (hW : Below w0.heap.size w0 w) (hq : RowF w q u.2.2) (hl : u.2.2.length ≤ 100000) (hs : sumF u.2.2 ≤ 100000) (h1 : u.1.size ≤ 100000) (h2 : u.2.1.size ≤ 100000) :
    Calls Tryz.prog 15 #[.agg #[.string u.1, .string u.2.1, q]] w fun e w' => e = .returned (.string (targetS u)) ∧ Below w.heap.size w w' := by
  have HV : Hid (RowF w q u.2.2) := hq
  obtain ⟨A, cap, rfl, hcp, _⟩ := hq
  have b1 : Below w.heap.size w (w.alloc (.cells #[.string u.1, .string u.2.1, .slice A u.2.2.length cap] 28)) := (Below.refl _ _).alloc (Nat.le_refl _) _
  have x1 := BoxU.new w (.string u.1) (.string u.2.1) (.slice A u.2.2.length cap) 28
  have km : ∀ W, Below w.heap.size w W → Calls Tryz.prog 16 #[.agg #[.string u.1, .string u.2.1, .slice A u.2.2.length cap]] W fun e w' => e = .returned (.bool (mayU u)) ∧ Below W.heap.size W w' := fun W hw => umay_any ht u _ W (hW.trans (hw.mono hW.size)) (HV.out.below hw) hl hs h1 h2
  have kt : ∀ W, Below w.heap.size w W → Calls Tryz.prog 34 #[.agg #[.string u.1, .string u.2.1, .slice A u.2.2.length cap]] W fun e w' => e = .returned (.string (tgtS u)) ∧ Below W.heap.size W w' := fun W hw => utarget_any ht u _ W (hW.trans (hw.mono hW.size)) (HV.out.below hw) hl hs h2
  have HP : Hid (targetS u = if mayU u = true then tgtS u else ⟨#[]⟩) := rfl
  generalize mayU u = bm at *
  generalize tgtS u = t at *
  go_enter Tryz.func15, Tryz.ntmps15
  go_wp2_with fail
  generalize w.alloc (.cells #[.string u.1, .string u.2.1, .slice A u.2.2.length cap] 28) = w1 at *
  refine (km w1 b1).mono ?_
  rintro e w2 ⟨rfl, hb2⟩
  obtain ⟨⟨_, c0, c1, c2⟩, b2⟩ := s3_call (w := w) ⟨x1, b1⟩ hb2
  have HB2 : Hid (Below w.heap.size w w2) := b2
  have kt2 := kt w2 b2
  clear x1 b1 hb2 km kt b2
  cases bm with
  | false =>
    go_wp2_with fail
    go_ret
    exact ⟨ret_str HP.out.symm, HB2.out⟩
  | true =>
    go_wp2_with fail
    refine kt2.mono ?_
    rintro e w5 ⟨rfl, hb5⟩
    have HB5 : Hid (Below w.heap.size w w5) := HB2.out.trans (hb5.mono HB2.out.size)
    clear hb5 kt2
    go_wp2_with fail
    go_ret
    exact ⟨ret_str HP.out.symm, HB5.out⟩

set_option maxRecDepth 100000 in
set_option maxHeartbeats 1000000 in
theorem rtgt11_any (u : Ur) (q : Value) (w : World) (hq : RowF w q u.2.2) (hl : u.2.2.length ≤ 100000) (hs : sumF u.2.2 ≤ 100000) (h1 : u.1.size ≤ 100000) (h2 : u.2.1.size ≤ 100000) :
    Calls Tryz.prog 21 #[.agg #[.string u.1, .string u.2.1, q]] w fun e w' => e = .returned (.string (targetS u)) ∧ Below w.heap.size w w' := by
  have HV : Hid (RowF w q u.2.2) := hq
  obtain ⟨A, cap, rfl, hcp, _⟩ := hq
  have b1 : Below w.heap.size w (w.alloc (.cells #[.string u.1, .string u.2.1, .slice A u.2.2.length cap] 28)) := (Below.refl _ _).alloc (Nat.le_refl _) _
  have x1 := BoxU.new w (.string u.1) (.string u.2.1) (.slice A u.2.2.length cap) 28
  have km : ∀ W, Below w.heap.size w W → Calls Tryz.prog 37 #[.agg #[.string u.1, .string u.2.1, .slice A u.2.2.length cap]] W fun e w' => e = .returned (.bool (mayU u)) ∧ Below W.heap.size W w' := fun W hw => rmay_any u _ W (HV.out.below hw) hl hs h1 h2
  have kt : ∀ W, Below w.heap.size w W → Calls Tryz.prog 38 #[.agg #[.string u.1, .string u.2.1, .slice A u.2.2.length cap]] W fun e w' => e = .returned (.string (tgtS u)) ∧ Below W.heap.size W w' := fun W hw => rtarget_any u _ W (HV.out.below hw) hl hs h2
  have HP : Hid (targetS u = if mayU u = true then tgtS u else ⟨#[]⟩) := rfl
  generalize mayU u = bm at *
  generalize tgtS u = t at *
  go_enter Tryz.func21, Tryz.ntmps21
  go_wp2_with fail
  generalize w.alloc (.cells #[.string u.1, .string u.2.1, .slice A u.2.2.length cap] 28) = w1 at *
  refine (km w1 b1).mono ?_
  rintro e w2 ⟨rfl, hb2⟩
  obtain ⟨⟨_, c0, c1, c2⟩, b2⟩ := s3_call (w := w) ⟨x1, b1⟩ hb2
  have HB2 : Hid (Below w.heap.size w w2) := b2
  have kt2 := kt w2 b2
  clear x1 b1 hb2 km kt b2
  cases bm with
  | false =>
    go_wp2_with fail
    go_ret
    exact ⟨ret_str HP.out.symm, HB2.out⟩
  | true =>
    go_wp2_with fail
    refine kt2.mono ?_
    rintro e w5 ⟨rfl, hb5⟩
    have HB5 : Hid (Below w.heap.size w w5) := HB2.out.trans (hb5.mono HB2.out.size)
    clear hb5 kt2
    go_wp2_with fail
    go_ret
    exact ⟨ret_str HP.out.symm, HB5.out⟩

end Go.Proofs.YtfoeeocejcbmlaaGreatDoor
