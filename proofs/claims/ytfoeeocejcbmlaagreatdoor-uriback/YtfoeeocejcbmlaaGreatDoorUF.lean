import Derived.Test.YtfoeeocejcbmlaaGreatDoorUE
namespace Go.Proofs.YtfoeeocejcbmlaaGreatDoor
open Go.RowKit
set_option linter.unusedVariables false
set_option linter.unusedSimpArgs false

set_option maxRecDepth 100000 in
set_option maxHeartbeats 1000000 in
theorem uat_any (h p : ByteArray) (A : Option Addr) (n cap : Nat) (w : World) :
    Calls Tryz.prog 36 #[.agg #[.string h, .string p, .slice A n cap]] w fun e w' => e = .returned (.agg #[.string h, .string p]) ∧ Below w.heap.size w w' := by
  go_enter Tryz.func36, Tryz.ntmps36
  go_wp2_with fail
  refine bodyPost_ret (v := .agg #[.string h, .string p]) (by simp [results, Tryz.results36, go_sem]) rfl ⟨rfl, ?_⟩
  exact (by repeat (first | exact Below.refl _ _ | assumption | refine below_drewN ?_ _ | refine Below.drew ?_ | refine Below.alloc ?_ (by simp <;> omega) _ | refine Below.setCell ?_ (by simp <;> omega) _))

theorem s3_call {w W W' : World} {g : Nat} {a b c : Value} (h : BoxU W g a b c ∧ Below w.heap.size w W) (hb : Below W.heap.size W W') : BoxU W' g a b c ∧ Below w.heap.size w W' :=
  ⟨BoxU.below h.1 hb, h.2.trans (hb.mono h.2.size)⟩
theorem s4_call {w W W' : World} {g k : Nat} {a b c d e f : Value} (h : BoxU W g a b c ∧ BoxU W k d e f ∧ Below w.heap.size w W) (hb : Below W.heap.size W W') : BoxU W' g a b c ∧ BoxU W' k d e f ∧ Below w.heap.size w W' :=
  ⟨BoxU.below h.1 hb, BoxU.below h.2.1 hb, h.2.2.trans (hb.mono h.2.2.size)⟩
theorem s3_drew {w W : World} {g : Nat} {a b c : Value} (h : BoxU W g a b c ∧ Below w.heap.size w W) : BoxU W.drew g a b c ∧ Below w.heap.size w W.drew := s3_call h (Below.drew (Below.refl _ _))
theorem s3_alloc {w W : World} {g : Nat} {a b c : Value} (h : BoxU W g a b c ∧ Below w.heap.size w W) (o : Obj) : BoxU (W.alloc o) g a b c ∧ Below w.heap.size w (W.alloc o) := s3_call h ((Below.refl _ _).alloc (Nat.le_refl _) o)
theorem s3_set {w W : World} {g k : Nat} {a b c : Value} (h : BoxU W g a b c ∧ Below w.heap.size w W) (hk : g < k) (hw : w.heap.size ≤ k) (i : Nat) (v : Value) : BoxU (W.setCell ⟨k, i, none⟩ v) g a b c ∧ Below w.heap.size w (W.setCell ⟨k, i, none⟩ v) := by
  have hh : (W.setCell ⟨k, i, none⟩ v).heap[g]? = W.heap[g]? := Below.heap_setCell _ _ _ _ (show g ≠ k by omega)
  obtain ⟨⟨h0, h1, h2, h3⟩, h4⟩ := h
  exact ⟨⟨by simpa [World.setCell] using h0, (World.cell?_of_block (a := ⟨g, 0, none⟩) hh).trans h1, (World.cell?_of_block (a := ⟨g, 1, none⟩) hh).trans h2, (World.cell?_of_block (a := ⟨g, 2, none⟩) hh).trans h3⟩, h4.setCell (p := ⟨k, i, none⟩) hw _⟩
theorem Tri3.drew {g : Nat} {a b c : Value} {W : World} (h : Tri3 g a b c W) : Tri3 g a b c W.drew := h.below (Below.drew (Below.refl _ _))
theorem Tri3.put {g : Nat} {a b c : Value} {W : World} (h : Tri3 g a b c W) (x y z : Value) : BoxU (((W.setCell ⟨g, 0, none⟩ x).setCell ⟨g, 1, none⟩ y).setCell ⟨g, 2, none⟩ z) g x y z := by
  obtain ⟨h0, h1, h2, h3, h4, h5, h6⟩ := h
  exact ⟨by simpa [World.setCell] using h6, by simp [go_sem, h0, h1, h2], by simp [go_sem, h0, h1, h2], by simp [go_sem, h0, h1, h2]⟩

set_option maxRecDepth 100000 in
set_option maxHeartbeats 1000000 in
theorem umay_any {w0 : World} (ht : Tab16 w0.heap.size w0) (u : Ur) (q : Value) (w : World) (hW : Below w0.heap.size w0 w) (hq : RowF w q u.2.2) (hl : u.2.2.length ≤ 100000) (hs : sumF u.2.2 ≤ 100000) (h1 : u.1.size ≤ 100000) (h2 : u.2.1.size ≤ 100000) :
    Calls Tryz.prog 16 #[.agg #[.string u.1, .string u.2.1, q]] w fun e w' => e = .returned (.bool (mayU u)) ∧ Below w.heap.size w w' := by
  have HV : Hid (RowF w q u.2.2) := hq
  have HLG := may_long u
  have HLN : Hid (lenU u = 8 + u.1.size + u.2.1.size + (sumF u.2.2 + u.2.2.length)) := rfl
  obtain ⟨A, cap, rfl, hcp, _⟩ := hq
  have b1 : Below w.heap.size w (w.alloc (.cells #[.string u.1, .string u.2.1, .slice A u.2.2.length cap] 28)) := (Below.refl _ _).alloc (Nat.le_refl _) _
  have x1 := BoxU.new w (.string u.1) (.string u.2.1) (.slice A u.2.2.length cap) 28
  have klong := fun W hW => ulong_any u (.slice A u.2.2.length cap) W hW hl hs h1 h2
  have ktgt : ∀ W, Below w.heap.size w W → Calls Tryz.prog 34 #[.agg #[.string u.1, .string u.2.1, .slice A u.2.2.length cap]] W fun e w' => e = .returned (.string (tgtS u)) ∧ Below W.heap.size W w' := fun W hw => utarget_any ht u _ W (hW.trans (hw.mono hW.size)) (HV.out.below hw) hl hs h2
  have kpar : (uriS u).size ≤ 100000 → ∀ W, Below w.heap.size w W → Calls Tryz.prog 7 #[.string (uriS u)] W fun e w' => ParseAt W (uriS u) e w' := fun hsz W hw => uparse_any ht (uriS u) hsz W (hW.trans (hw.mono hW.size))
  have kmost := uri_most u
  have HU : Hid (uriS u = ⟨#[104, 116, 116, 112, 115, 58, 47, 47]⟩ ++ u.1 ++ tgtS u) := rfl
  have hus := ByteArray.size_append (a := ⟨#[104, 116, 116, 112, 115, 58, 47, 47]⟩ ++ u.1) (b := tgtS u)
  rw [← HU.out, ByteArray.size_append, show (⟨#[104, 116, 116, 112, 115, 58, 47, 47]⟩ : ByteArray).size = 8 from rfl] at hus
  go_enter Tryz.func16, Tryz.ntmps16
  go_wp2_with fail
  generalize w.alloc (.cells #[.string u.1, .string u.2.1, .slice A u.2.2.length cap] 28) = w1 at *
  refine (klong w1 (HV.out.below b1)).mono ?_
  rintro e w2 ⟨rfl, hb2⟩
  have B2 : Hid (Below w.heap.size w w2) := b1.trans (hb2.mono b1.size)
  have X2 := x1.below hb2
  have HX : Hid (BoxU w2 w.heap.size (.string u.1) (.string u.2.1) (.slice A u.2.2.length cap)) := X2
  clear x1 b1 hb2 klong
  by_cases hlg : 1024 < lenU u
  · have HE : Hid (mayU u = false) := HLG hlg
    clear X2 HX
    go_wp2_with fail
    all_goals go_ret
    all_goals exact ⟨ret_bool HE.out.symm, B2.out⟩
  · have hln := HLN.out
    have hsz : (uriS u).size ≤ 100000 := by omega
    have kp := kpar hsz
    have hmr := may_read u
    rw [HU.out] at kp hmr
    rw [HU.out] at hus
    unfold ParseAt at kp
    have z1 : ¬ 9223372036854775807 < 8 + u.1.size := by omega
    have z2 : ¬ 9223372036854775807 < 8 + u.1.size + (tgtS u).size := by rw [HU.out] at hsz; omega
    have b2 := B2.out
    clear kpar kmost HU hus HLG HLN hln hsz
    generalize tgtS u = t at *
    generalize (prsF (⟨#[104, 116, 116, 112, 115, 58, 47, 47]⟩ ++ u.1 ++ t)).1 = n at *
    generalize (prsF (⟨#[104, 116, 116, 112, 115, 58, 47, 47]⟩ ++ u.1 ++ t)).2 = v at *
    obtain ⟨h', p', l'⟩ := v
    dsimp only at kp hmr
    go_wp2_with fail
    have N0 : Tri3 w2.heap.size (.string ⟨#[]⟩) (.string ⟨#[]⟩) (.slice none 0 0) (w2.alloc (.cells #[.string ⟨#[]⟩, .string ⟨#[]⟩, .slice none 0 0] 28)).drew := (Tri3.new w2 _ _ _ _ _ rfl).drew
    have hw2 : w.heap.size < w2.heap.size := X2.1
    have hw2' := b2.size
    go_region_held3 (fun W => BoxU W w.heap.size (.string u.1) (.string u.2.1) (.slice A u.2.2.length cap) ∧ Below w.heap.size w W)
      (repeat (first | with_reducible assumption | exact ⟨HX.out, b2⟩ | refine s3_drew ?_ | refine s3_alloc ?_ _ | refine s3_set ?_ (by omega) (by omega) _ _))
      (first
        | (go_at_call 34; refine (ktgt _ ?_).mono ?_; exact And.right (by with_reducible assumption); rintro e w3 ⟨rfl, hb3⟩; have s3 := s3_call (w := w) (by with_reducible assumption) hb3; (try (have N3 := Tri3.below (by with_reducible assumption) hb3)); have hw3 : w.heap.size < w3.heap.size := s3.1.1; have N3' : Tri3 w3.heap.size (.string ⟨#[]⟩) (.string ⟨#[]⟩) (.slice none 0 0) (w3.alloc (.cells #[.string ⟨#[]⟩, .string ⟨#[]⟩, .slice none 0 0] 28)) := Tri3.new w3 _ _ _ _ _ rfl)
        | (go_at_call 7; refine (kp _ ?_).mono ?_; exact And.right (by with_reducible assumption); rintro e w4 ⟨q4, rfl, ho4, hb4⟩; obtain ⟨A4, cp4, rfl⟩ := slice_ofF ho4; have s4 := s3_call (w := w) (by with_reducible assumption) hb4; (try (have N4 := Tri3.below (by with_reducible assumption) hb4; obtain ⟨t0, t1, t2, g0, g1, g2, tl⟩ := id N4))))
    · have S5 := (by with_reducible assumption : BoxU _ w.heap.size (.string u.1) (.string u.2.1) (.slice A u.2.2.length cap) ∧ Below w.heap.size w _)
      have R5 := BoxU.new w4 (.string h') (.string p') (.slice A4 l'.length cp4) 28
      generalize w4.alloc (.cells #[.string h', .string p', .slice A4 l'.length cp4] 28) = w5 at R5 S5 ⊢
      generalize w4.heap.size = k at R5 ⊢
      obtain ⟨X5, b5⟩ := S5
      have HX5 : Hid (BoxU w5 w.heap.size (.string u.1) (.string u.2.1) (.slice A u.2.2.length cap)) := X5
      have HR5 : Hid (BoxU w5 k (.string h') (.string p') (.slice A4 l'.length cp4)) := R5
      have HB5 : Hid (Below w.heap.size w w5) := b5
      have HMR : Hid (mayU u = true ↔ n = 0 ∧ h' = u.1 ∧ p' = u.2.1) := hmr
      clear hmr kp ktgt X5 R5 b5 N0
      by_cases hn : n = 0
      · have hn' : (n == 0) = true := by simpa using hn
        subst hn
        by_cases e1 : h' = u.1
        · by_cases e2 : p' = u.2.1
          · have HF : Hid (mayU u = true) := HMR.out.2 ⟨rfl, e1, e2⟩
            subst e1 e2
            skip
            go_wp2_with fail
            go_region_held3 (fun W => BoxU W w.heap.size (.string u.1) (.string u.2.1) (.slice A u.2.2.length cap) ∧ BoxU W k (.string (u.1)) (.string (u.2.1)) (.slice A4 l'.length cp4) ∧ Below w.heap.size w W)
              (first | with_reducible assumption | exact s4_call ⟨HX5.out, HR5.out, HB5.out⟩ (Below.drew (Below.refl _ _)) | exact ⟨HX5.out, HR5.out, HB5.out⟩)
              (first
                | (go_at_call 36; refine (uat_any _ _ _ _ _ _).mono ?_; rintro e w8 ⟨rfl, hb8⟩; have s8 := s4_call (by with_reducible assumption) hb8; have b9 := s8.2.2))
            go_wp2_with fail
            go_ret
            exact ⟨ret_bool HF.out.symm, b9⟩
          · have HF : Hid (mayU u = false) := by
              show _ = _
              cases hm : mayU u with
              | false => rfl
              | true => exact absurd (HMR.out.1 hm).2.2 e2
            have q2 := toList_ne e2
            subst e1
            skip
            go_wp2_with fail
            go_region_held3 (fun W => BoxU W w.heap.size (.string u.1) (.string u.2.1) (.slice A u.2.2.length cap) ∧ BoxU W k (.string (u.1)) (.string (p')) (.slice A4 l'.length cp4) ∧ Below w.heap.size w W)
              (first | with_reducible assumption | exact s4_call ⟨HX5.out, HR5.out, HB5.out⟩ (Below.drew (Below.refl _ _)) | exact ⟨HX5.out, HR5.out, HB5.out⟩)
              (first
                | (go_at_call 36; refine (uat_any _ _ _ _ _ _).mono ?_; rintro e w8 ⟨rfl, hb8⟩; have s8 := s4_call (by with_reducible assumption) hb8; have b9 := s8.2.2))
            go_wp2_with fail
            go_ret
            exact ⟨ret_bool HF.out.symm, b9⟩
        · have HF : Hid (mayU u = false) := by
            show _ = _
            cases hm : mayU u with
            | false => rfl
            | true => exact absurd (HMR.out.1 hm).2.1 e1
          have q1 := toList_ne e1
          · skip
            skip
            go_wp2_with fail
            go_region_held3 (fun W => BoxU W w.heap.size (.string u.1) (.string u.2.1) (.slice A u.2.2.length cap) ∧ BoxU W k (.string (h')) (.string (p')) (.slice A4 l'.length cp4) ∧ Below w.heap.size w W)
              (first | with_reducible assumption | exact s4_call ⟨HX5.out, HR5.out, HB5.out⟩ (Below.drew (Below.refl _ _)) | exact ⟨HX5.out, HR5.out, HB5.out⟩)
              (first
                | (go_at_call 36; refine (uat_any _ _ _ _ _ _).mono ?_; rintro e w8 ⟨rfl, hb8⟩; have s8 := s4_call (by with_reducible assumption) hb8; have b9 := s8.2.2))
            go_wp2_with fail
            go_ret
            exact ⟨ret_bool HF.out.symm, b9⟩
      · have hn' : (n == 0) = false := by simpa using hn
        have HF : Hid (mayU u = false) := by
          show _ = _
          cases hm : mayU u with
          | false => rfl
          | true => exact absurd (HMR.out.1 hm).1 hn
        go_wp2_with fail
        go_quiet (fail)
        go_wp2_with fail
        go_ret
        exact ⟨ret_bool HF.out.symm, below_drewN HB5.out _⟩
    · have S5 := (by with_reducible assumption : BoxU _ w.heap.size (.string u.1) (.string u.2.1) (.slice A u.2.2.length cap) ∧ Below w.heap.size w _)
      have R5 := N4.put (.string h') (.string p') (.slice A4 l'.length cp4)
      generalize ((w4.setCell ⟨w3.heap.size, 0, none⟩ (.string h')).setCell ⟨w3.heap.size, 1, none⟩ (.string p')).setCell ⟨w3.heap.size, 2, none⟩ (.slice A4 l'.length cp4) = w5 at R5 S5 ⊢
      clear t0 t1 t2 g0 g1 g2 tl N4 N3'
      generalize w3.heap.size = k at R5 ⊢
      obtain ⟨X5, b5⟩ := S5
      have HX5 : Hid (BoxU w5 w.heap.size (.string u.1) (.string u.2.1) (.slice A u.2.2.length cap)) := X5
      have HR5 : Hid (BoxU w5 k (.string h') (.string p') (.slice A4 l'.length cp4)) := R5
      have HB5 : Hid (Below w.heap.size w w5) := b5
      have HMR : Hid (mayU u = true ↔ n = 0 ∧ h' = u.1 ∧ p' = u.2.1) := hmr
      clear hmr kp ktgt X5 R5 b5 N0
      by_cases hn : n = 0
      · have hn' : (n == 0) = true := by simpa using hn
        subst hn
        by_cases e1 : h' = u.1
        · by_cases e2 : p' = u.2.1
          · have HF : Hid (mayU u = true) := HMR.out.2 ⟨rfl, e1, e2⟩
            subst e1 e2
            skip
            go_wp2_with fail
            go_region_held3 (fun W => BoxU W w.heap.size (.string u.1) (.string u.2.1) (.slice A u.2.2.length cap) ∧ BoxU W k (.string (u.1)) (.string (u.2.1)) (.slice A4 l'.length cp4) ∧ Below w.heap.size w W)
              (first | with_reducible assumption | exact s4_call ⟨HX5.out, HR5.out, HB5.out⟩ (Below.drew (Below.refl _ _)) | exact ⟨HX5.out, HR5.out, HB5.out⟩)
              (first
                | (go_at_call 36; refine (uat_any _ _ _ _ _ _).mono ?_; rintro e w8 ⟨rfl, hb8⟩; have s8 := s4_call (by with_reducible assumption) hb8; have b9 := s8.2.2))
            go_wp2_with fail
            go_ret
            exact ⟨ret_bool HF.out.symm, b9⟩
          · have HF : Hid (mayU u = false) := by
              show _ = _
              cases hm : mayU u with
              | false => rfl
              | true => exact absurd (HMR.out.1 hm).2.2 e2
            have q2 := toList_ne e2
            subst e1
            skip
            go_wp2_with fail
            go_region_held3 (fun W => BoxU W w.heap.size (.string u.1) (.string u.2.1) (.slice A u.2.2.length cap) ∧ BoxU W k (.string (u.1)) (.string (p')) (.slice A4 l'.length cp4) ∧ Below w.heap.size w W)
              (first | with_reducible assumption | exact s4_call ⟨HX5.out, HR5.out, HB5.out⟩ (Below.drew (Below.refl _ _)) | exact ⟨HX5.out, HR5.out, HB5.out⟩)
              (first
                | (go_at_call 36; refine (uat_any _ _ _ _ _ _).mono ?_; rintro e w8 ⟨rfl, hb8⟩; have s8 := s4_call (by with_reducible assumption) hb8; have b9 := s8.2.2))
            go_wp2_with fail
            go_ret
            exact ⟨ret_bool HF.out.symm, b9⟩
        · have HF : Hid (mayU u = false) := by
            show _ = _
            cases hm : mayU u with
            | false => rfl
            | true => exact absurd (HMR.out.1 hm).2.1 e1
          have q1 := toList_ne e1
          · skip
            skip
            go_wp2_with fail
            go_region_held3 (fun W => BoxU W w.heap.size (.string u.1) (.string u.2.1) (.slice A u.2.2.length cap) ∧ BoxU W k (.string (h')) (.string (p')) (.slice A4 l'.length cp4) ∧ Below w.heap.size w W)
              (first | with_reducible assumption | exact s4_call ⟨HX5.out, HR5.out, HB5.out⟩ (Below.drew (Below.refl _ _)) | exact ⟨HX5.out, HR5.out, HB5.out⟩)
              (first
                | (go_at_call 36; refine (uat_any _ _ _ _ _ _).mono ?_; rintro e w8 ⟨rfl, hb8⟩; have s8 := s4_call (by with_reducible assumption) hb8; have b9 := s8.2.2))
            go_wp2_with fail
            go_ret
            exact ⟨ret_bool HF.out.symm, b9⟩
      · have hn' : (n == 0) = false := by simpa using hn
        have HF : Hid (mayU u = false) := by
          show _ = _
          cases hm : mayU u with
          | false => rfl
          | true => exact absurd (HMR.out.1 hm).1 hn
        go_wp2_with fail
        go_quiet (fail)
        go_wp2_with fail
        go_ret
        exact ⟨ret_bool HF.out.symm, below_drewN HB5.out _⟩
    · have S5 := (by with_reducible assumption : BoxU _ w.heap.size (.string u.1) (.string u.2.1) (.slice A u.2.2.length cap) ∧ Below w.heap.size w _)
      have R5 := N4.put (.string h') (.string p') (.slice A4 l'.length cp4)
      generalize ((w4.setCell ⟨w2.heap.size, 0, none⟩ (.string h')).setCell ⟨w2.heap.size, 1, none⟩ (.string p')).setCell ⟨w2.heap.size, 2, none⟩ (.slice A4 l'.length cp4) = w5 at R5 S5 ⊢
      clear t0 t1 t2 g0 g1 g2 tl N4 N3 N3'
      generalize w2.heap.size = k at R5 ⊢
      obtain ⟨X5, b5⟩ := S5
      have HX5 : Hid (BoxU w5 w.heap.size (.string u.1) (.string u.2.1) (.slice A u.2.2.length cap)) := X5
      have HR5 : Hid (BoxU w5 k (.string h') (.string p') (.slice A4 l'.length cp4)) := R5
      have HB5 : Hid (Below w.heap.size w w5) := b5
      have HMR : Hid (mayU u = true ↔ n = 0 ∧ h' = u.1 ∧ p' = u.2.1) := hmr
      clear hmr kp ktgt X5 R5 b5 N0
      by_cases hn : n = 0
      · have hn' : (n == 0) = true := by simpa using hn
        subst hn
        by_cases e1 : h' = u.1
        · by_cases e2 : p' = u.2.1
          · have HF : Hid (mayU u = true) := HMR.out.2 ⟨rfl, e1, e2⟩
            subst e1 e2
            skip
            go_wp2_with fail
            go_region_held3 (fun W => BoxU W w.heap.size (.string u.1) (.string u.2.1) (.slice A u.2.2.length cap) ∧ BoxU W k (.string (u.1)) (.string (u.2.1)) (.slice A4 l'.length cp4) ∧ Below w.heap.size w W)
              (first | with_reducible assumption | exact s4_call ⟨HX5.out, HR5.out, HB5.out⟩ (Below.drew (Below.refl _ _)) | exact ⟨HX5.out, HR5.out, HB5.out⟩)
              (first
                | (go_at_call 36; refine (uat_any _ _ _ _ _ _).mono ?_; rintro e w8 ⟨rfl, hb8⟩; have s8 := s4_call (by with_reducible assumption) hb8; have b9 := s8.2.2))
            go_wp2_with fail
            go_ret
            exact ⟨ret_bool HF.out.symm, b9⟩
          · have HF : Hid (mayU u = false) := by
              show _ = _
              cases hm : mayU u with
              | false => rfl
              | true => exact absurd (HMR.out.1 hm).2.2 e2
            have q2 := toList_ne e2
            subst e1
            skip
            go_wp2_with fail
            go_region_held3 (fun W => BoxU W w.heap.size (.string u.1) (.string u.2.1) (.slice A u.2.2.length cap) ∧ BoxU W k (.string (u.1)) (.string (p')) (.slice A4 l'.length cp4) ∧ Below w.heap.size w W)
              (first | with_reducible assumption | exact s4_call ⟨HX5.out, HR5.out, HB5.out⟩ (Below.drew (Below.refl _ _)) | exact ⟨HX5.out, HR5.out, HB5.out⟩)
              (first
                | (go_at_call 36; refine (uat_any _ _ _ _ _ _).mono ?_; rintro e w8 ⟨rfl, hb8⟩; have s8 := s4_call (by with_reducible assumption) hb8; have b9 := s8.2.2))
            go_wp2_with fail
            go_ret
            exact ⟨ret_bool HF.out.symm, b9⟩
        · have HF : Hid (mayU u = false) := by
            show _ = _
            cases hm : mayU u with
            | false => rfl
            | true => exact absurd (HMR.out.1 hm).2.1 e1
          have q1 := toList_ne e1
          · skip
            skip
            go_wp2_with fail
            go_region_held3 (fun W => BoxU W w.heap.size (.string u.1) (.string u.2.1) (.slice A u.2.2.length cap) ∧ BoxU W k (.string (h')) (.string (p')) (.slice A4 l'.length cp4) ∧ Below w.heap.size w W)
              (first | with_reducible assumption | exact s4_call ⟨HX5.out, HR5.out, HB5.out⟩ (Below.drew (Below.refl _ _)) | exact ⟨HX5.out, HR5.out, HB5.out⟩)
              (first
                | (go_at_call 36; refine (uat_any _ _ _ _ _ _).mono ?_; rintro e w8 ⟨rfl, hb8⟩; have s8 := s4_call (by with_reducible assumption) hb8; have b9 := s8.2.2))
            go_wp2_with fail
            go_ret
            exact ⟨ret_bool HF.out.symm, b9⟩
      · have hn' : (n == 0) = false := by simpa using hn
        have HF : Hid (mayU u = false) := by
          show _ = _
          cases hm : mayU u with
          | false => rfl
          | true => exact absurd (HMR.out.1 hm).1 hn
        go_wp2_with fail
        go_quiet (fail)
        go_wp2_with fail
        go_ret
        exact ⟨ret_bool HF.out.symm, below_drewN HB5.out _⟩

end Go.Proofs.YtfoeeocejcbmlaaGreatDoor
