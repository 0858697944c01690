import Derived.Test.YtfoadbnllcfieaaC10
import Derived.Test.YtfoadbnllcfieaaW20
namespace Go.Proofs.Ytfoadbnllcfieaa
open Go.RowKit
set_option linter.unusedVariables false
set_option linter.unusedSimpArgs false

theorem NumsAt.below2 {w w' : World} {B : Nat} {ns : List Int} {LA : Option Addr} (h : NumsAt w B ns LA) (hb : Below B w w') : NumsAt w' B ns LA := by
  rcases h with h | ⟨lb, lo, e, hl, hc⟩
  · exact .inl h
  · exact .inr ⟨lb, lo, e, hl, fun i hi => by rw [hb.cell (by simpa using hl)]; exact hc i hi⟩

/-- A row of bytes that is there for good, as a value, and as a string. -/
structure Lasts (w : World) (u : Value) (xs : List UInt8) : Prop where
  val : ∃ A cap, u = .slice A xs.length cap ∧ xs.length ≤ cap ∧ cap ≤ maxLen ∧ ByAt w w.heap.size A xs

theorem Lasts.later {w w' : World} {u : Value} {xs : List UInt8} (h : Lasts w u xs) (hb : Below w.heap.size w w') : Lasts w' u xs := by
  obtain ⟨A, cap, h1, h2, h3, h4⟩ := h.val
  exact ⟨A, cap, h1, h2, h3, h4.keep hb.size (fun b o hlt => hb.cell hlt)⟩
theorem Lasts.conv {w : World} {u : Value} {xs : List UInt8} (h : Lasts w u xs) : (convert 33 9 u).run Try.prog w = .ok (.string ⟨xs.toArray⟩) w := by
  obtain ⟨A, cap, rfl, h2, h3, h4⟩ := h.val
  exact conv_bytes w _ A xs cap h4
theorem OwnB.lasts {w : World} {B : Nat} {u : Value} {xs : List UInt8} (h : OwnB w B u xs) : Lasts w u xs := by
  obtain ⟨A, cap, h1, h2, h3, h4, _⟩ := h.at
  exact ⟨A, cap, h1, h3, h4, h2⟩

theorem bytes_eq (xs ys : List UInt8) : ((⟨xs.toArray⟩ : ByteArray).toList == (⟨ys.toArray⟩ : ByteArray).toList) = decide (xs = ys) := by
  rw [ByteArray.toList_eq, ByteArray.toList_eq]
  by_cases h : xs = ys
  · simp [h]
  · simp [h]

set_option maxRecDepth 100000 in
set_option maxHeartbeats 4000000 in
theorem codeApart_any (w : World) (ns ms : List Int) (LA LB : Option Addr) (ca cb : Nat) (hns : NumsAt w w.heap.size ns LA) (hnf : NumsFit ns) (hms : NumsAt w w.heap.size ms LB) (hmf : NumsFit ms) :
    Calls Try.prog 7 #[.slice LA ns.length ca, .slice LB ms.length cb] w fun e w' => e = .returned (.bool true) ∧ Below w.heap.size w w' := by
  go_enter Try.func7, Try.ntmps7
  go_wp2_with fail
  refine (known2_any _).mono ?_
  rintro e w1 ⟨rfl, ho1⟩
  go_wp2_with fail
  refine (one_any ns LA ca w.heap.size w1 ho1.size (hns.below2 ho1) hnf).mono ?_
  rintro e w2 ⟨va, rfl, ho2, hra⟩
  have hb2 : Below w.heap.size w w2 := ho1.trans (ho2.mono ho1.size)
  have hma := one_may ns
  generalize hT0 : tapeT ns 4 0 = T at *
  clear hT0
  obtain ⟨⟨a, l⟩, k3⟩ := T
  simp only at hra hma
  obtain ⟨hfa, A1, cap1, b1, o1, rfl, hn1, hA1, hl1⟩ := hra
  have HA1 : Hid (flen l = 0 ∨ A1 = some ⟨b1, o1, none⟩) := hA1
  have HMA : Hid (may a l = true) := hma
  clear hA1 hma
  go_wp2_with fail
  refine (one_any ms LB cb w.heap.size w2 hb2.size (hms.below2 hb2) hmf).mono ?_
  rintro e w3 ⟨vb, rfl, ho3, hrb⟩
  have hb3 : Below w.heap.size w w3 := hb2.trans (ho3.mono hb2.size)
  have hmb := one_may ms
  generalize hT0 : tapeT ms 4 0 = T at *
  clear hT0
  obtain ⟨⟨b, m⟩, k4⟩ := T
  simp only at hrb hmb
  obtain ⟨hfb, A2, cap2, b2, o2, rfl, hn2, hA2, hl2⟩ := hrb
  have HA2 : Hid (flen m = 0 ∨ A2 = some ⟨b2, o2, none⟩) := hA2
  have HMB : Hid (may b m = true) := hmb
  clear hA2 hmb
  have hs3 := ho3.size
  obtain ⟨W, hW⟩ : ∃ W : World, W = (w3.alloc (.cells #[.int .i64 a.kind, .int .i64 a.n, .string a.s, .slice A1 (flen l) cap1] 30)).alloc (.cells #[.int .i64 b.kind, .int .i64 b.n, .string b.s, .slice A2 (flen m) cap2] 30) := ⟨_, rfl⟩
  have hWs : W.heap.size = w3.heap.size + 2 := by rw [hW]; simp
  have hbW : Below w.heap.size w W := by rw [hW]; exact (hb3.alloc hb3.size _).alloc (by have := hb3.size; simp; omega) _
  have E1 : Hid (∀ w', Below W.heap.size W w' → Box4 w' w3.heap.size (.int .i64 a.kind) (.int .i64 a.n) (.string a.s) (.slice A1 (flen l) cap1)) := fun w' hb => Box4.below (w := W) (by rw [hW]; exact (Box4.new w3 _ _ _ _ _).alloc _) hb
  have E2 : Hid (∀ w', Below W.heap.size W w' → Box4 w' (w3.heap.size + 1) (.int .i64 b.kind) (.int .i64 b.n) (.string b.s) (.slice A2 (flen m) cap2)) := fun w' hb => Box4.below (w := W) (by rw [hW]; have := Box4.new (w3.alloc (.cells #[.int .i64 a.kind, .int .i64 a.n, .string a.s, .slice A1 (flen l) cap1] 30)) (.int .i64 b.kind) (.int .i64 b.n) (.string b.s) (.slice A2 (flen m) cap2) 30; simpa using this) hb
  have R1 : Hid (∀ w', Below W.heap.size W w' → RepV w' w3.heap.size a l (.agg #[.int .i64 a.kind, .int .i64 a.n, .string a.s, .slice A1 (flen l) cap1])) := fun w' hb =>
    ⟨hfa, A1, cap1, b1, o1, rfl, hn1, HA1.out, RepF.keep (B := w2.heap.size) hs3 (fun q o h => by rw [hb.cell (by simp; omega), hW, World.cell?_alloc_past _ _ _ (by simp; omega), World.cell?_alloc_past _ _ _ (by omega)]; exact ho3.cell h) (RepG.toF (fun _ h => h.2) hl1)⟩
  have R2 : Hid (∀ w', Below W.heap.size W w' → RepV w' w3.heap.size b m (.agg #[.int .i64 b.kind, .int .i64 b.n, .string b.s, .slice A2 (flen m) cap2])) := fun w' hb =>
    ⟨hfb, A2, cap2, b2, o2, rfl, hn2, HA2.out, RepF.keep (B := w3.heap.size) (Nat.le_refl _) (fun q o h => by rw [hb.cell (by simp; omega), hW, World.cell?_alloc_past _ _ _ (by simp; omega), World.cell?_alloc_past _ _ _ (by omega)]) (RepG.toF (fun _ h => h.2) hl2)⟩
  have C1 : Hid (∀ w', Below W.heap.size W w' → Calls Try.prog 18 #[.agg #[.int .i64 a.kind, .int .i64 a.n, .string a.s, .slice A1 (flen l) cap1]] w' fun e w'' => ∃ u, e = .returned u ∧ Below w'.heap.size w' w'' ∧ Below W.heap.size W w'' ∧ Lasts w'' u (putT a l)) := fun w' hb => (codePut_any a l _ w' (RepV.keep (by have := hb.size; omega) (fun _ _ _ => rfl) (R1.out w' hb))).mono (fun e w'' h => by
    obtain ⟨u, h1, h2, h3⟩ := h
    rw [putB, if_pos HMA.out] at h2
    exact ⟨u, h1, h3, hb.trans (h3.mono hb.size), h2.lasts⟩)
  have C2 : Hid (∀ w', Below W.heap.size W w' → Calls Try.prog 18 #[.agg #[.int .i64 b.kind, .int .i64 b.n, .string b.s, .slice A2 (flen m) cap2]] w' fun e w'' => ∃ u, e = .returned u ∧ Below w'.heap.size w' w'' ∧ Below W.heap.size W w'' ∧ Lasts w'' u (putT b m)) := fun w' hb => (codePut_any b m _ w' (RepV.keep (by have := hb.size; omega) (fun _ _ _ => rfl) (R2.out w' hb))).mono (fun e w'' h => by
    obtain ⟨u, h1, h2, h3⟩ := h
    rw [putB, if_pos HMB.out] at h2
    exact ⟨u, h1, h3, hb.trans (h3.mono hb.size), h2.lasts⟩)
  obtain ⟨sm, hsm⟩ : ∃ sm : Bool, sm = (ordT a l b m == 0) := ⟨_, rfl⟩
  have C3 : Hid (∀ w', Below W.heap.size W w' → Calls Try.prog 25 #[.agg #[.int .i64 a.kind, .int .i64 a.n, .string a.s, .slice A1 (flen l) cap1], .agg #[.int .i64 b.kind, .int .i64 b.n, .string b.s, .slice A2 (flen m) cap2]] w' fun e w'' => e = .returned (.bool sm) ∧ Below w'.heap.size w' w'' ∧ Below W.heap.size W w'') := fun w' hb =>
    (refSame_any a l b m _ _ w3.heap.size w' (R1.out w' hb) (R2.out w' hb) (by have := hb.size; omega) (may_ar a l HMA.out).1 (may_ar b m HMB.out).1 (may_ar a l HMA.out).2 (may_ar b m HMB.out).2).mono (fun e w'' h => ⟨by rw [h.1, hsm], h.2, hb.trans (h.2.mono hb.size)⟩)
  have HS1 : Hid (decide (putT a l = putT b m) = sm) := by
    show decide (putT a l = putT b m) = sm
    rw [hsm]
    by_cases h : ordT a l b m = 0
    · rw [h]; simp [put_same h]
    · have : putT a l ≠ putT b m := fun e => h (put_front HMA.out HMB.out [] (by rw [List.append_nil]; exact e.symm))
      simp [this, h]
  have HS2 : Hid ((putT a l).length ≤ (putT b m).length → decide ((putT b m).take (putT a l).length = putT a l) = sm) := by
    intro hle
    rw [hsm]
    by_cases h : ordT a l b m = 0
    · rw [h, ← put_same h]; simp
    · have : (putT b m).take (putT a l).length ≠ putT a l := fun e => h (put_front HMA.out HMB.out ((putT b m).drop (putT a l).length) (by
        have := List.take_append_drop (putT a l).length (putT b m); rw [e] at this; exact this.symm))
      simp [this, h]
  have HS3 : Hid (¬ (putT a l).length ≤ (putT b m).length → sm = false) := by
    intro hle
    rw [hsm]
    by_cases h : ordT a l b m = 0
    · exact absurd (by rw [put_same h]; omega) hle
    · simp [h]
  have hpa := put_pos a l
  have hpb := put_pos b m
  have hga := (may_gd HMA.out).2.2
  have hgb := (may_gd HMB.out).2.2
  clear R1 R2 hsm hl1 hl2
  go_wp2_with fail
  rw [← hW]
  clear hW hWs
  generalize putT a l = x at *
  generalize putT b m = y at *
  have hN : ∀ n, Below W.heap.size W (W.drewN n) := fun n => below_drewN (Below.refl _ _) n
  go_region_held3 (fun w' => Box4 w' w3.heap.size (.int .i64 a.kind) (.int .i64 a.n) (.string a.s) (.slice A1 (flen l) cap1) ∧ Box4 w' (w3.heap.size + 1) (.int .i64 b.kind) (.int .i64 b.n) (.string b.s) (.slice A2 (flen m) cap2) ∧ Below W.heap.size W w')
    (first | exact ⟨E1.out _ (Below.drew (Below.refl _ _)), E2.out _ (Below.drew (Below.refl _ _)), Below.drew (Below.refl _ _)⟩ | exact ⟨E1.out _ (by assumption), E2.out _ (by assumption), (by assumption)⟩ | assumption)
    (first
      | (go_at_call_of 18 (Value.slice A2 (flen m) cap2); refine (C2.out _ ?_).mono ?_; exact (And.right (And.right (by assumption))); rintro e wb ⟨ub, rfl, hob, hwb, hLb⟩)
      | (go_at_call_of 18 (Value.slice A1 (flen l) cap1); refine (C1.out _ ?_).mono ?_; exact (And.right (And.right (by assumption))); rintro e wa ⟨ua, rfl, hoa, hwa, hLa⟩))
  have hLa2 := hLa.later hob
  obtain ⟨Aa, ka, rfl, ha1, ha2, ha3⟩ := hLa2.val
  obtain ⟨Ab, kb, rfl, hb1, hb2', hb3'⟩ := hLb.val
  obtain ⟨sx, hsx⟩ : ∃ sx : ByteArray, sx = ⟨x.toArray⟩ := ⟨_, rfl⟩
  obtain ⟨sy, hsy⟩ : ∃ sy : ByteArray, sy = ⟨y.toArray⟩ := ⟨_, rfl⟩
  obtain ⟨stt, hstt⟩ : ∃ sy : ByteArray, sy = ⟨(y.take x.length).toArray⟩ := ⟨_, rfl⟩
  have D1 : Hid (∀ w', Below wb.heap.size wb w' → Box4 w' w3.heap.size (.int .i64 a.kind) (.int .i64 a.n) (.string a.s) (.slice A1 (flen l) cap1)) := fun w' hb => E1.out _ (hwb.trans (hb.mono hwb.size))
  have D2 : Hid (∀ w', Below wb.heap.size wb w' → Box4 w' (w3.heap.size + 1) (.int .i64 b.kind) (.int .i64 b.n) (.string b.s) (.slice A2 (flen m) cap2)) := fun w' hb => E2.out _ (hwb.trans (hb.mono hwb.size))
  have D3 : Hid (∀ w', Below wb.heap.size wb w' → (convert 33 9 (.slice Aa x.length ka)).run Try.prog w' = .ok (.string sx) w') := fun w' hb => by rw [hsx]; exact (hLa2.later hb).conv
  have D4 : Hid (∀ w', Below wb.heap.size wb w' → (convert 33 9 (.slice Ab y.length kb)).run Try.prog w' = .ok (.string sy) w') := fun w' hb => by rw [hsy]; exact (hLb.later hb).conv
  have D5 : Hid (x.length ≤ y.length → ∀ w', Below wb.heap.size wb w' → (convert 33 9 (.slice Ab x.length kb)).run Try.prog w' = .ok (.string stt) w') := fun hle w' hb => by
    rw [hstt]
    have h := conv_bytes w' wb.heap.size Ab (y.take x.length) kb ((hb3'.take _).below hb)
    rw [List.length_take, Nat.min_eq_left hle] at h
    exact h
  have C4 : Hid (∀ w', Below wb.heap.size wb w' → Calls Try.prog 25 #[.agg #[.int .i64 a.kind, .int .i64 a.n, .string a.s, .slice A1 (flen l) cap1], .agg #[.int .i64 b.kind, .int .i64 b.n, .string b.s, .slice A2 (flen m) cap2]] w' fun e w'' => e = .returned (.bool sm) ∧ Below wb.heap.size wb w'') := fun w' hb => (C3.out w' (hwb.trans (hb.mono hwb.size))).mono (fun e w'' h => ⟨h.1, hb.trans (h.2.1.mono hb.size)⟩)
  have q1 : (sx.toList == sy.toList) = sm := by rw [hsx, hsy, bytes_eq]; exact HS1.out
  have q2 : Hid (x.length ≤ y.length → (stt.toList == sx.toList) = sm) := fun hle => by rw [hstt, hsx, bytes_eq]; exact HS2.out hle
  have hbb : Below w.heap.size w wb := hbW.trans (hwb.mono hbW.size)
  have hpos : decide ((0 : Int) < (x.length : Int)) = true := by simp; omega
  have hself : Below wb.heap.size wb wb := Below.refl _ _
  unfold maxLen at ha2 hb2'
  clear hLa hLa2 hLb ha3 hb3' hsx hsy hstt C1 C2 C3 E1 E2 HS1 HS2 hoa hwa hob
  by_cases hle : x.length ≤ y.length
  · have q3 := q2.out hle
    have hd : decide ((x.length : Int) ≤ (y.length : Int)) = true := by simp; omega
    have hx0 : (0 : Int) ≤ (x.length : Int) := by omega
    have hxk : (x.length : Int) ≤ (kb : Int) := by omega
    have D6 : Hid (∀ w', Below wb.heap.size wb w' → (convert 33 9 (.slice Ab x.length kb)).run Try.prog w' = .ok (.string stt) w') := D5.out hle
    go_wp2_with fail
    go_region_held3 (fun w' => ((convert 33 9 (.slice Aa x.length ka)).run Try.prog w' = .ok (.string sx) w') ∧ ((convert 33 9 (.slice Ab x.length kb)).run Try.prog w' = .ok (.string stt) w') ∧ Below wb.heap.size wb w')
      (first | exact ⟨D3.out _ (by assumption), D6.out _ (by assumption), (by assumption)⟩ | exact ⟨D3.out _ (Below.drew (by assumption)), D6.out _ (Below.drew (by assumption)), Below.drew (by assumption)⟩)
      (fail)
    have hself2 : Below wb.heap.size wb wb.drew := Below.drew (Below.refl _ _)
    go_wp2_with fail
    go_region_held3 (fun w' => Box4 w' w3.heap.size (.int .i64 a.kind) (.int .i64 a.n) (.string a.s) (.slice A1 (flen l) cap1) ∧ Box4 w' (w3.heap.size + 1) (.int .i64 b.kind) (.int .i64 b.n) (.string b.s) (.slice A2 (flen m) cap2) ∧ ((convert 33 9 (.slice Aa x.length ka)).run Try.prog w' = .ok (.string sx) w') ∧ ((convert 33 9 (.slice Ab y.length kb)).run Try.prog w' = .ok (.string sy) w') ∧ Below wb.heap.size wb w')
      (first | exact ⟨D1.out _ (by assumption), D2.out _ (by assumption), D3.out _ (by assumption), D4.out _ (by assumption), (by assumption)⟩ | exact ⟨D1.out _ (Below.drew (by assumption)), D2.out _ (Below.drew (by assumption)), D3.out _ (Below.drew (by assumption)), D4.out _ (Below.drew (by assumption)), Below.drew (by assumption)⟩)
      (first | (go_at_call 25; refine (C4.out _ ?_).mono ?_; exact (And.right (And.right (And.right (And.right (by assumption))))); rintro e w8 ⟨rfl, ho8⟩))
    all_goals go_wp2_with fail
    all_goals go_ret
    all_goals exact ⟨ret_bool (by simp), hbb.trans (Below.mono (by assumption) hbb.size)⟩
  · have hsm : sm = false := HS3.out hle
    subst hsm
    have hd : decide ((x.length : Int) ≤ (y.length : Int)) = false := by simp; omega
    go_wp2_with fail
    go_quiet (fail)
    have hself2 : Below wb.heap.size wb (wb.drewN nq) := below_drewN (Below.refl _ _) _
    go_wp2_with fail
    go_region_held3 (fun w' => Box4 w' w3.heap.size (.int .i64 a.kind) (.int .i64 a.n) (.string a.s) (.slice A1 (flen l) cap1) ∧ Box4 w' (w3.heap.size + 1) (.int .i64 b.kind) (.int .i64 b.n) (.string b.s) (.slice A2 (flen m) cap2) ∧ ((convert 33 9 (.slice Aa x.length ka)).run Try.prog w' = .ok (.string sx) w') ∧ ((convert 33 9 (.slice Ab y.length kb)).run Try.prog w' = .ok (.string sy) w') ∧ Below wb.heap.size wb w')
      (first | exact ⟨D1.out _ (by assumption), D2.out _ (by assumption), D3.out _ (by assumption), D4.out _ (by assumption), (by assumption)⟩ | exact ⟨D1.out _ (Below.drew (by assumption)), D2.out _ (Below.drew (by assumption)), D3.out _ (Below.drew (by assumption)), D4.out _ (Below.drew (by assumption)), Below.drew (by assumption)⟩)
      (first | (go_at_call 25; refine (C4.out _ ?_).mono ?_; exact (And.right (And.right (And.right (And.right (by assumption))))); rintro e w8 ⟨rfl, ho8⟩))
    all_goals go_wp2_with fail
    all_goals go_ret
    all_goals exact ⟨ret_bool (by simp), hbb.trans (Below.mono (by assumption) hbb.size)⟩

end Go.Proofs.Ytfoadbnllcfieaa
