import Derived.Test.YtooffmmfacdjeaaC20
import Derived.Test.YtooffmmfacdjeaaC10
import Derived.Laws.BitsAllLaws
namespace Go.Proofs.Ytooffmmfacdjeaa
open Go.RowKit
set_option linter.unusedVariables false
set_option linter.unusedSimpArgs false

/-- A row of bytes in which one is turned. -/
theorem turned {w : World} {g cap : Nat} {xs : List UInt8} {k : Nat} (h : Stays w (some ⟨g, 0, none⟩) cap xs) (hx : 0 < xs.length) (hk : k < xs.length) (x0 : UInt8) (by' : Int) (h0 : 0 ≤ by') (h1 : by' < 256) :
    ∃ ys : List UInt8, ys.length = xs.length ∧ Stays (w.setCell ⟨g, k, none⟩ (.int .u8 (bits .xor .u8 (x0.toNat : Int) by'))) (some ⟨g, 0, none⟩) cap ys := by
  obtain ⟨ha, hl, hm⟩ := h
  rcases ha with ha | ⟨b, o, e, hb, hc⟩
  · rw [ha] at hx; simp at hx
  · injection e with e
    injection e with e1 e2
    subst e1 e2
    have hz := x0.toNat_lt
    have hxor : x0.toNat ^^^ by'.toNat < 256 := Nat.xor_lt_two_pow (n := 8) (by omega) (by omega)
    refine ⟨xs.set k (UInt8.ofNat (x0.toNat ^^^ by'.toNat)), by simp, .inr ⟨g, 0, rfl, by simpa [World.setCell] using hb, fun i hi => ?_⟩, by simpa using hl, hm⟩
    rw [List.length_set] at hi
    by_cases hik : i = k
    · subst hik
      rw [Nat.zero_add, World.cell?_setCell_same _ _ _ (by have := hc i hi; rw [Nat.zero_add] at this; exact this), u8_xor _ _ (by omega) (by omega) h0 h1]
      simp only [List.getD, List.getElem?_set_self hi, Option.getD_some, Int.toNat_natCast]
      rw [UInt8.toNat_ofNat']
      congr 2
      omega
    · rw [World.cell?_setCell_other _ _ _ _ (by intro e; injection e with _ e; omega), hc i hi]
      simp [List.getD, List.getElem?_set_ne (Ne.symm hik)]

theorem rem_case (x : Int) (n : Nat) (h : 0 < n) (hm : n ≤ 9223372036854775807) : (decide (x.tmod (n : Int) < 0) = true ∧ ∃ k : Nat, k < n ∧ Value.int .i64 (wrap64 (x.tmod (n : Int) + (n : Int))) = .int .i64 (k : Int)) ∨ (∃ k : Nat, k < n ∧ Value.int .i64 (x.tmod (n : Int)) = .int .i64 (k : Int)) := by
  have l1 := Int.lt_tmod_of_pos x (show (0 : Int) < (n : Int) by omega)
  have l2 := Int.tmod_lt_of_pos x (show (0 : Int) < (n : Int) by omega)
  generalize x.tmod (n : Int) = q at *
  by_cases hq : q < 0
  · exact .inl ⟨decide_eq_true hq, (q + (n : Int)).toNat, by omega, by congr 1; unfold wrap64; omega⟩
  · exact .inr ⟨q.toNat, by omega, by congr 1; omega⟩

/-- The four readings of one row of bytes. -/
structure Reads (w : World) (A : Option Addr) (cap : Nat) (bs : List UInt8) : Prop where
  st : Stays w A cap bs
  len : bs.length ≤ 100000

set_option maxRecDepth 100000 in
set_option maxHeartbeats 4000000 in
theorem codeTake_any (w : World) (A : Option Addr) (cap : Nat) (b : List UInt8) (hy : ByAt w w.heap.size A b) (hl : b.length ≤ cap) (hc : cap ≤ maxLen) (ns : List Int) (LA : Option Addr) (ca : Nat) (hns : NumsAt w w.heap.size ns LA) (hnf : NumsFit ns)
    (at' : Int) (ha1 : -9223372036854775808 ≤ at') (ha2 : at' ≤ 9223372036854775807) (by' : Int) (hb1 : 0 ≤ by') (hb2 : by' ≤ 255) (A2 : Option Addr) (cap2 : Nat) (ys : List UInt8) (hy2 : ByAt w w.heap.size A2 ys) (hl2 : ys.length ≤ cap2) (hc2 : cap2 ≤ maxLen) :
    Calls Try.prog 4 #[.slice A b.length cap, .slice LA ns.length ca, .int .i64 at', .int .u8 by', .slice A2 ys.length cap2] w fun e w' => e = .returned (.bool true) ∧ Below w.heap.size w w' := by
  have hm : b.length ≤ 9223372036854775807 := by unfold maxLen at hc; omega
  have hm2 : ys.length ≤ 9223372036854775807 := by unfold maxLen at hc2; omega
  have HSB : Hid (Stays w A cap b) := ⟨hy, hl, hc⟩
  have HSY : Hid (Stays w A2 cap2 ys) := ⟨hy2, hl2, hc2⟩
  obtain ⟨i5, hi, hz0, hz1, hz2⟩ := info_has Try.infoByte
  clear hy hy2
  go_enter Try.func4, Try.ntmps4
  go_wp2_with fail
  refine (known2_any _).mono ?_
  rintro e w1 ⟨rfl, ho1⟩
  by_cases h600 : 600 < b.length
  · go_wp2_with fail
    go_ret
    exact ⟨rfl, ho1⟩
  by_cases h50 : 50 < ys.length
  · go_wp2_with fail
    go_ret
    exact ⟨rfl, ho1⟩
  go_wp2_with fail
  refine (one_any ns LA ca w.heap.size w1 ho1.size (hns.below3 ho1) hnf).mono ?_
  rintro e w2 ⟨va, rfl, ho2, hra⟩
  have hb2' : Below w.heap.size w w2 := ho1.trans (ho2.mono ho1.size)
  have hma := one_may ns
  generalize hT0 : tapeT ns 4 0 = T at *
  clear hT0
  obtain ⟨⟨a, l⟩, k3⟩ := T
  simp only at hra hma
  have hrv : RepV w2 w2.heap.size a l va := RepVG.toV (fun _ h => h.2) hra
  have HMA : Hid (may a l = true) := hma
  clear hra hma hns hnf
  go_wp2_with fail
  refine (refPut_any a l _ w2 hrv).mono ?_
  rintro e w3 ⟨u, rfl, hown, ho3⟩
  rw [putB, if_pos HMA.out] at hown
  have hpa := put_pos a l
  have hga := (may_gd HMA.out).2.2
  generalize putT a l = x at *
  have hb3 : Below w.heap.size w w3 := hb2'.trans (ho3.mono hb2'.size)
  have HY3 : Hid (Stays w3 A2 cap2 ys) := HSY.out.later hb3
  have HOW : Hid (OwnB w3 w2.heap.size u x) := hown
  clear hown HMA hrv
  go_wp2_with (at_builtin; refine wpList_append_any _ rfl _ _ 32 rfl w2.heap.size 5 i5 (.int .u8 0) 1 1 Try.underlying32 hi hz0 hz1 hz2 rfl (by decide) u x.length (Lib.byteCells x) rfl HOW.out A2 ys.length cap2 (Lib.byteCells ys) rfl HY3.out.src ?c3 ?c4 ?c5 ?_)
  case c3 => unfold maxLen; omega
  case c4 => omega
  case c5 => exact ho3.size
  intro v4 w4 hown4 hgrow4 hat4
  have ho4 : OwnB w4 w2.heap.size v4 (x ++ ys) := by
    have := hown4
    rw [byteCells_append] at this
    show World.ownsRow _ _ _ _ _ _ _
    rw [List.length_append]; exact this
  have hb4 : Below w.heap.size w w4 := hb3.trans (grown_below hgrow4 (fun q hq => by have := (HOW.out.base q hq).1; have := hb2'.size; omega) hb3.size)
  have hzl : 0 < (x ++ ys).length ∧ (x ++ ys).length ≤ 70050 := by rw [List.length_append]; omega
  generalize x ++ ys = z at *
  have hst4 := ho4.stays
  obtain ⟨A4, cap4, rfl, hA4, hl4, hc4⟩ := ho4.value
  obtain ⟨g, rfl, hg1, hg2⟩ : ∃ g, A4 = some ⟨g, 0, none⟩ ∧ w2.heap.size ≤ g ∧ g < w4.heap.size := by rcases hA4 with h | h; omega; exact h
  have hS4 : Stays w4 (some ⟨g, 0, none⟩) cap4 z := by
    obtain ⟨A', cap', e, h⟩ := hst4
    injection e with e1 e2 e3
    subst e1 e3
    exact h
  have HS4 : Hid (Stays w4 (some ⟨g, 0, none⟩) cap4 z) := hS4
  have hfr : ∀ k, w4.frozen? ⟨g, k, none⟩ = false := fun k => World.ownsRow.frozenAt ho4 k
  have hce : ∀ k, k < z.length → w4.cell? ⟨g, k, none⟩ = some (.int .u8 ((z.getD k 0).toNat : Int)) := fun k hk => by
    rcases hS4.at' with h | ⟨b', o', e, _, h⟩
    · rw [h] at hk; simp at hk
    · injection e with e; injection e with e1 e2; subst e1 e2
      have := h k hk; rwa [Nat.zero_add] at this
  have HFR : Hid (∀ k, w4.frozen? ⟨g, k, none⟩ = false) := hfr
  have HCE : Hid (∀ k, k < z.length → w4.cell? ⟨g, k, none⟩ = some (.int .u8 ((z.getD k 0).toNat : Int))) := hce
  have hgw : w.heap.size ≤ g := by have := hb2'.size; omega
  clear hst4 hS4 hfr hce hA4 ho4 hown4 hgrow4 hat4 HOW HY3 HSY
  have hzn : ((z.length : Int) == 0) = false := by rw [beq_eq_false_iff_ne]; omega
  have hrem := rem_case at' z.length hzl.1 (by omega)
  rcases hrem with hr | hr
  · obtain ⟨hq, k, hkz, hk⟩ := hr
    have c5 := HCE.out k hkz
    have f5 := HFR.out k
    have hk0 : (0 : Int) ≤ (k : Int) := by omega
    have hk1 : (k : Int) < (z.length : Int) := by omega
    generalize z.getD k 0 = zk at *
    go_wp2_with fail
    obtain ⟨zs, hzs, hSZ⟩ := turned HS4.out hzl.1 hkz zk by' hb1 (by omega)
    obtain ⟨w6, hw6⟩ : ∃ W : World, W = (w4.setCell ⟨g, k, none⟩ (.int .u8 (bits .xor .u8 (zk.toNat : Int) by'))).alloc (.cells #[.slice A b.length cap, .slice (some ⟨g, 0, none⟩) z.length cap4] 32) := ⟨_, rfl⟩
    have hb6 : Below w.heap.size w w6 := by rw [hw6]; exact Below.alloc (Below.setCell hb4 hgw _) (by have := hb4.size; simp [World.setCell]; omega) _
    have hR : ∀ i : Nat, i < 2 → ∃ (A' : Option Addr) (cap' : Nat) (bs : List UInt8), bs.length ≤ 100000 ∧ ∀ W, Below w6.heap.size w6 W → W.cell? ⟨w4.heap.size, i, none⟩ = some (.slice A' bs.length cap') ∧ Stays W A' cap' bs := by
      intro i hi
      have hs6 : w4.heap.size < w6.heap.size := by rw [hw6]; simp [World.setCell]
      rcases (show i = 0 ∨ i = 1 by omega) with rfl | rfl
      · refine ⟨A, cap, b, by omega, fun W hW => ⟨?_, HSB.out.later (hb6.trans (hW.mono hb6.size))⟩⟩
        rw [hW.cell (by simpa using hs6), hw6]; simp [go_sem, World.setCell]
      · refine ⟨some ⟨g, 0, none⟩, cap4, zs, by omega, fun W hW => ⟨?_, (hw6 ▸ hSZ.later (Below.alloc (Below.refl _ _) (Nat.le_refl _) _)).later hW⟩⟩
        rw [hW.cell (by simpa using hs6), hw6, hzs]; simp [go_sem, World.setCell]
    have HR : Hid _ := hR
    have hN6 : w4.heap.size < w6.heap.size := by rw [hw6]; simp [World.setCell]
    rw [← hw6]
    clear hw6 hR hSZ hzs HS4 HCE HFR HSB c5 f5 hk
    go_loopw [14] (fun iv wr => ∃ i : Nat, iv = .int .i64 (i : Int) ∧ i ≤ 2 ∧ Below w6.heap.size w6 wr) (fun iv _ => 2 - (intOf iv).toNat)
    case atStart => exact ⟨0, rfl, by omega, Below.refl _ _⟩
    case round =>
      obtain ⟨i, rfl, hi2, hbl⟩ := hrel
      by_cases hlt : i < 2
      · obtain ⟨A', cap', bs, hbs, hcell⟩ := HR.out i hlt
        have HC : Hid (∀ W, Below w6.heap.size w6 W → W.cell? ⟨w4.heap.size, i, none⟩ = some (.slice A' bs.length cap') ∧ Stays W A' cap' bs) := hcell
        have hi0 : (0 : Int) ≤ (i : Int) := by omega
        have hi1 : (i : Int) < 2 := by omega
        have hNr : w4.heap.size < wr.heap.size := by have := hbl.size; omega
        have e0 := (HC.out wr hbl).1
        clear hcell
        go_wp2_with fail
        refine (take_any wr A' cap' bs (HC.out wr hbl).2.at' (HC.out wr hbl).2.le (HC.out wr hbl).2.max').mono ?_
        rintro e w7 hT
        obtain ⟨k1, n1, s1, K1, len1, q1, rfl, hb7, tv1⟩ := hT.any
        have TV1 : Hid (TkV w7 (tkR bs) (.agg #[.int .i64 k1, .int .i64 n1, .string s1, .slice K1 len1 q1])) := tv1
        clear hT tv1 e0
        have hl7 : Below w6.heap.size w6 w7 := hbl.trans (hb7.mono hbl.size)
        have e1 := (HC.out w7 hl7).1
        have hN7 : w4.heap.size < w7.heap.size := by have := hb7.size; omega
        go_wp2_with fail
        obtain ⟨W7, hW7⟩ : ∃ W : World, W = w7.alloc (.cells #[.int .i64 k1, .int .i64 n1, .string s1, .slice K1 len1 q1] 30) := ⟨_, rfl⟩
        have y1 : Box4 W7 w7.heap.size (.int .i64 k1) (.int .i64 n1) (.string s1) (.slice K1 len1 q1) := by rw [hW7]; exact Box4.new _ _ _ _ _ _
        have bl1 : Below w7.heap.size w7 W7 := by rw [hW7]; exact Below.alloc (Below.refl _ _) (Nat.le_refl _) _
        have hsW7 : w7.heap.size < W7.heap.size := y1.1
        have Y1 : Hid (Box4 W7 w7.heap.size (.int .i64 k1) (.int .i64 n1) (.string s1) (.slice K1 len1 q1)) := y1
        have tw1 := TkV.below TV1.out bl1
        have TW1 : Hid (TkV W7 (tkR bs) (.agg #[.int .i64 k1, .int .i64 n1, .string s1, .slice K1 len1 q1])) := tw1
        have hm1 : Below w6.heap.size w6 W7 := hl7.trans (bl1.mono hl7.size)
        rw [← hW7]
        clear hW7 y1 tw1 TV1
        refine (refTake_any W7 A' cap' bs (HC.out W7 hm1).2.at' (HC.out W7 hm1).2.le (HC.out W7 hm1).2.max' hbs).mono ?_
        rintro e w8 hT
        obtain ⟨k2, n2, s2, K2, len2, q2, rfl, hb8, tv2⟩ := hT.any
        have TV2 : Hid (TkV w8 (tkR bs) (.agg #[.int .i64 k2, .int .i64 n2, .string s2, .slice K2 len2 q2])) := tv2
        clear hT tv2
        have hl8 : Below w6.heap.size w6 w8 := hm1.trans (hb8.mono hm1.size)
        have e2 := (HC.out w8 hl8).1
        have hN8 : w4.heap.size < w8.heap.size := by have := hl8.size; omega
        go_wp2_with fail
        obtain ⟨W8, hW8⟩ : ∃ W : World, W = w8.alloc (.cells #[.int .i64 k2, .int .i64 n2, .string s2, .slice K2 len2 q2] 30) := ⟨_, rfl⟩
        have y2 : Box4 W8 w8.heap.size (.int .i64 k2) (.int .i64 n2) (.string s2) (.slice K2 len2 q2) := by rw [hW8]; exact Box4.new _ _ _ _ _ _
        have bl2 : Below w8.heap.size w8 W8 := by rw [hW8]; exact Below.alloc (Below.refl _ _) (Nat.le_refl _) _
        have hsW8 : w8.heap.size < W8.heap.size := y2.1
        have Y2 : Hid (Box4 W8 w8.heap.size (.int .i64 k2) (.int .i64 n2) (.string s2) (.slice K2 len2 q2)) := y2
        have tw2 := TkV.below TV2.out bl2
        have TW2 : Hid (TkV W8 (tkR bs) (.agg #[.int .i64 k2, .int .i64 n2, .string s2, .slice K2 len2 q2])) := tw2
        have hm2 : Below w6.heap.size w6 W8 := hl8.trans (bl2.mono hl8.size)
        rw [← hW8]
        clear hW8 y2 tw2 TV2
        refine (codeOne_any W8 A' cap' bs (HC.out W8 hm2).2.at' (HC.out W8 hm2).2.le (HC.out W8 hm2).2.max').mono ?_
        rintro e w9 hT
        obtain ⟨k3, n3, s3, K3, len3, q3, rfl, hb9, tv3⟩ := hT.any
        have TV3 : Hid (TkV w9 (oneB bs) (.agg #[.int .i64 k3, .int .i64 n3, .string s3, .slice K3 len3 q3])) := tv3
        clear hT tv3
        have hl9 : Below w6.heap.size w6 w9 := hm2.trans (hb9.mono hm2.size)
        have e3 := (HC.out w9 hl9).1
        have hN9 : w4.heap.size < w9.heap.size := by have := hl9.size; omega
        go_wp2_with fail
        obtain ⟨W9, hW9⟩ : ∃ W : World, W = w9.alloc (.cells #[.int .i64 k3, .int .i64 n3, .string s3, .slice K3 len3 q3] 30) := ⟨_, rfl⟩
        have y3 : Box4 W9 w9.heap.size (.int .i64 k3) (.int .i64 n3) (.string s3) (.slice K3 len3 q3) := by rw [hW9]; exact Box4.new _ _ _ _ _ _
        have bl3 : Below w9.heap.size w9 W9 := by rw [hW9]; exact Below.alloc (Below.refl _ _) (Nat.le_refl _) _
        have hsW9 : w9.heap.size < W9.heap.size := y3.1
        have Y3 : Hid (Box4 W9 w9.heap.size (.int .i64 k3) (.int .i64 n3) (.string s3) (.slice K3 len3 q3)) := y3
        have tw3 := TkV.below TV3.out bl3
        have TW3 : Hid (TkV W9 (oneB bs) (.agg #[.int .i64 k3, .int .i64 n3, .string s3, .slice K3 len3 q3])) := tw3
        have hm3 : Below w6.heap.size w6 W9 := hl9.trans (bl3.mono hl9.size)
        rw [← hW9]
        clear hW9 y3 tw3 TV3
        refine (refOne_any W9 A' cap' bs (HC.out W9 hm3).2.at' (HC.out W9 hm3).2.le (HC.out W9 hm3).2.max' hbs).mono ?_
        rintro e w10 hT
        obtain ⟨k4, n4, s4, K4, len4, q4, rfl, hb10, tv4⟩ := hT.any
        have TV4 : Hid (TkV w10 (oneB bs) (.agg #[.int .i64 k4, .int .i64 n4, .string s4, .slice K4 len4 q4])) := tv4
        clear hT tv4
        have hl10 : Below w6.heap.size w6 w10 := hm3.trans (hb10.mono hm3.size)
        have e4 := (HC.out w10 hl10).1
        have hN10 : w4.heap.size < w10.heap.size := by have := hl10.size; omega
        have d90 : Below W9.heap.size W9 w10 := hb10
        have d89 : Below W8.heap.size W8 w10 := (hb9.trans (bl3.mono hb9.size)).trans (hb10.mono (by have := hb9.size; omega))
        have d78 : Below W7.heap.size W7 w10 := (hb8.trans (bl2.mono hb8.size)).trans (d89.mono (by have := hb8.size; omega))
        obtain ⟨z10, x10, x11, x12, x13⟩ := Y1.out.below d78
        obtain ⟨z20, x20, x21, x22, x23⟩ := Y2.out.below d89
        go_wp2_with fail
        obtain ⟨W10, hW10⟩ : ∃ W : World, W = w10.alloc (.cells #[.int .i64 k4, .int .i64 n4, .string s4, .slice K4 len4 q4] 30) := ⟨_, rfl⟩
        have y4 : Box4 W10 w10.heap.size (.int .i64 k4) (.int .i64 n4) (.string s4) (.slice K4 len4 q4) := by rw [hW10]; exact Box4.new _ _ _ _ _ _
        have bl4 : Below w10.heap.size w10 W10 := by rw [hW10]; exact Below.alloc (Below.refl _ _) (Nat.le_refl _) _
        have hsW10 : w10.heap.size < W10.heap.size := y4.1
        have Y4 : Hid (Box4 W10 w10.heap.size (.int .i64 k4) (.int .i64 n4) (.string s4) (.slice K4 len4 q4)) := y4
        have tw4 := TkV.below TV4.out bl4
        have TW4 : Hid (TkV W10 (oneB bs) (.agg #[.int .i64 k4, .int .i64 n4, .string s4, .slice K4 len4 q4])) := tw4
        have hm4 : Below w6.heap.size w6 W10 := hl10.trans (bl4.mono hl10.size)
        rw [← hW10]
        clear hW10 y4 tw4 TV4
        have c78 : Below W7.heap.size W7 W10 := d78.trans (bl4.mono d78.size)
        have c89 : Below W8.heap.size W8 W10 := d89.trans (bl4.mono d89.size)
        have c90 : Below W9.heap.size W9 W10 := d90.trans (bl4.mono d90.size)
        refine (sameV (TkV.below TW1.out c78) (TkV.below TW2.out c89)).mono ?_
        rintro e w11 ⟨rfl, hb11⟩
        obtain ⟨_, x30, x31, x32, x33⟩ := (Y3.out.below c90).below hb11
        obtain ⟨_, x40, x41, x42, x43⟩ := Y4.out.below hb11
        have hlt9 : w9.heap.size < w11.heap.size := by have := c90.size; have := hb11.size; omega
        have hlt10 : w10.heap.size < w11.heap.size := by have := hb11.size; omega
        have n1' : (tkNum bs == tkNum bs) = true := by simp
        have n2' : (tkErr bs == tkErr bs) = true := by simp
        go_wp2_with fail
        refine (sameV (TkV.below (TkV.below TW3.out c90) hb11) (TkV.below TW4.out hb11)).mono ?_
        rintro e w12 ⟨rfl, hb12⟩
        go_wp2_with fail
        go_roundw
        case rel => exact ⟨i + 1, by go_num, by omega, hm4.trans ((hb11.trans (hb12.mono hb11.size)).mono hm4.size)⟩
        case measure => simp [intOf]; omega
      · have hlt' : decide ((i : Int) < 2) = false := by simp; omega
        go_wp2_with fail
        go_ret
        exact ⟨rfl, hb6.trans (hbl.mono hb6.size)⟩
  · obtain ⟨k, hkz, hk⟩ := hr
    have c5 := HCE.out k hkz
    have f5 := HFR.out k
    have hk0 : (0 : Int) ≤ (k : Int) := by omega
    have hk1 : (k : Int) < (z.length : Int) := by omega
    generalize z.getD k 0 = zk at *
    go_wp2_with fail
    obtain ⟨zs, hzs, hSZ⟩ := turned HS4.out hzl.1 hkz zk by' hb1 (by omega)
    obtain ⟨w6, hw6⟩ : ∃ W : World, W = (w4.setCell ⟨g, k, none⟩ (.int .u8 (bits .xor .u8 (zk.toNat : Int) by'))).alloc (.cells #[.slice A b.length cap, .slice (some ⟨g, 0, none⟩) z.length cap4] 32) := ⟨_, rfl⟩
    have hb6 : Below w.heap.size w w6 := by rw [hw6]; exact Below.alloc (Below.setCell hb4 hgw _) (by have := hb4.size; simp [World.setCell]; omega) _
    have hR : ∀ i : Nat, i < 2 → ∃ (A' : Option Addr) (cap' : Nat) (bs : List UInt8), bs.length ≤ 100000 ∧ ∀ W, Below w6.heap.size w6 W → W.cell? ⟨w4.heap.size, i, none⟩ = some (.slice A' bs.length cap') ∧ Stays W A' cap' bs := by
      intro i hi
      have hs6 : w4.heap.size < w6.heap.size := by rw [hw6]; simp [World.setCell]
      rcases (show i = 0 ∨ i = 1 by omega) with rfl | rfl
      · refine ⟨A, cap, b, by omega, fun W hW => ⟨?_, HSB.out.later (hb6.trans (hW.mono hb6.size))⟩⟩
        rw [hW.cell (by simpa using hs6), hw6]; simp [go_sem, World.setCell]
      · refine ⟨some ⟨g, 0, none⟩, cap4, zs, by omega, fun W hW => ⟨?_, (hw6 ▸ hSZ.later (Below.alloc (Below.refl _ _) (Nat.le_refl _) _)).later hW⟩⟩
        rw [hW.cell (by simpa using hs6), hw6, hzs]; simp [go_sem, World.setCell]
    have HR : Hid _ := hR
    have hN6 : w4.heap.size < w6.heap.size := by rw [hw6]; simp [World.setCell]
    rw [← hw6]
    clear hw6 hR hSZ hzs HS4 HCE HFR HSB c5 f5 hk
    go_loopw [14] (fun iv wr => ∃ i : Nat, iv = .int .i64 (i : Int) ∧ i ≤ 2 ∧ Below w6.heap.size w6 wr) (fun iv _ => 2 - (intOf iv).toNat)
    case atStart => exact ⟨0, rfl, by omega, Below.refl _ _⟩
    case round =>
      obtain ⟨i, rfl, hi2, hbl⟩ := hrel
      by_cases hlt : i < 2
      · obtain ⟨A', cap', bs, hbs, hcell⟩ := HR.out i hlt
        have HC : Hid (∀ W, Below w6.heap.size w6 W → W.cell? ⟨w4.heap.size, i, none⟩ = some (.slice A' bs.length cap') ∧ Stays W A' cap' bs) := hcell
        have hi0 : (0 : Int) ≤ (i : Int) := by omega
        have hi1 : (i : Int) < 2 := by omega
        have hNr : w4.heap.size < wr.heap.size := by have := hbl.size; omega
        have e0 := (HC.out wr hbl).1
        clear hcell
        go_wp2_with fail
        refine (take_any wr A' cap' bs (HC.out wr hbl).2.at' (HC.out wr hbl).2.le (HC.out wr hbl).2.max').mono ?_
        rintro e w7 hT
        obtain ⟨k1, n1, s1, K1, len1, q1, rfl, hb7, tv1⟩ := hT.any
        have TV1 : Hid (TkV w7 (tkR bs) (.agg #[.int .i64 k1, .int .i64 n1, .string s1, .slice K1 len1 q1])) := tv1
        clear hT tv1 e0
        have hl7 : Below w6.heap.size w6 w7 := hbl.trans (hb7.mono hbl.size)
        have e1 := (HC.out w7 hl7).1
        have hN7 : w4.heap.size < w7.heap.size := by have := hb7.size; omega
        go_wp2_with fail
        obtain ⟨W7, hW7⟩ : ∃ W : World, W = w7.alloc (.cells #[.int .i64 k1, .int .i64 n1, .string s1, .slice K1 len1 q1] 30) := ⟨_, rfl⟩
        have y1 : Box4 W7 w7.heap.size (.int .i64 k1) (.int .i64 n1) (.string s1) (.slice K1 len1 q1) := by rw [hW7]; exact Box4.new _ _ _ _ _ _
        have bl1 : Below w7.heap.size w7 W7 := by rw [hW7]; exact Below.alloc (Below.refl _ _) (Nat.le_refl _) _
        have hsW7 : w7.heap.size < W7.heap.size := y1.1
        have Y1 : Hid (Box4 W7 w7.heap.size (.int .i64 k1) (.int .i64 n1) (.string s1) (.slice K1 len1 q1)) := y1
        have tw1 := TkV.below TV1.out bl1
        have TW1 : Hid (TkV W7 (tkR bs) (.agg #[.int .i64 k1, .int .i64 n1, .string s1, .slice K1 len1 q1])) := tw1
        have hm1 : Below w6.heap.size w6 W7 := hl7.trans (bl1.mono hl7.size)
        rw [← hW7]
        clear hW7 y1 tw1 TV1
        refine (refTake_any W7 A' cap' bs (HC.out W7 hm1).2.at' (HC.out W7 hm1).2.le (HC.out W7 hm1).2.max' hbs).mono ?_
        rintro e w8 hT
        obtain ⟨k2, n2, s2, K2, len2, q2, rfl, hb8, tv2⟩ := hT.any
        have TV2 : Hid (TkV w8 (tkR bs) (.agg #[.int .i64 k2, .int .i64 n2, .string s2, .slice K2 len2 q2])) := tv2
        clear hT tv2
        have hl8 : Below w6.heap.size w6 w8 := hm1.trans (hb8.mono hm1.size)
        have e2 := (HC.out w8 hl8).1
        have hN8 : w4.heap.size < w8.heap.size := by have := hl8.size; omega
        go_wp2_with fail
        obtain ⟨W8, hW8⟩ : ∃ W : World, W = w8.alloc (.cells #[.int .i64 k2, .int .i64 n2, .string s2, .slice K2 len2 q2] 30) := ⟨_, rfl⟩
        have y2 : Box4 W8 w8.heap.size (.int .i64 k2) (.int .i64 n2) (.string s2) (.slice K2 len2 q2) := by rw [hW8]; exact Box4.new _ _ _ _ _ _
        have bl2 : Below w8.heap.size w8 W8 := by rw [hW8]; exact Below.alloc (Below.refl _ _) (Nat.le_refl _) _
        have hsW8 : w8.heap.size < W8.heap.size := y2.1
        have Y2 : Hid (Box4 W8 w8.heap.size (.int .i64 k2) (.int .i64 n2) (.string s2) (.slice K2 len2 q2)) := y2
        have tw2 := TkV.below TV2.out bl2
        have TW2 : Hid (TkV W8 (tkR bs) (.agg #[.int .i64 k2, .int .i64 n2, .string s2, .slice K2 len2 q2])) := tw2
        have hm2 : Below w6.heap.size w6 W8 := hl8.trans (bl2.mono hl8.size)
        rw [← hW8]
        clear hW8 y2 tw2 TV2
        refine (codeOne_any W8 A' cap' bs (HC.out W8 hm2).2.at' (HC.out W8 hm2).2.le (HC.out W8 hm2).2.max').mono ?_
        rintro e w9 hT
        obtain ⟨k3, n3, s3, K3, len3, q3, rfl, hb9, tv3⟩ := hT.any
        have TV3 : Hid (TkV w9 (oneB bs) (.agg #[.int .i64 k3, .int .i64 n3, .string s3, .slice K3 len3 q3])) := tv3
        clear hT tv3
        have hl9 : Below w6.heap.size w6 w9 := hm2.trans (hb9.mono hm2.size)
        have e3 := (HC.out w9 hl9).1
        have hN9 : w4.heap.size < w9.heap.size := by have := hl9.size; omega
        go_wp2_with fail
        obtain ⟨W9, hW9⟩ : ∃ W : World, W = w9.alloc (.cells #[.int .i64 k3, .int .i64 n3, .string s3, .slice K3 len3 q3] 30) := ⟨_, rfl⟩
        have y3 : Box4 W9 w9.heap.size (.int .i64 k3) (.int .i64 n3) (.string s3) (.slice K3 len3 q3) := by rw [hW9]; exact Box4.new _ _ _ _ _ _
        have bl3 : Below w9.heap.size w9 W9 := by rw [hW9]; exact Below.alloc (Below.refl _ _) (Nat.le_refl _) _
        have hsW9 : w9.heap.size < W9.heap.size := y3.1
        have Y3 : Hid (Box4 W9 w9.heap.size (.int .i64 k3) (.int .i64 n3) (.string s3) (.slice K3 len3 q3)) := y3
        have tw3 := TkV.below TV3.out bl3
        have TW3 : Hid (TkV W9 (oneB bs) (.agg #[.int .i64 k3, .int .i64 n3, .string s3, .slice K3 len3 q3])) := tw3
        have hm3 : Below w6.heap.size w6 W9 := hl9.trans (bl3.mono hl9.size)
        rw [← hW9]
        clear hW9 y3 tw3 TV3
        refine (refOne_any W9 A' cap' bs (HC.out W9 hm3).2.at' (HC.out W9 hm3).2.le (HC.out W9 hm3).2.max' hbs).mono ?_
        rintro e w10 hT
        obtain ⟨k4, n4, s4, K4, len4, q4, rfl, hb10, tv4⟩ := hT.any
        have TV4 : Hid (TkV w10 (oneB bs) (.agg #[.int .i64 k4, .int .i64 n4, .string s4, .slice K4 len4 q4])) := tv4
        clear hT tv4
        have hl10 : Below w6.heap.size w6 w10 := hm3.trans (hb10.mono hm3.size)
        have e4 := (HC.out w10 hl10).1
        have hN10 : w4.heap.size < w10.heap.size := by have := hl10.size; omega
        have d90 : Below W9.heap.size W9 w10 := hb10
        have d89 : Below W8.heap.size W8 w10 := (hb9.trans (bl3.mono hb9.size)).trans (hb10.mono (by have := hb9.size; omega))
        have d78 : Below W7.heap.size W7 w10 := (hb8.trans (bl2.mono hb8.size)).trans (d89.mono (by have := hb8.size; omega))
        obtain ⟨z10, x10, x11, x12, x13⟩ := Y1.out.below d78
        obtain ⟨z20, x20, x21, x22, x23⟩ := Y2.out.below d89
        go_wp2_with fail
        obtain ⟨W10, hW10⟩ : ∃ W : World, W = w10.alloc (.cells #[.int .i64 k4, .int .i64 n4, .string s4, .slice K4 len4 q4] 30) := ⟨_, rfl⟩
        have y4 : Box4 W10 w10.heap.size (.int .i64 k4) (.int .i64 n4) (.string s4) (.slice K4 len4 q4) := by rw [hW10]; exact Box4.new _ _ _ _ _ _
        have bl4 : Below w10.heap.size w10 W10 := by rw [hW10]; exact Below.alloc (Below.refl _ _) (Nat.le_refl _) _
        have hsW10 : w10.heap.size < W10.heap.size := y4.1
        have Y4 : Hid (Box4 W10 w10.heap.size (.int .i64 k4) (.int .i64 n4) (.string s4) (.slice K4 len4 q4)) := y4
        have tw4 := TkV.below TV4.out bl4
        have TW4 : Hid (TkV W10 (oneB bs) (.agg #[.int .i64 k4, .int .i64 n4, .string s4, .slice K4 len4 q4])) := tw4
        have hm4 : Below w6.heap.size w6 W10 := hl10.trans (bl4.mono hl10.size)
        rw [← hW10]
        clear hW10 y4 tw4 TV4
        have c78 : Below W7.heap.size W7 W10 := d78.trans (bl4.mono d78.size)
        have c89 : Below W8.heap.size W8 W10 := d89.trans (bl4.mono d89.size)
        have c90 : Below W9.heap.size W9 W10 := d90.trans (bl4.mono d90.size)
        refine (sameV (TkV.below TW1.out c78) (TkV.below TW2.out c89)).mono ?_
        rintro e w11 ⟨rfl, hb11⟩
        obtain ⟨_, x30, x31, x32, x33⟩ := (Y3.out.below c90).below hb11
        obtain ⟨_, x40, x41, x42, x43⟩ := Y4.out.below hb11
        have hlt9 : w9.heap.size < w11.heap.size := by have := c90.size; have := hb11.size; omega
        have hlt10 : w10.heap.size < w11.heap.size := by have := hb11.size; omega
        have n1' : (tkNum bs == tkNum bs) = true := by simp
        have n2' : (tkErr bs == tkErr bs) = true := by simp
        go_wp2_with fail
        refine (sameV (TkV.below (TkV.below TW3.out c90) hb11) (TkV.below TW4.out hb11)).mono ?_
        rintro e w12 ⟨rfl, hb12⟩
        go_wp2_with fail
        go_roundw
        case rel => exact ⟨i + 1, by go_num, by omega, hm4.trans ((hb11.trans (hb12.mono hb11.size)).mono hm4.size)⟩
        case measure => simp [intOf]; omega
      · have hlt' : decide ((i : Int) < 2) = false := by simp; omega
        go_wp2_with fail
        go_ret
        exact ⟨rfl, hb6.trans (hbl.mono hb6.size)⟩

end Go.Proofs.Ytooffmmfacdjeaa
