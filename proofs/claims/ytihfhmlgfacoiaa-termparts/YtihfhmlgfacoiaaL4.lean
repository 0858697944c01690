import Derived.Test.YtihfhmlgfacoiaaM3
import Derived.Test.YtihfhmlgfacoiaaW23
import Derived.Deep.RegionHeld3
namespace Go.Proofs.Ytihfhmlgfacoiaa
open Go.RowKit
set_option linter.unusedVariables false
set_option linter.unusedSimpArgs false

theorem IntsAt.below {w w' : World} {B : Nat} {u : Value} {zs : List Int} (h : IntsAt w B u zs) (hb : Below w.heap.size w w') : IntsAt w' B u zs := by
  rcases h with h | ⟨g, c, h1, h2, h3, h4⟩
  · exact .inl h
  · exact .inr ⟨g, c, h1, h2, by have := hb.size; omega, fun i hi => by rw [hb.cell h3]; exact h4 i hi⟩

theorem IntsAt.len {w : World} {B : Nat} {u : Value} {zs : List Int} (h : IntsAt w B u zs) : ∃ A c, u = .slice A zs.length c ∧ (zs.length = 0 ∨ ∃ g, A = some ⟨g, 0, none⟩ ∧ RowI w g zs) := by
  rcases h with ⟨rfl, A, c, rfl⟩ | ⟨g, c, rfl, h2, h3, h4⟩
  · exact ⟨A, c, rfl, .inl rfl⟩
  · exact ⟨_, _, rfl, .inr ⟨g, rfl, h3, h4⟩⟩

theorem pair_rep {W w' : World} {B : Nat} {a b : Nd} {l m : Fo} {A1 A2 : Option Addr} {cap1 cap2 : Nat} {T : TypeId} (hB : B ≤ W.heap.size)
    (ho : Below (W.alloc (.cells #[.int .i64 b.kind, .int .i64 b.n, .string b.s, .slice A2 (flen m) cap2, .int .i64 a.kind, .int .i64 a.n, .string a.s, .slice A1 (flen l) cap1] T)).heap.size (W.alloc (.cells #[.int .i64 b.kind, .int .i64 b.n, .string b.s, .slice A2 (flen m) cap2, .int .i64 a.kind, .int .i64 a.n, .string a.s, .slice A1 (flen l) cap1] T)) w')
    (va : RepV w' B a l (.agg #[.int .i64 a.kind, .int .i64 a.n, .string a.s, .slice A1 (flen l) cap1])) (vb : RepV w' B b m (.agg #[.int .i64 b.kind, .int .i64 b.n, .string b.s, .slice A2 (flen m) cap2])) :
    RepV w' w'.heap.size ⟨7, 0, ByteArray.empty⟩ (.node 0 0 b m (.node 0 0 a l .nil)) (.agg #[.int .i64 7, .int .i64 0, .string ByteArray.empty, .slice (some ⟨W.heap.size, 0, none⟩) 2 2]) := by
  have hs := ho.size
  simp only [World.heap_size_alloc'] at hs
  obtain ⟨fa, A, cap, b1, o1, ea, na, hA, ra⟩ := va
  obtain ⟨fb, A', cap', b2, o2, eb, nb, hA', rb⟩ := vb
  simp only [Value.agg.injEq, Array.mk.injEq, List.cons.injEq, Value.slice.injEq, true_and, and_true] at ea eb
  obtain ⟨rfl, rfl⟩ := ea
  obtain ⟨rfl, rfl⟩ := eb
  have hc : ∀ o, w'.cell? ⟨W.heap.size, o, none⟩ = (#[Value.int .i64 b.kind, .int .i64 b.n, .string b.s, .slice A2 (flen m) cap2, .int .i64 a.kind, .int .i64 a.n, .string a.s, .slice A1 (flen l) cap1] : Array Value)[o]? := fun o => by
    rw [ho.cell (by simp)]; simp [go_sem]
  refine ⟨fit_kind _ (by omega), some ⟨W.heap.size, 0, none⟩, 2, W.heap.size, 0, rfl, by simp [flen], .inr rfl, ?_⟩
  exact ⟨by omega, fb, by rw [hc]; rfl, by rw [hc]; rfl, by rw [hc]; rfl, ⟨A2, cap2, b2, o2, by rw [hc]; rfl, nb, hA', RepF.keep (by omega) (fun _ _ _ => rfl) rb⟩,
    by omega, fa, by rw [hc]; rfl, by rw [hc]; rfl, by rw [hc]; rfl, ⟨A1, cap1, b1, o1, by rw [hc]; rfl, na, hA, RepF.keep (by omega) (fun _ _ _ => rfl) ra⟩, trivial⟩

set_option maxRecDepth 20000 in
set_option maxHeartbeats 4000000 in
theorem termParts_any (w : World) (B : Nat) (ns ms : List Int) (L1 L2 : Option Addr) (c1 c2 : Nat) (hB : B ≤ w.heap.size) (hns : NumsAt w B ns L1) (hms : NumsAt w B ms L2) (fn : NumsFit ns) (fm : NumsFit ms) :
    Calls Try.prog 4 #[.slice L1 ns.length c1, .slice L2 ms.length c2] w fun e w' => e = .returned (.bool true) ∧ Below w.heap.size w w' := by
  have hpm := pair_may ns ms
  have hm1 := one_may ns
  have hm2 := one_may ms
  go_enter Try.func4, Try.ntmps4
  go_wp2_with fail
  refine (known_any _).mono ?_
  rintro e w1 ⟨rfl, ho1⟩
  go_wp2_with fail
  have hs1 := ho1.size
  refine (one_any ns L1 c1 B w1 (by omega) (nums_below hns (ho1.mono hB)) fn).mono ?_
  generalize tapeT ns 4 0 = T1 at *
  obtain ⟨⟨a, l⟩, t1⟩ := T1
  rintro e w2 ⟨v1, rfl, ho2, hf1, A1, cap1, b1, o1, rfl, hn1, hA1, hl1⟩
  have HA1 : Hid (flen l = 0 ∨ A1 = some ⟨b1, o1, none⟩) := hA1
  have M1 : Hid (may a l = true) := hm1
  clear hA1 hm1
  have hs2 := ho2.size
  have hb2 : Below w.heap.size w w2 := ho1.trans (ho2.mono hs1)
  go_wp2_with fail
  refine (one_any ms L2 c2 B w2 (by omega) (nums_below hms (hb2.mono hB)) fm).mono ?_
  generalize tapeT ms 4 0 = T2 at *
  obtain ⟨⟨b, m⟩, t2⟩ := T2
  rintro e w3 ⟨v2, rfl, ho3, hf2, A2, cap2, b2, o2, rfl, hn2, hA2, hl2⟩
  have HA2 : Hid (flen m = 0 ∨ A2 = some ⟨b2, o2, none⟩) := hA2
  have M2 : Hid (may b m = true) := hm2
  have MP : Hid (may ⟨7, 0, ByteArray.empty⟩ (.node 0 0 b m (.node 0 0 a l .nil)) = true) := hpm
  clear hA2 hm2 hpm
  have hs3 := ho3.size
  have hb3 : Below w.heap.size w w3 := hb2.trans (ho3.mono (by omega))
  have va : ∀ W, Below w3.heap.size w3 W → RepV W w3.heap.size a l (.agg #[.int .i64 a.kind, .int .i64 a.n, .string a.s, .slice A1 (flen l) cap1]) := fun W hW =>
    ⟨hf1, A1, cap1, b1, o1, rfl, hn1, HA1.out, RepG.toF (S := fun q => q < w3.heap.size) (fun _ h => h) (RepG.keep (fun q hq => by omega) (fun q j hq => by rw [hW.cell (by simp; omega), ho3.cell (by simp; omega)]) hl1)⟩
  have vb : ∀ W, Below w3.heap.size w3 W → RepV W w3.heap.size b m (.agg #[.int .i64 b.kind, .int .i64 b.n, .string b.s, .slice A2 (flen m) cap2]) := fun W hW =>
    ⟨hf2, A2, cap2, b2, o2, rfl, hn2, HA2.out, RepG.toF (S := fun q => q < w3.heap.size) (fun _ h => h) (RepG.keep (fun q hq => by omega) (fun q j hq => by rw [hW.cell (by simp; omega)]) hl2)⟩
  have VA : Hid _ := va
  have VB : Hid _ := vb
  clear va vb
  have hx0 : ∀ W, Below (w3.heap.size + 2) ((w3.alloc (.cells #[.int .i64 a.kind, .int .i64 a.n, .string a.s, .slice A1 (flen l) cap1] 24)).alloc (.cells #[.int .i64 b.kind, .int .i64 b.n, .string b.s, .slice A2 (flen m) cap2] 24)) W →
      Box4 W w3.heap.size (.int .i64 a.kind) (.int .i64 a.n) (.string a.s) (.slice A1 (flen l) cap1) ∧ Box4 W (w3.heap.size + 1) (.int .i64 b.kind) (.int .i64 b.n) (.string b.s) (.slice A2 (flen m) cap2) ∧ Below w3.heap.size w3 W := fun W hW => by
    have hW' := hW.mono (show ((w3.alloc (.cells #[.int .i64 a.kind, .int .i64 a.n, .string a.s, .slice A1 (flen l) cap1] 24)).alloc (.cells #[.int .i64 b.kind, .int .i64 b.n, .string b.s, .slice A2 (flen m) cap2] 24)).heap.size ≤ w3.heap.size + 2 by simp)
    refine ⟨((Box4.new w3 _ _ _ _ _).alloc _).below hW', ?_, Below.trans (b := (w3.alloc _).alloc _) (by repeat (first | exact Below.refl _ _ | assumption | refine below_drewN ?_ _ | refine Below.drew ?_ | refine Below.alloc ?_ (by simp <;> omega) _ | refine Below.setCell ?_ (by simp <;> omega) _)) (hW.mono (by omega))⟩
    have h := Box4.new (w3.alloc (.cells #[.int .i64 a.kind, .int .i64 a.n, .string a.s, .slice A1 (flen l) cap1] 24)) (.int .i64 b.kind) (.int .i64 b.n) (.string b.s) (.slice A2 (flen m) cap2) 24
    exact Box4.below (by simpa using h) hW'
  have hnl : (nonT a l).length ≤ 500 := by
    have h1 := may_size a l M1.out
    have h2 := nonF_size l
    rw [nonT, List.length_append]
    split <;> simp <;> omega
  have hx4 := hx0 _ (Below.refl _ _)
  have hs4 : w3.heap.size ≤ ((w3.alloc (.cells #[.int .i64 a.kind, .int .i64 a.n, .string a.s, .slice A1 (flen l) cap1] 24)).alloc (.cells #[.int .i64 b.kind, .int .i64 b.n, .string b.s, .slice A2 (flen m) cap2] 24)).heap.size := by simp; omega
  clear hx0
  go_wp2_with fail
  generalize ((w3.alloc (.cells #[.int .i64 a.kind, .int .i64 a.n, .string a.s, .slice A1 (flen l) cap1] 24)).alloc (.cells #[.int .i64 b.kind, .int .i64 b.n, .string b.s, .slice A2 (flen m) cap2] 24)) = w4 at *
  obtain ⟨hx4, hy4, hb4⟩ := hx4
  go_region_held3 (fun W => Box4 W w3.heap.size (.int .i64 a.kind) (.int .i64 a.n) (.string a.s) (.slice A1 (flen l) cap1) ∧ Below w4.heap.size w4 W)
    (first | exact ⟨hx4.drew, Below.drew (Below.refl _ _)⟩ | exact ⟨Box4.below (And.left (by assumption)) (by assumption), Below.trans (And.right (by assumption)) (Below.mono (by assumption) (Below.size (And.right (by assumption))))⟩)
    (first
      | (go_at_call 14; refine (nonces_any a l _ w3.heap.size _ ?_ ?_ M1.out).mono ?_; exact (Nat.le_trans hs4 (Below.size (And.right (by assumption)))); exact (VA.out _ (hb4.trans (Below.mono (And.right (by assumption)) hs4))); rintro e w5 ⟨u5, rfl, ho5, hi5⟩)
      | (go_at_call 15; refine (refNon_any a l _ w3.heap.size _ ?_ ?_ hnl).mono ?_; exact (VA.out _ (hb4.trans (Below.mono (And.right (by assumption)) hs4))); exact (Nat.le_trans hs4 (Below.size (And.right (by assumption)))); rintro e w6 ⟨u6, zs, rfl, hno6, hi6, ho6⟩))
  have hb6 : Below w4.heap.size w4 w6 := by
    have h : Box4 w6 w3.heap.size (.int .i64 a.kind) (.int .i64 a.n) (.string a.s) (.slice A1 (flen l) cap1) ∧ Below w4.heap.size w4 w6 := by assumption
    exact h.2
  have he := nonces_one a l zs hno6
  rw [he] at hi5
  have hi5' := hi5.below ho6
  obtain ⟨AX, cX, rfl, hAX⟩ := hi5'.len
  obtain ⟨AY, cY, rfl, hAY⟩ := hi6.len
  have HX : Hid (zs.length = 0 ∨ ∃ g, AX = some ⟨g, 0, none⟩ ∧ RowI w6 g zs) := hAX
  have HY : Hid (zs.length = 0 ∨ ∃ g, AY = some ⟨g, 0, none⟩ ∧ RowI w6 g zs) := hAY
  have hzl : zs.length ≤ 500 := Nat.le_trans hno6.2.2 hnl
  clear hAX hAY hi5 hi5' hi6 he hno6
  go_wp2_with fail
  go_loopw [9] (fun iv wr => ∃ k : Nat, iv = .int .i64 (k : Int) ∧ k ≤ zs.length ∧ Below w6.heap.size w6 wr) (fun iv _ => zs.length - (intOf iv).toNat)
  case atStart => exact ⟨0, rfl, by omega, Below.refl _ _⟩
  case round =>
    obtain ⟨k, rfl, hk, hbk⟩ := hrel
    by_cases hlk : (k : Int) < (zs.length : Int)
    · obtain ⟨g1, rfl, r1⟩ : ∃ g, AX = some ⟨g, 0, none⟩ ∧ RowI w6 g zs := by rcases HX.out with h | h; omega; exact h
      obtain ⟨g2, rfl, r2⟩ : ∃ g, AY = some ⟨g, 0, none⟩ ∧ RowI w6 g zs := by rcases HY.out with h | h; omega; exact h
      have q1 := (r1.below hbk).2 k (by omega)
      have q2 := (r2.below hbk).2 k (by omega)
      have hk0 : (0 : Int) ≤ (k : Int) := by omega
      generalize zs.getD k 0 = zk at *
      go_wp2_with fail
      go_region_held3 (fun W => W.cell? ⟨g1, k, none⟩ = some (.int .i64 zk) ∧ W.cell? ⟨g2, k, none⟩ = some (.int .i64 zk)) (first | exact ⟨q1, q2⟩ | assumption) (first | fail)
      go_wp2_with fail
      go_roundw
      case rel => exact ⟨k + 1, by go_num, by omega, hbk.drew⟩
      case measure => simp [intOf]; omega
    · have hb7 : Below w4.heap.size w4 wr := hb6.trans (hbk.mono hb6.size)
      have hx7 := hx4.below hb7
      have hy7 := hy4.below hb7
      clear HX HY hbk
      have hsl : 1 + sizeF l ≤ 1000 := by have := may_size a l M1.out; omega
      have rv : ∀ W, Below w4.heap.size w4 W → Below w3.heap.size w3 W := fun W h => hb4.trans (h.mono hs4)
      have le : ∀ W, Below w4.heap.size w4 W → w3.heap.size ≤ W.heap.size := fun W h => Nat.le_trans hs4 h.size
      have cS1 : ∀ W, Below w4.heap.size w4 W → Calls Try.prog 16 #[(.agg #[.int .i64 a.kind, .int .i64 a.n, .string a.s, .slice A1 (flen l) cap1])] W (fun e w' => e = .returned (.int .i64 (1 + sizeF l)) ∧ Below w4.heap.size w4 w') := fun W hW => (size_any a l _ w3.heap.size W (le W hW) (VA.out W (rv W hW)) M1.out).mono fun e w' ⟨he, hb⟩ => ⟨he, hW.trans (hb.mono hW.size)⟩
      have cS2 : ∀ W, Below w4.heap.size w4 W → Calls Try.prog 17 #[(.agg #[.int .i64 a.kind, .int .i64 a.n, .string a.s, .slice A1 (flen l) cap1])] W (fun e w' => e = .returned (.int .i64 (1 + sizeF l)) ∧ Below w4.heap.size w4 w') := fun W hW => (refSize_any a l _ w3.heap.size W (VA.out W (rv W hW)) (le W hW) hsl).mono fun e w' ⟨he, hb⟩ => ⟨he, hW.trans (hb.mono hW.size)⟩
      have cE1 : ∀ W, Below w4.heap.size w4 W → Calls Try.prog 18 #[(.agg #[.int .i64 a.kind, .int .i64 a.n, .string a.s, .slice A1 (flen l) cap1]), (.agg #[.int .i64 b.kind, .int .i64 b.n, .string b.s, .slice A2 (flen m) cap2])] W (fun e w' => e = .returned (.bool (ordT a l b m == 0)) ∧ Below w4.heap.size w4 w') := fun W hW => (same_any a l b m _ _ w3.heap.size W (VA.out W (rv W hW)) (VB.out W (rv W hW)) (le W hW) M1.out M2.out).mono fun e w' ⟨he, hb⟩ => ⟨he, hW.trans (hb.mono hW.size)⟩
      have cE2 : ∀ W, Below w4.heap.size w4 W → Calls Try.prog 19 #[(.agg #[.int .i64 a.kind, .int .i64 a.n, .string a.s, .slice A1 (flen l) cap1]), (.agg #[.int .i64 b.kind, .int .i64 b.n, .string b.s, .slice A2 (flen m) cap2])] W (fun e w' => e = .returned (.bool (ordT a l b m == 0)) ∧ Below w4.heap.size w4 w') := fun W hW => (refSame_any a l b m _ _ w3.heap.size W (VA.out W (rv W hW)) (VB.out W (rv W hW)) (le W hW) (may_ar a l M1.out).1 (may_ar b m M2.out).1 (may_ar a l M1.out).2 (may_ar b m M2.out).2).mono fun e w' ⟨he, hb⟩ => ⟨he, hW.trans (hb.mono hW.size)⟩
      have cL1 : ∀ W, Below w4.heap.size w4 W → Calls Try.prog 20 #[(.agg #[.int .i64 a.kind, .int .i64 a.n, .string a.s, .slice A1 (flen l) cap1]), (.agg #[.int .i64 b.kind, .int .i64 b.n, .string b.s, .slice A2 (flen m) cap2])] W (fun e w' => e = .returned (.bool (decide (ordT a l b m < 0))) ∧ Below w4.heap.size w4 w') := fun W hW => (less_any a l b m _ _ w3.heap.size W (VA.out W (rv W hW)) (VB.out W (rv W hW)) (le W hW) M1.out M2.out).mono fun e w' ⟨he, hb⟩ => ⟨he, hW.trans (hb.mono hW.size)⟩
      have cL2 : ∀ W, Below w4.heap.size w4 W → Calls Try.prog 21 #[(.agg #[.int .i64 a.kind, .int .i64 a.n, .string a.s, .slice A1 (flen l) cap1]), (.agg #[.int .i64 b.kind, .int .i64 b.n, .string b.s, .slice A2 (flen m) cap2])] W (fun e w' => e = .returned (.bool (decide (ordT a l b m < 0))) ∧ Below w4.heap.size w4 w') := fun W hW => (refLess_any a l b m _ _ w3.heap.size W (VA.out W (rv W hW)) (VB.out W (rv W hW)) (le W hW) (may_ar a l M1.out).1 (may_ar b m M2.out).1 (may_ar a l M1.out).2 (may_ar b m M2.out).2).mono fun e w' ⟨he, hb⟩ => ⟨he, hW.trans (hb.mono hW.size)⟩
      have cH1 : ∀ W, Below w4.heap.size w4 W → Calls Try.prog 22 #[(.agg #[.int .i64 a.kind, .int .i64 a.n, .string a.s, .slice A1 (flen l) cap1]), (.agg #[.int .i64 b.kind, .int .i64 b.n, .string b.s, .slice A2 (flen m) cap2])] W (fun e w' => e = .returned (.bool (!missT b m a l)) ∧ Below w4.heap.size w4 w') := fun W hW => (has_any a l b m _ _ w3.heap.size W (VA.out W (rv W hW)) (VB.out W (rv W hW)) (le W hW) M1.out M2.out).mono fun e w' ⟨he, hb⟩ => ⟨he, hW.trans (hb.mono hW.size)⟩
      have cH2 : ∀ W, Below w4.heap.size w4 W → Calls Try.prog 23 #[(.agg #[.int .i64 a.kind, .int .i64 a.n, .string a.s, .slice A1 (flen l) cap1]), (.agg #[.int .i64 b.kind, .int .i64 b.n, .string b.s, .slice A2 (flen m) cap2])] W (fun e w' => e = .returned (.bool (!missT b m a l)) ∧ Below w4.heap.size w4 w') := fun W hW => (refHas_any b m a l _ _ w3.heap.size W (VA.out W (rv W hW)) (VB.out W (rv W hW)) (le W hW) (may_ar a l M1.out).1 (may_ar b m M2.out).1 (may_ar a l M1.out).2 (may_ar b m M2.out).2).mono fun e w' ⟨he, hb⟩ => ⟨he, hW.trans (hb.mono hW.size)⟩
      generalize (1 + (sizeF l : Int)) = sz at *
      generalize (ordT a l b m == 0) = pe at *
      generalize decide (ordT a l b m < 0) = pl at *
      generalize (!missT b m a l) = ph at *
      have CS1 : Hid _ := cS1
      have CS2 : Hid _ := cS2
      have CE1 : Hid _ := cE1
      have CE2 : Hid _ := cE2
      have CL1 : Hid _ := cL1
      have CL2 : Hid _ := cL2
      have CH1 : Hid _ := cH1
      have CH2 : Hid _ := cH2
      clear cS1 cS2 cE1 cE2 cL1 cL2 cH1 cH2
      go_wp2_with fail
      go_region_held3 (fun W => Box4 W w3.heap.size (.int .i64 a.kind) (.int .i64 a.n) (.string a.s) (.slice A1 (flen l) cap1) ∧ Box4 W (w3.heap.size + 1) (.int .i64 b.kind) (.int .i64 b.n) (.string b.s) (.slice A2 (flen m) cap2) ∧ Below w4.heap.size w4 W)
        (first | exact ⟨hx7.drew, hy7.drew, hb7.drew⟩ | exact ⟨hx4.below (by assumption), hy4.below (by assumption), by assumption⟩ | exact ⟨Box4.alloc (And.left (by assumption)) _, Box4.alloc (And.left (And.right (by assumption))) _, Below.alloc (And.right (And.right (by assumption))) (Below.size (And.right (And.right (by assumption)))) _⟩ | exact ⟨Box4.below (And.left (by assumption)) (by assumption), Box4.below (And.left (And.right (by assumption))) (by assumption), Below.trans (And.right (And.right (by assumption))) (Below.mono (by assumption) (Below.size (And.right (And.right (by assumption)))))⟩)
        (first
          | (go_at_call_of 22 (Value.int IntKind.i64 7); refine (has_any ⟨7, 0, ByteArray.empty⟩ (.node 0 0 b m (.node 0 0 a l .nil)) a l _ _ w16.heap.size w16 (pair_rep (W := w15) (B := w3.heap.size) (le w15 ho15) ho16 ?_ ?_) ?_ (Nat.le_refl _) MP.out M1.out).mono ?_; exact (VA.out _ (rv _ (And.right (And.right (by assumption))))); exact (VB.out _ (rv _ (And.right (And.right (by assumption))))); exact (RepV.keep (le _ (And.right (And.right (by assumption)))) (fun _ _ _ => rfl) (VA.out w16 (rv _ (And.right (And.right (by assumption)))))); rw [pair_has]; rintro e w17 ⟨rfl, ho17⟩)
          | (go_at_call 16; refine (CS1.out _ ?_).mono ?_; exact (And.right (And.right (by assumption))); rintro e w8 ⟨rfl, ho8⟩)
          | (go_at_call 17; refine (CS2.out _ ?_).mono ?_; exact (And.right (And.right (by assumption))); rintro e w9 ⟨rfl, ho9⟩)
          | (go_at_call 18; refine (CE1.out _ ?_).mono ?_; exact (And.right (And.right (by assumption))); rintro e w10 ⟨rfl, ho10⟩)
          | (go_at_call 19; refine (CE2.out _ ?_).mono ?_; exact (And.right (And.right (by assumption))); rintro e w11 ⟨rfl, ho11⟩)
          | (go_at_call 20; refine (CL1.out _ ?_).mono ?_; exact (And.right (And.right (by assumption))); rintro e w12 ⟨rfl, ho12⟩)
          | (go_at_call 21; refine (CL2.out _ ?_).mono ?_; exact (And.right (And.right (by assumption))); rintro e w13 ⟨rfl, ho13⟩)
          | (go_at_call 22; refine (CH1.out _ ?_).mono ?_; exact (And.right (And.right (by assumption))); rintro e w14 ⟨rfl, ho14⟩)
          | (go_at_call 23; refine (CH2.out _ ?_).mono ?_; exact (And.right (And.right (by assumption))); rintro e w15 ⟨rfl, ho15⟩)
          | (go_at_call 13; refine (refT_any _ _ _ _ _).mono ?_; rintro e w16 ⟨rfl, ho16⟩))
      have hfin : Below w4.heap.size w4 w17 := by
        have h : Box4 w17 w3.heap.size (.int .i64 a.kind) (.int .i64 a.n) (.string a.s) (.slice A1 (flen l) cap1) ∧ Box4 w17 (w3.heap.size + 1) (.int .i64 b.kind) (.int .i64 b.n) (.string b.s) (.slice A2 (flen m) cap2) ∧ Below w4.heap.size w4 w17 := by assumption
        exact h.2.2
      go_wp2_with fail
      go_ret
      exact ⟨rfl, hb3.trans ((rv _ hfin).mono hb3.size)⟩

end Go.Proofs.Ytihfhmlgfacoiaa
