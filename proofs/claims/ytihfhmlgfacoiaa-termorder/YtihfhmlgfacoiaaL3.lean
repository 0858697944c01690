import Derived.Test.YtihfhmlgfacoiaaW23
import Derived.Deep.RegionHeld3
namespace Go.Proofs.Ytihfhmlgfacoiaa
open Go.RowKit
set_option linter.unusedVariables false
set_option linter.unusedSimpArgs false

/-- A row of terms: where it stands, and that each may be. -/
def RowMay (w : World) (g : Nat) (K : List Kd) : Prop := RowAt w g K ∧ ∀ k ∈ K, may k.a k.l = true

theorem RowMay.val {w W : World} {g : Nat} {K : List Kd} (h : RowMay w g K) (hb : Below w.heap.size w W) (i : Nat) (hi : i < K.length) : RepV W w.heap.size (K.getD i kd0).a (K.getD i kd0).l (.agg #[.int .i64 (K.getD i kd0).a.kind, .int .i64 (K.getD i kd0).a.n, .string (K.getD i kd0).a.s, .slice (K.getD i kd0).A (flen (K.getD i kd0).l) (K.getD i kd0).cap]) ∧ may (K.getD i kd0).a (K.getD i kd0).l = true := by
  have hok := (h.1.ok i hi).1
  refine ⟨⟨hok.1, _, _, _, _, rfl, hok.2.1, hok.2.2.1, RepG.toF (fun q hq => hq.1) (RepG.keep (fun _ h => h) (fun b o hb' => hb.cell hb'.1) hok.2.2.2)⟩, h.2 _ ?_⟩
  simp [List.getD, List.getElem?_eq_getElem hi]

theorem RowMay.cells {w w' : World} {g : Nat} {K : List Kd} (h : RowMay w g K) (hb : Below w.heap.size w w') (i : Nat) (hi : i < K.length) : w'.cell? ⟨g, i * 4, none⟩ = some (.int .i64 (K.getD i kd0).a.kind) ∧ w'.cell? ⟨g, i * 4 + 1, none⟩ = some (.int .i64 (K.getD i kd0).a.n) ∧ w'.cell? ⟨g, i * 4 + 2, none⟩ = some (.string (K.getD i kd0).a.s) ∧ w'.cell? ⟨g, i * 4 + 3, none⟩ = some (.slice (K.getD i kd0).A (flen (K.getD i kd0).l) (K.getD i kd0).cap) := by
  obtain ⟨e0, e1, e2, e3⟩ := h.1.at i hi
  have hg := h.1.1
  exact ⟨by rw [hb.cell hg]; exact e0, by rw [hb.cell hg]; exact e1, by rw [hb.cell hg]; exact e2, by rw [hb.cell hg]; exact e3⟩

theorem RowMay.less {w W : World} {g : Nat} {K : List Kd} (h : RowMay w g K) (hb : Below w.heap.size w W) (i k : Nat) (hi : i < K.length) (hk : k < K.length) :
    Calls Try.prog 20 #[(.agg #[.int .i64 (K.getD i kd0).a.kind, .int .i64 (K.getD i kd0).a.n, .string (K.getD i kd0).a.s, .slice (K.getD i kd0).A (flen (K.getD i kd0).l) (K.getD i kd0).cap]), (.agg #[.int .i64 (K.getD k kd0).a.kind, .int .i64 (K.getD k kd0).a.n, .string (K.getD k kd0).a.s, .slice (K.getD k kd0).A (flen (K.getD k kd0).l) (K.getD k kd0).cap])] W fun e w' => e = .returned (.bool (decide (ordK (K.getD i kd0) (K.getD k kd0) < 0))) ∧ Below w.heap.size w w' := by
  obtain ⟨v1, m1⟩ := h.val hb i hi
  obtain ⟨v2, m2⟩ := h.val hb k hk
  exact (less_any _ _ _ _ _ _ w.heap.size W v1 v2 hb.size m1 m2).mono fun e w' ⟨he, hb'⟩ => ⟨he, hb.trans (hb'.mono hb.size)⟩

theorem RowMay.same {w W : World} {g : Nat} {K : List Kd} (h : RowMay w g K) (hb : Below w.heap.size w W) (i k : Nat) (hi : i < K.length) (hk : k < K.length) :
    Calls Try.prog 18 #[(.agg #[.int .i64 (K.getD i kd0).a.kind, .int .i64 (K.getD i kd0).a.n, .string (K.getD i kd0).a.s, .slice (K.getD i kd0).A (flen (K.getD i kd0).l) (K.getD i kd0).cap]), (.agg #[.int .i64 (K.getD k kd0).a.kind, .int .i64 (K.getD k kd0).a.n, .string (K.getD k kd0).a.s, .slice (K.getD k kd0).A (flen (K.getD k kd0).l) (K.getD k kd0).cap])] W fun e w' => e = .returned (.bool (ordK (K.getD i kd0) (K.getD k kd0) == 0)) ∧ Below w.heap.size w w' := by
  obtain ⟨v1, m1⟩ := h.val hb i hi
  obtain ⟨v2, m2⟩ := h.val hb k hk
  exact (same_any _ _ _ _ _ _ w.heap.size W v1 v2 hb.size m1 m2).mono fun e w' ⟨he, hb'⟩ => ⟨he, hb.trans (hb'.mono hb.size)⟩

theorem one_of {x : Int} : (decide (x < 0) = true ∧ decide (-x < 0) = false ∧ (x == 0) = false) ∨ (decide (x < 0) = false ∧ decide (-x < 0) = true ∧ (x == 0) = false) ∨ (decide (x < 0) = false ∧ decide (-x < 0) = false ∧ (x == 0) = true) := by
  rcases Int.lt_trichotomy x 0 with h | h | h
  · exact .inl ⟨decide_eq_true h, decide_eq_false (by omega), by simp; omega⟩
  · exact .inr (.inr ⟨decide_eq_false (by omega), decide_eq_false (by omega), by simp [h]⟩)
  · exact .inr (.inl ⟨decide_eq_false (by omega), decide_eq_true (by omega), by simp; omega⟩)

set_option maxRecDepth 20000 in
set_option maxHeartbeats 4000000 in
theorem termOrder_any (w : World) (B : Nat) (ns ms os : List Int) (L1 L2 L3 : Option Addr) (c1 c2 c3 : Nat) (hB : B ≤ w.heap.size) (hns : NumsAt w B ns L1) (hms : NumsAt w B ms L2) (hos : NumsAt w B os L3) (fn : NumsFit ns) (fm : NumsFit ms) (fo : NumsFit os) (hln : ns.length ≤ 9223372036854775807) :
    Calls Try.prog 5 #[.slice L1 ns.length c1, .slice L2 ms.length c2, .slice L3 os.length c3] w fun e w' => e = .returned (.bool true) ∧ Below w.heap.size w w' := by
  obtain ⟨i, hi, hz0, hz1, hz2⟩ := info_get Try.infoTerm
  go_enter Try.func5, Try.ntmps5
  go_wp2_with fail
  refine (known_any _).mono ?_
  rintro e w1 ⟨rfl, ho1⟩
  go_wp2_with fail
  have hs1 := ho1.size
  refine (terms_any ns L1 c1 B 2 2 rfl (by omega) w1 (by omega) (nums_below hns (ho1.mono hB)) fn hln).mono ?_
  rintro e w2 ⟨v, ks, rfl, hk2, ho2, hown, hks⟩
  have hs2 := ho2.size
  have hb2 : Below w.heap.size w w2 := ho1.trans (ho2.mono hs1)
  go_wp2_with fail
  refine (one_any ms L2 c2 B w2 (by omega) (nums_below hms (hb2.mono hB)) fm).mono ?_
  have hm1 := one_may ms
  generalize tapeT ms 4 0 = T1 at *
  obtain ⟨⟨a1, l1⟩, t1⟩ := T1
  rintro e w3 ⟨v1, rfl, ho3, hf1, A1, cap1, b1, o1, rfl, hn1, hA1, hl1⟩
  have HA1 : Hid (flen l1 = 0 ∨ A1 = some ⟨b1, o1, none⟩) := hA1
  have M1 : Hid (may a1 l1 = true) := hm1
  clear hA1 hm1
  have hs3 := ho3.size
  have hb3 : Below w.heap.size w w3 := hb2.trans (ho3.mono (by omega))
  go_wp2_with fail
  refine (one_any os L3 c3 B w3 (by omega) (nums_below hos (hb3.mono hB)) fo).mono ?_
  have hm2 := one_may os
  generalize tapeT os 4 0 = T2 at *
  obtain ⟨⟨a2, l2⟩, t2⟩ := T2
  rintro e w4 ⟨v2, rfl, ho4, hf2, A2, cap2, b2, o2, rfl, hn2, hA2, hl2⟩
  have HA2 : Hid (flen l2 = 0 ∨ A2 = some ⟨b2, o2, none⟩) := hA2
  have M2 : Hid (may a2 l2 = true) := hm2
  clear hA2 hm2
  have hs4 := ho4.size
  have hb4 : Below w.heap.size w w4 := hb3.trans (ho4.mono (by omega))
  have hown4 := owns_below (owns_below hown ho3) ho4
  have hvk := hown.lt
  go_wp2_with (at_builtin; refine wpList_append_lies _ rfl _ _ 22 rfl (w1.heap.size + 1) 24 i (.agg #[.int .i64 0, .int .i64 0, .string ⟨#[]⟩, .slice none 0 0]) 4 56 Try.underlying22 hi hz0 hz1 hz2 rfl (by decide) v ks.length (rowOf ks) rfl ?own ⟨w4.heap.size, 0, none⟩ 2 2 [.int .i64 a1.kind, .int .i64 a1.n, .string a1.s, .slice A1 (flen l1) cap1, .int .i64 a2.kind, .int .i64 a2.n, .string a2.s, .slice A2 (flen l2) cap2] rfl rfl ?c1 ?c2 (by decide) ?c3 ?c4 ?c5 _ rfl ?_)
  case own => exact hown4.alloc _
  case c1 =>
    intro j u hj
    have hj4 : j = 0 ∨ j = 1 ∨ j = 2 ∨ j = 3 ∨ j = 4 ∨ j = 5 ∨ j = 6 ∨ j = 7 := by have := (List.getElem?_eq_some_iff.1 hj).1; simp at this; omega
    rcases hj4 with rfl | rfl | rfl | rfl | rfl | rfl | rfl | rfl <;> (simp at hj; subst hj; simp [Addr.add, go_sem])
  case c2 => intro u hu; simp at hu; rcases hu with rfl | rfl | rfl | rfl | rfl | rfl | rfl | rfl <;> rfl
  case c3 => unfold maxLen; omega
  case c4 => omega
  case c5 => simp; omega
  intro g cap5 w5 hown5 hgrow hat hlt5
  obtain ⟨K, hK⟩ : ∃ K : List Kd, K = ks ++ [⟨0, 0, a1, l1, A1, cap1, b1, o1⟩, ⟨0, 0, a2, l2, A2, cap2, b2, o2⟩] := ⟨_, rfl⟩
  have hKl : ks.length + 2 = K.length := by rw [hK]; simp
  have hb5 : Below w.heap.size w w5 ∧ RowMay w5 g K := by
    have hg1s := hgrow.size
    simp only [World.heap_size_alloc'] at hg1s hat
    have hstep : ∀ q, q < w4.heap.size → v.ownBlock ≠ some q → w5.heap[q]? = w4.heap[q]? := fun q hq hv => by
      rw [hgrow.block q (by simp; omega) (fun e => hv e.symm), Below.heap_alloc _ _ _ (by omega)]
    have hg2 : ∀ q, q < w4.heap.size → v.ownBlock ≠ some q → q ≠ g := fun q hq hv e2 => by
      rcases hat with e | e
      · rw [← e2] at e; exact hv e
      · omega
    have hfr : ∀ q, w2.heap.size ≤ q → v.ownBlock ≠ some q := fun q hq e => by have := hvk q e; omega
    have hall : ∀ k ∈ K, k.Ok w5 (fun b => b < w5.heap.size ∧ b ≠ g) ∧ may k.a k.l = true := by
      intro k hk
      rw [hK] at hk
      rcases List.mem_append.1 hk with hk | hk
      · refine ⟨(hks k hk).1.keep (fun q hq => ⟨by omega, hg2 q (by omega) hq.2.2⟩) (fun q j hq => ?_), (hks k hk).2⟩
        rw [World.cell?_of_block (hstep q (by omega) hq.2.2), ho4.cell (by simp; omega), ho3.cell (by simp; omega)]
      · simp at hk
        rcases hk with rfl | rfl
        · refine ⟨⟨hf1, hn1, HA1.out, RepG.keep (fun q hq => ⟨by omega, hg2 q (by omega) (hfr q hq.1)⟩) (fun q j hq => ?_) hl1⟩, M1.out⟩
          rw [World.cell?_of_block (hstep q (by omega) (hfr q hq.1)), ho4.cell (by simp; omega)]
        · refine ⟨⟨hf2, hn2, HA2.out, RepG.keep (fun q hq => ⟨by omega, hg2 q (by omega) (hfr q (by omega))⟩) (fun q j hq => ?_) hl2⟩, M2.out⟩
          rw [World.cell?_of_block (hstep q (by omega) (hfr q (by omega)))]
    have hrow : rowOf K = rowOf ks ++ [.int .i64 a1.kind, .int .i64 a1.n, .string a1.s, .slice A1 (flen l1) cap1, .int .i64 a2.kind, .int .i64 a2.n, .string a2.s, .slice A2 (flen l2) cap2] := by rw [hK, rowOf_append]; rfl
    refine ⟨hb4.trans ⟨hgrow.os, hgrow.tape, hgrow.output, by omega, fun q hq => hstep q (by omega) (fun e => by have := hvk q e; omega)⟩, ⟨hlt5, fun j hj => ⟨?_, hown5.frozenAt j⟩, fun k hk => ⟨(hall k hk).1, may_ar _ _ (hall k hk).2⟩⟩, fun k hk => (hall k hk).2⟩
    rw [hrow]; exact hown5.cellAt j (by omega)
  rw [hKl]
  have hN : K.length ≤ 4 := by omega
  clear hown hks hown4 hvk hown5 hgrow hat HA1 HA2 M1 M2 hl1 hl2 hK hKl
  obtain ⟨hb5, hrow⟩ := hb5
  have HR : Hid (RowMay w5 g K) := hrow
  clear hrow
  go_wp2_with fail
  go_loopw [8] (fun iv wr => ∃ i : Nat, iv = .int .i64 (i : Int) ∧ i ≤ K.length ∧ Below w5.heap.size w5 wr) (fun iv _ => K.length - (intOf iv).toNat)
  case atStart => exact ⟨0, rfl, by omega, Below.refl _ _⟩
  case round =>
    obtain ⟨i, rfl, hiN, hbl⟩ := hrel
    by_cases hlt : (i : Int) < (K.length : Int)
    · go_wp2_with fail
      obtain ⟨wo, rfl⟩ : ∃ wo : World, wo = wr := ⟨_, rfl⟩
      go_loopw [9] (fun iv wr => ∃ k : Nat, iv = .int .i64 (k : Int) ∧ k ≤ K.length ∧ Below w5.heap.size w5 wr) (fun iv _ => K.length - (intOf iv).toNat)
      case atStart => exact ⟨0, rfl, by omega, hbl⟩
      case round =>
        obtain ⟨k, rfl, hkN, hbk⟩ := hrel
        clear hbl
        by_cases hlk : (k : Int) < (K.length : Int)
        · have hiK : i < K.length := by omega
          have hkK : k < K.length := by omega
          have e1 := fun (W : World) (hW : Below w5.heap.size w5 W) => HR.out.cells hW i hiK
          have e2 := fun (W : World) (hW : Below w5.heap.size w5 W) => HR.out.cells hW k hkK
          have c1 := fun (W : World) (hW : Below w5.heap.size w5 W) => HR.out.less hW i k hiK hkK
          have c2 := fun (W : World) (hW : Below w5.heap.size w5 W) => HR.out.less hW k i hkK hiK
          have c3 := fun (W : World) (hW : Below w5.heap.size w5 W) => HR.out.same hW i k hiK hkK
          have t3 : ∀ j, Hid (j < K.length → (∀ W, Below w5.heap.size w5 W → W.cell? ⟨g, j * 4, none⟩ = some (.int .i64 (K.getD j kd0).a.kind) ∧ W.cell? ⟨g, j * 4 + 1, none⟩ = some (.int .i64 (K.getD j kd0).a.n) ∧ W.cell? ⟨g, j * 4 + 2, none⟩ = some (.string (K.getD j kd0).a.s) ∧ W.cell? ⟨g, j * 4 + 3, none⟩ = some (.slice (K.getD j kd0).A (flen (K.getD j kd0).l) (K.getD j kd0).cap)) ∧
              (∀ W, Below w5.heap.size w5 W → Calls Try.prog 20 #[(.agg #[.int .i64 (K.getD k kd0).a.kind, .int .i64 (K.getD k kd0).a.n, .string (K.getD k kd0).a.s, .slice (K.getD k kd0).A (flen (K.getD k kd0).l) (K.getD k kd0).cap]), (.agg #[.int .i64 (K.getD j kd0).a.kind, .int .i64 (K.getD j kd0).a.n, .string (K.getD j kd0).a.s, .slice (K.getD j kd0).A (flen (K.getD j kd0).l) (K.getD j kd0).cap])] W fun e w' => e = .returned (.bool (decide (ordK (K.getD k kd0) (K.getD j kd0) < 0))) ∧ Below w5.heap.size w5 w') ∧
              (∀ W, Below w5.heap.size w5 W → Calls Try.prog 20 #[(.agg #[.int .i64 (K.getD i kd0).a.kind, .int .i64 (K.getD i kd0).a.n, .string (K.getD i kd0).a.s, .slice (K.getD i kd0).A (flen (K.getD i kd0).l) (K.getD i kd0).cap]), (.agg #[.int .i64 (K.getD j kd0).a.kind, .int .i64 (K.getD j kd0).a.n, .string (K.getD j kd0).a.s, .slice (K.getD j kd0).A (flen (K.getD j kd0).l) (K.getD j kd0).cap])] W fun e w' => e = .returned (.bool (decide (ordK (K.getD i kd0) (K.getD j kd0) < 0))) ∧ Below w5.heap.size w5 w') ∧
              Tri (ordK (K.getD i kd0) (K.getD k kd0)) (ordK (K.getD k kd0) (K.getD j kd0)) (ordK (K.getD i kd0) (K.getD j kd0))) :=
            fun j hjK => ⟨fun W hW => HR.out.cells hW j hjK, fun W hW => HR.out.less hW k j hkK hjK, fun W hW => HR.out.less hW i j hiK hjK, tri_ordT _ _ _ _ _ _⟩
          rw [show ordK (K.getD k kd0) (K.getD i kd0) = - ordK (K.getD i kd0) (K.getD k kd0) from neg_ordT _ _ _ _] at c2
          generalize K.getD i kd0 = x at *
          generalize K.getD k kd0 = y at *
          have h3 := one_of (x := ordK x y)
          generalize hp0 : decide (ordK x y < 0) = p at *
          generalize decide (-ordK x y < 0) = q at *
          generalize (ordK x y == 0) = r at *
          have E1 : Hid _ := e1
          have E2 : Hid _ := e2
          have C1 : Hid _ := c1
          have C2 : Hid _ := c2
          have C3 : Hid _ := c3
          have HP : Hid (decide (ordK x y < 0) = p) := hp0
          clear e1 e2 c1 c2 c3 hp0
          have hi0 : (0 : Int) ≤ (i : Int) := by omega
          have hk0 : (0 : Int) ≤ (k : Int) := by omega
          rcases h3 with ⟨rfl, rfl, rfl⟩ | ⟨rfl, rfl, rfl⟩ | ⟨rfl, rfl, rfl⟩
          · go_wp2_with fail
            go_region_held3 (fun w' => (w'.cell? ⟨g, i * 4, none⟩ = some (.int .i64 x.a.kind) ∧ w'.cell? ⟨g, i * 4 + 1, none⟩ = some (.int .i64 x.a.n) ∧ w'.cell? ⟨g, i * 4 + 2, none⟩ = some (.string x.a.s) ∧ w'.cell? ⟨g, i * 4 + 3, none⟩ = some (.slice x.A (flen x.l) x.cap)) ∧ (w'.cell? ⟨g, k * 4, none⟩ = some (.int .i64 y.a.kind) ∧ w'.cell? ⟨g, k * 4 + 1, none⟩ = some (.int .i64 y.a.n) ∧ w'.cell? ⟨g, k * 4 + 2, none⟩ = some (.string y.a.s) ∧ w'.cell? ⟨g, k * 4 + 3, none⟩ = some (.slice y.A (flen y.l) y.cap)) ∧ Below w5.heap.size w5 w')
              (first | exact ⟨E1.out _ hbk.drew, E2.out _ hbk.drew, hbk.drew⟩ | exact ⟨E1.out _ ho6, E2.out _ ho6, ho6⟩)
              (first
                | (go_at_call 20; refine (C1.out _ ?_).mono ?_; exact (And.right (And.right (by assumption))); rintro e w6 ⟨rfl, ho6⟩))
            go_wp2_with fail
            go_region_held3 (fun w' => (w'.cell? ⟨g, i * 4, none⟩ = some (.int .i64 x.a.kind) ∧ w'.cell? ⟨g, i * 4 + 1, none⟩ = some (.int .i64 x.a.n) ∧ w'.cell? ⟨g, i * 4 + 2, none⟩ = some (.string x.a.s) ∧ w'.cell? ⟨g, i * 4 + 3, none⟩ = some (.slice x.A (flen x.l) x.cap)) ∧ (w'.cell? ⟨g, k * 4, none⟩ = some (.int .i64 y.a.kind) ∧ w'.cell? ⟨g, k * 4 + 1, none⟩ = some (.int .i64 y.a.n) ∧ w'.cell? ⟨g, k * 4 + 2, none⟩ = some (.string y.a.s) ∧ w'.cell? ⟨g, k * 4 + 3, none⟩ = some (.slice y.A (flen y.l) y.cap)) ∧ Below w5.heap.size w5 w')
              (first | exact ⟨E1.out _ ho6.drew, E2.out _ ho6.drew, ho6.drew⟩ | exact ⟨E1.out _ ho7, E2.out _ ho7, ho7⟩)
              (first
                | (go_at_call 20; refine (C2.out _ ?_).mono ?_; exact (And.right (And.right (by assumption))); rintro e w7 ⟨rfl, ho7⟩))
            go_wp2_with fail
            go_region_held3 (fun w' => (w'.cell? ⟨g, i * 4, none⟩ = some (.int .i64 x.a.kind) ∧ w'.cell? ⟨g, i * 4 + 1, none⟩ = some (.int .i64 x.a.n) ∧ w'.cell? ⟨g, i * 4 + 2, none⟩ = some (.string x.a.s) ∧ w'.cell? ⟨g, i * 4 + 3, none⟩ = some (.slice x.A (flen x.l) x.cap)) ∧ (w'.cell? ⟨g, k * 4, none⟩ = some (.int .i64 y.a.kind) ∧ w'.cell? ⟨g, k * 4 + 1, none⟩ = some (.int .i64 y.a.n) ∧ w'.cell? ⟨g, k * 4 + 2, none⟩ = some (.string y.a.s) ∧ w'.cell? ⟨g, k * 4 + 3, none⟩ = some (.slice y.A (flen y.l) y.cap)) ∧ Below w5.heap.size w5 w')
              (first | exact ⟨E1.out _ ho7.drew, E2.out _ ho7.drew, ho7.drew⟩ | exact ⟨E1.out _ ho8, E2.out _ ho8, ho8⟩)
              (first
                | (go_at_call 18; refine (C3.out _ ?_).mono ?_; exact (And.right (And.right (by assumption))); rintro e w8 ⟨rfl, ho8⟩))
            go_wp2_with fail
            clear hbk ho6 ho7
            go_loopw [11] (fun iv wr => ∃ j : Nat, iv = .int .i64 (j : Int) ∧ j ≤ K.length ∧ Below w5.heap.size w5 wr) (fun iv _ => K.length - (intOf iv).toNat)
            case atStart => exact ⟨0, rfl, by omega, ho8⟩
            case round =>
              obtain ⟨j, rfl, hjN, hbj⟩ := hrel
              clear ho8
              by_cases hlj : (j : Int) < (K.length : Int)
              · have hj0 : (0 : Int) ≤ (j : Int) := by omega
                obtain ⟨e3, c4, c5, tri⟩ := (t3 j).out (by omega)
                generalize K.getD j kd0 = z at *
                have tri' : decide (ordK x y < 0) = true → decide (ordK y z < 0) = true → decide (ordK x z < 0) = true := by
                  intro h1 h2
                  have h1 := of_decide_eq_true h1
                  have h2 := of_decide_eq_true h2
                  unfold Tri at tri
                  exact decide_eq_true (by omega)
                rw [HP.out] at tri'
                clear tri
                generalize decide (ordK y z < 0) = p2 at *
                generalize decide (ordK x z < 0) = p3 at *
                have E3 : Hid _ := e3
                have C4 : Hid _ := c4
                have C5 : Hid _ := c5
                clear e3 c4 c5
                cases p2
                · clear tri'
                  go_wp2_with fail
                  refine wp_region_held_drew (S := fun w' => (w'.cell? ⟨g, i * 4, none⟩ = some (.int .i64 x.a.kind) ∧ w'.cell? ⟨g, i * 4 + 1, none⟩ = some (.int .i64 x.a.n) ∧ w'.cell? ⟨g, i * 4 + 2, none⟩ = some (.string x.a.s) ∧ w'.cell? ⟨g, i * 4 + 3, none⟩ = some (.slice x.A (flen x.l) x.cap)) ∧ (w'.cell? ⟨g, k * 4, none⟩ = some (.int .i64 y.a.kind) ∧ w'.cell? ⟨g, k * 4 + 1, none⟩ = some (.int .i64 y.a.n) ∧ w'.cell? ⟨g, k * 4 + 2, none⟩ = some (.string y.a.s) ∧ w'.cell? ⟨g, k * 4 + 3, none⟩ = some (.slice y.A (flen y.l) y.cap)) ∧ (w'.cell? ⟨g, j * 4, none⟩ = some (.int .i64 z.a.kind) ∧ w'.cell? ⟨g, j * 4 + 1, none⟩ = some (.int .i64 z.a.n) ∧ w'.cell? ⟨g, j * 4 + 2, none⟩ = some (.string z.a.s) ∧ w'.cell? ⟨g, j * 4 + 3, none⟩ = some (.slice z.A (flen z.l) z.cap)) ∧ Below w5.heap.size w5 w') (by kernel_rfl) ⟨E1.out _ hbj.drew, E2.out _ hbj.drew, E3.out _ hbj.drew, hbj.drew⟩ (fun hHeld => ?_)
                  refine wpAnyH_take (i := 0) (oi := { dst := some 75, op := Op.move (Operand.tmp 7), type := 22, pos := "law.go:146", after := #[], guard := none }) (v := ?v0_1) rfl (by kernel_rfl) (by kernel_rfl) (by kernel_rfl) (fun _ _ _ h => h) (Or.inl ⟨by rfl, ?y0_1⟩) (by assumption) ?r0_1
                  case y0_1 => (intro w hSw; (try dsimp only at hSw); go_simp <;> with_reducible rfl)
                  try simp only [Act.put, List.setIfInBounds_toArray, List.set_cons_zero, List.set_cons_succ]
                  refine wpAnyH_take (i := 1) (oi := { dst := some 76, op := Op.move (Operand.tmp 8), type := 3, pos := "law.go:146", after := #[], guard := none }) (v := ?v1_2) rfl (by kernel_rfl) (by kernel_rfl) (by kernel_rfl) (fun _ _ _ h => h) (Or.inl ⟨by rfl, ?y1_2⟩) (by assumption) ?r1_2
                  case y1_2 => (intro w hSw; (try dsimp only at hSw); go_simp <;> with_reducible rfl)
                  try simp only [Act.put, List.setIfInBounds_toArray, List.set_cons_zero, List.set_cons_succ]
                  refine wpAnyH_take (i := 2) (oi := { dst := some 77, op := Op.indexAddr 22 (Operand.tmp 75) (Operand.tmp 76), type := 0, pos := "law.go:146", after := #[{ on := 0, ground := Ground.data }, { on := 1, ground := Ground.data }], guard := none }) (v := ?v2_3) rfl (by kernel_rfl) (by kernel_rfl) (by kernel_rfl) (fun _ _ _ h => h) (Or.inl ⟨by rfl, ?y2_3⟩) (by assumption) ?r2_3
                  case y2_3 => (intro w hSw; (try dsimp only at hSw); go_simp <;> with_reducible rfl)
                  try simp only [Act.put, List.setIfInBounds_toArray, List.set_cons_zero, List.set_cons_succ]
                  refine wpAnyH_take (i := 3) (oi := { dst := some 78, op := Op.load 24 (Operand.tmp 77), type := 24, pos := "law.go:146", after := #[{ on := 2, ground := Ground.data }], guard := none }) (v := ?v3_4) rfl (by kernel_rfl) (by kernel_rfl) (by kernel_rfl) (fun _ _ _ h => h) (Or.inl ⟨by rfl, ?y3_4⟩) (by assumption) ?r3_4
                  case y3_4 => (intro w hSw; (try dsimp only at hSw); go_simp <;> with_reducible rfl)
                  try simp only [Act.put, List.setIfInBounds_toArray, List.set_cons_zero, List.set_cons_succ]
                  refine wpAnyH_take (i := 4) (oi := { dst := some 79, op := Op.move (Operand.tmp 7), type := 22, pos := "law.go:146", after := #[], guard := none }) (v := ?v4_5) rfl (by kernel_rfl) (by kernel_rfl) (by kernel_rfl) (fun _ _ _ h => h) (Or.inl ⟨by rfl, ?y4_5⟩) (by assumption) ?r4_5
                  case y4_5 => (intro w hSw; (try dsimp only at hSw); go_simp <;> with_reducible rfl)
                  try simp only [Act.put, List.setIfInBounds_toArray, List.set_cons_zero, List.set_cons_succ]
                  refine wpAnyH_take (i := 5) (oi := { dst := some 80, op := Op.move (Operand.tmp 9), type := 3, pos := "law.go:146", after := #[], guard := none }) (v := ?v5_6) rfl (by kernel_rfl) (by kernel_rfl) (by kernel_rfl) (fun _ _ _ h => h) (Or.inl ⟨by rfl, ?y5_6⟩) (by assumption) ?r5_6
                  case y5_6 => (intro w hSw; (try dsimp only at hSw); go_simp <;> with_reducible rfl)
                  try simp only [Act.put, List.setIfInBounds_toArray, List.set_cons_zero, List.set_cons_succ]
                  refine wpAnyH_take (i := 6) (oi := { dst := some 81, op := Op.indexAddr 22 (Operand.tmp 79) (Operand.tmp 80), type := 0, pos := "law.go:146", after := #[{ on := 4, ground := Ground.data }, { on := 5, ground := Ground.data }], guard := none }) (v := ?v6_7) rfl (by kernel_rfl) (by kernel_rfl) (by kernel_rfl) (fun _ _ _ h => h) (Or.inl ⟨by rfl, ?y6_7⟩) (by assumption) ?r6_7
                  case y6_7 => (intro w hSw; (try dsimp only at hSw); go_simp <;> with_reducible rfl)
                  try simp only [Act.put, List.setIfInBounds_toArray, List.set_cons_zero, List.set_cons_succ]
                  refine wpAnyH_take (i := 7) (oi := { dst := some 82, op := Op.load 24 (Operand.tmp 81), type := 24, pos := "law.go:146", after := #[{ on := 6, ground := Ground.data }], guard := none }) (v := ?v7_8) rfl (by kernel_rfl) (by kernel_rfl) (by kernel_rfl) (fun _ _ _ h => h) (Or.inl ⟨by rfl, ?y7_8⟩) (by assumption) ?r7_8
                  case y7_8 => (intro w hSw; (try dsimp only at hSw); go_simp <;> with_reducible rfl)
                  try simp only [Act.put, List.setIfInBounds_toArray, List.set_cons_zero, List.set_cons_succ]
                  refine wpAnyH_ready (rs := [8]) (by kernel_rfl) (by simp) (AllReadyH.cons (o := { dst := some 83, op := Op.call { callee := Callee.value (Operand.func 20), args := #[Operand.tmp 78, Operand.tmp 82], argTypes := #[24, 24] }, type := 4, pos := "law.go:146", after := #[{ on := 3, ground := Ground.data }, { on := 7, ground := Ground.data }], guard := none }) rfl (fun K hK => ?_) AllReadyH.nil)
                  go_simp
                  refine (C1.out _ ?_).mono ?_
                  · exact (And.right (And.right (And.right hHeld)))
                  rintro e w9 ⟨rfl, ho9⟩
                  go_wp2_with fail
                  refine hK.out _ _ ⟨E1.out _ ho9, E2.out _ ho9, E3.out _ ho9, ho9⟩ (fun hHeld => ?_)
                  clear hK K
                  try simp only [Act.put, List.setIfInBounds_toArray, List.set_cons_zero, List.set_cons_succ]
                  refine wpAnyH_take (i := 9) (oi := { dst := some 84, op := Op.move (Operand.tmp 83), type := 4, pos := "law.go:146", after := #[{ on := 8, ground := Ground.data }, { on := 8, ground := Ground.chain }], guard := none }) (v := ?v9_9) rfl (by kernel_rfl) (by kernel_rfl) (by kernel_rfl) (fun _ _ _ h => h) (Or.inl ⟨by rfl, ?y9_9⟩) (by assumption) ?r9_9
                  case y9_9 => (intro w hSw; (try dsimp only at hSw); go_simp <;> with_reducible rfl)
                  try simp only [Act.put, List.setIfInBounds_toArray, List.set_cons_zero, List.set_cons_succ]
                  refine wpAnyH_take (i := 10) (oi := { dst := some 85, op := Op.move (Operand.tmp 7), type := 22, pos := "law.go:146", after := #[{ on := 9, ground := Ground.guard }], guard := some (9, true) }) (v := ?v10_10) rfl (by kernel_rfl) (by kernel_rfl) (by kernel_rfl) (fun _ _ _ h => h) (Or.inl ⟨by rfl, ?y10_10⟩) (by assumption) ?r10_10
                  case y10_10 => (intro w hSw; (try dsimp only at hSw); go_simp <;> with_reducible rfl)
                  try simp only [Act.put, List.setIfInBounds_toArray, List.set_cons_zero, List.set_cons_succ]
                  refine wpAnyH_take (i := 11) (oi := { dst := some 86, op := Op.move (Operand.tmp 9), type := 3, pos := "law.go:146", after := #[{ on := 9, ground := Ground.guard }], guard := some (9, true) }) (v := ?v11_11) rfl (by kernel_rfl) (by kernel_rfl) (by kernel_rfl) (fun _ _ _ h => h) (Or.inl ⟨by rfl, ?y11_11⟩) (by assumption) ?r11_11
                  case y11_11 => (intro w hSw; (try dsimp only at hSw); go_simp <;> with_reducible rfl)
                  try simp only [Act.put, List.setIfInBounds_toArray, List.set_cons_zero, List.set_cons_succ]
                  refine wpAnyH_take (i := 12) (oi := { dst := some 87, op := Op.indexAddr 22 (Operand.tmp 85) (Operand.tmp 86), type := 0, pos := "law.go:146", after := #[{ on := 10, ground := Ground.data }, { on := 11, ground := Ground.data }, { on := 9, ground := Ground.guard }], guard := some (9, true) }) (v := ?v12_12) rfl (by kernel_rfl) (by kernel_rfl) (by kernel_rfl) (fun _ _ _ h => h) (Or.inl ⟨by rfl, ?y12_12⟩) (by assumption) ?r12_12
                  case y12_12 => (intro w hSw; (try dsimp only at hSw); go_simp <;> with_reducible rfl)
                  try simp only [Act.put, List.setIfInBounds_toArray, List.set_cons_zero, List.set_cons_succ]
                  refine wpAnyH_take (i := 13) (oi := { dst := some 88, op := Op.load 24 (Operand.tmp 87), type := 24, pos := "law.go:146", after := #[{ on := 12, ground := Ground.data }, { on := 9, ground := Ground.guard }], guard := some (9, true) }) (v := ?v13_13) rfl (by kernel_rfl) (by kernel_rfl) (by kernel_rfl) (fun _ _ _ h => h) (Or.inl ⟨by rfl, ?y13_13⟩) (by assumption) ?r13_13
                  case y13_13 => (intro w hSw; (try dsimp only at hSw); go_simp <;> with_reducible rfl)
                  try simp only [Act.put, List.setIfInBounds_toArray, List.set_cons_zero, List.set_cons_succ]
                  refine wpAnyH_take (i := 14) (oi := { dst := some 89, op := Op.move (Operand.tmp 7), type := 22, pos := "law.go:146", after := #[{ on := 9, ground := Ground.guard }], guard := some (9, true) }) (v := ?v14_14) rfl (by kernel_rfl) (by kernel_rfl) (by kernel_rfl) (fun _ _ _ h => h) (Or.inl ⟨by rfl, ?y14_14⟩) (by assumption) ?r14_14
                  case y14_14 => (intro w hSw; (try dsimp only at hSw); go_simp <;> with_reducible rfl)
                  try simp only [Act.put, List.setIfInBounds_toArray, List.set_cons_zero, List.set_cons_succ]
                  refine wpAnyH_take (i := 15) (oi := { dst := some 90, op := Op.move (Operand.tmp 11), type := 3, pos := "law.go:146", after := #[{ on := 9, ground := Ground.guard }], guard := some (9, true) }) (v := ?v15_15) rfl (by kernel_rfl) (by kernel_rfl) (by kernel_rfl) (fun _ _ _ h => h) (Or.inl ⟨by rfl, ?y15_15⟩) (by assumption) ?r15_15
                  case y15_15 => (intro w hSw; (try dsimp only at hSw); go_simp <;> with_reducible rfl)
                  try simp only [Act.put, List.setIfInBounds_toArray, List.set_cons_zero, List.set_cons_succ]
                  refine wpAnyH_take (i := 16) (oi := { dst := some 91, op := Op.indexAddr 22 (Operand.tmp 89) (Operand.tmp 90), type := 0, pos := "law.go:146", after := #[{ on := 14, ground := Ground.data }, { on := 15, ground := Ground.data }, { on := 9, ground := Ground.guard }], guard := some (9, true) }) (v := ?v16_16) rfl (by kernel_rfl) (by kernel_rfl) (by kernel_rfl) (fun _ _ _ h => h) (Or.inl ⟨by rfl, ?y16_16⟩) (by assumption) ?r16_16
                  case y16_16 => (intro w hSw; (try dsimp only at hSw); go_simp <;> with_reducible rfl)
                  try simp only [Act.put, List.setIfInBounds_toArray, List.set_cons_zero, List.set_cons_succ]
                  refine wpAnyH_take (i := 17) (oi := { dst := some 92, op := Op.load 24 (Operand.tmp 91), type := 24, pos := "law.go:146", after := #[{ on := 16, ground := Ground.data }, { on := 9, ground := Ground.guard }], guard := some (9, true) }) (v := ?v17_17) rfl (by kernel_rfl) (by kernel_rfl) (by kernel_rfl) (fun _ _ _ h => h) (Or.inl ⟨by rfl, ?y17_17⟩) (by assumption) ?r17_17
                  case y17_17 => (intro w hSw; (try dsimp only at hSw); go_simp <;> with_reducible rfl)
                  try simp only [Act.put, List.setIfInBounds_toArray, List.set_cons_zero, List.set_cons_succ]
                  refine wpAnyH_ready (rs := [18]) (by kernel_rfl) (by simp) (AllReadyH.cons (o := { dst := some 93, op := Op.call { callee := Callee.value (Operand.func 20), args := #[Operand.tmp 88, Operand.tmp 92], argTypes := #[24, 24] }, type := 4, pos := "law.go:146", after := #[{ on := 13, ground := Ground.data }, { on := 17, ground := Ground.data }, { on := 9, ground := Ground.chain }, { on := 9, ground := Ground.guard }], guard := some (9, true) }) rfl (fun K hK => ?_) AllReadyH.nil)
                  go_simp
                  refine (C4.out _ ?_).mono ?_
                  · exact (And.right (And.right (And.right hHeld)))
                  rintro e w10 ⟨rfl, ho10⟩
                  go_wp2_with fail
                  refine hK.out _ _ ⟨E1.out _ ho10, E2.out _ ho10, E3.out _ ho10, ho10⟩ (fun hHeld => ?_)
                  clear hK K
                  try simp only [Act.put, List.setIfInBounds_toArray, List.set_cons_zero, List.set_cons_succ]
                  refine wpAnyH_take (i := 19) (oi := { dst := some 94, op := Op.pick (Operand.tmp 84) (Operand.tmp 93) (Operand.const (Value.bool false)), type := 4, pos := "law.go:146", after := #[{ on := 9, ground := Ground.data }, { on := 18, ground := Ground.data }], guard := none }) (v := ?v19_18) rfl (by kernel_rfl) (by kernel_rfl) (by kernel_rfl) (fun _ _ _ h => h) (Or.inl ⟨by rfl, ?y19_18⟩) (by assumption) ?r19_18
                  case y19_18 => (intro w hSw; (try dsimp only at hSw); go_simp <;> with_reducible rfl)
                  try simp only [Act.put, List.setIfInBounds_toArray, List.set_cons_zero, List.set_cons_succ]
                  refine wpAnyH_take (i := 20) (oi := { dst := some 95, op := Op.move (Operand.tmp 94), type := 4, pos := "law.go:146", after := #[{ on := 19, ground := Ground.data }, { on := 18, ground := Ground.chain }], guard := none }) (v := ?v20_19) rfl (by kernel_rfl) (by kernel_rfl) (by kernel_rfl) (fun _ _ _ h => h) (Or.inl ⟨by rfl, ?y20_19⟩) (by assumption) ?r20_19
                  case y20_19 => (intro w hSw; (try dsimp only at hSw); go_simp <;> with_reducible rfl)
                  try simp only [Act.put, List.setIfInBounds_toArray, List.set_cons_zero, List.set_cons_succ]
                  refine wpAnyH_take (i := 21) (oi := { dst := some 96, op := Op.move (Operand.tmp 7), type := 22, pos := "law.go:146", after := #[{ on := 20, ground := Ground.guard }], guard := some (20, true) }) (v := undef) rfl (by kernel_rfl) (by kernel_rfl) (by kernel_rfl) (fun _ _ _ h => h) (Or.inr ⟨by rfl, rfl⟩) (by assumption) ?_
                  try simp only [Act.put, List.setIfInBounds_toArray, List.set_cons_zero, List.set_cons_succ]
                  refine wpAnyH_take (i := 22) (oi := { dst := some 97, op := Op.move (Operand.tmp 8), type := 3, pos := "law.go:146", after := #[{ on := 20, ground := Ground.guard }], guard := some (20, true) }) (v := undef) rfl (by kernel_rfl) (by kernel_rfl) (by kernel_rfl) (fun _ _ _ h => h) (Or.inr ⟨by rfl, rfl⟩) (by assumption) ?_
                  try simp only [Act.put, List.setIfInBounds_toArray, List.set_cons_zero, List.set_cons_succ]
                  refine wpAnyH_take (i := 23) (oi := { dst := some 98, op := Op.indexAddr 22 (Operand.tmp 96) (Operand.tmp 97), type := 0, pos := "law.go:146", after := #[{ on := 21, ground := Ground.data }, { on := 22, ground := Ground.data }, { on := 20, ground := Ground.guard }], guard := some (20, true) }) (v := undef) rfl (by kernel_rfl) (by kernel_rfl) (by kernel_rfl) (fun _ _ _ h => h) (Or.inr ⟨by rfl, rfl⟩) (by assumption) ?_
                  try simp only [Act.put, List.setIfInBounds_toArray, List.set_cons_zero, List.set_cons_succ]
                  refine wpAnyH_take (i := 24) (oi := { dst := some 99, op := Op.load 24 (Operand.tmp 98), type := 24, pos := "law.go:146", after := #[{ on := 23, ground := Ground.data }, { on := 20, ground := Ground.guard }], guard := some (20, true) }) (v := undef) rfl (by kernel_rfl) (by kernel_rfl) (by kernel_rfl) (fun _ _ _ h => h) (Or.inr ⟨by rfl, rfl⟩) (by assumption) ?_
                  try simp only [Act.put, List.setIfInBounds_toArray, List.set_cons_zero, List.set_cons_succ]
                  refine wpAnyH_take (i := 25) (oi := { dst := some 100, op := Op.move (Operand.tmp 7), type := 22, pos := "law.go:146", after := #[{ on := 20, ground := Ground.guard }], guard := some (20, true) }) (v := undef) rfl (by kernel_rfl) (by kernel_rfl) (by kernel_rfl) (fun _ _ _ h => h) (Or.inr ⟨by rfl, rfl⟩) (by assumption) ?_
                  try simp only [Act.put, List.setIfInBounds_toArray, List.set_cons_zero, List.set_cons_succ]
                  refine wpAnyH_take (i := 26) (oi := { dst := some 101, op := Op.move (Operand.tmp 11), type := 3, pos := "law.go:146", after := #[{ on := 20, ground := Ground.guard }], guard := some (20, true) }) (v := undef) rfl (by kernel_rfl) (by kernel_rfl) (by kernel_rfl) (fun _ _ _ h => h) (Or.inr ⟨by rfl, rfl⟩) (by assumption) ?_
                  try simp only [Act.put, List.setIfInBounds_toArray, List.set_cons_zero, List.set_cons_succ]
                  refine wpAnyH_take (i := 27) (oi := { dst := some 102, op := Op.indexAddr 22 (Operand.tmp 100) (Operand.tmp 101), type := 0, pos := "law.go:146", after := #[{ on := 25, ground := Ground.data }, { on := 26, ground := Ground.data }, { on := 20, ground := Ground.guard }], guard := some (20, true) }) (v := undef) rfl (by kernel_rfl) (by kernel_rfl) (by kernel_rfl) (fun _ _ _ h => h) (Or.inr ⟨by rfl, rfl⟩) (by assumption) ?_
                  try simp only [Act.put, List.setIfInBounds_toArray, List.set_cons_zero, List.set_cons_succ]
                  refine wpAnyH_take (i := 28) (oi := { dst := some 103, op := Op.load 24 (Operand.tmp 102), type := 24, pos := "law.go:146", after := #[{ on := 27, ground := Ground.data }, { on := 20, ground := Ground.guard }], guard := some (20, true) }) (v := undef) rfl (by kernel_rfl) (by kernel_rfl) (by kernel_rfl) (fun _ _ _ h => h) (Or.inr ⟨by rfl, rfl⟩) (by assumption) ?_
                  try simp only [Act.put, List.setIfInBounds_toArray, List.set_cons_zero, List.set_cons_succ]
                  refine wpAnyH_take (i := 29) (oi := { dst := some 104, op := Op.call { callee := Callee.value (Operand.func 20), args := #[Operand.tmp 99, Operand.tmp 103], argTypes := #[24, 24] }, type := 4, pos := "law.go:146", after := #[{ on := 24, ground := Ground.data }, { on := 28, ground := Ground.data }, { on := 20, ground := Ground.chain }, { on := 20, ground := Ground.guard }], guard := some (20, true) }) (v := undef) rfl (by kernel_rfl) (by kernel_rfl) (by kernel_rfl) (fun _ _ _ h => h) (Or.inr ⟨by rfl, rfl⟩) (by assumption) ?_
                  try simp only [Act.put, List.setIfInBounds_toArray, List.set_cons_zero, List.set_cons_succ]
                  refine wpAnyH_take (i := 30) (oi := { dst := some 105, op := Op.unOp UnOp.not 4 (Operand.tmp 104), type := 4, pos := "law.go:146", after := #[{ on := 29, ground := Ground.data }, { on := 20, ground := Ground.guard }], guard := some (20, true) }) (v := undef) rfl (by kernel_rfl) (by kernel_rfl) (by kernel_rfl) (fun _ _ _ h => h) (Or.inr ⟨by rfl, rfl⟩) (by assumption) ?_
                  try simp only [Act.put, List.setIfInBounds_toArray, List.set_cons_zero, List.set_cons_succ]
                  refine wpAnyH_take (i := 31) (oi := { dst := some 106, op := Op.pick (Operand.tmp 95) (Operand.tmp 105) (Operand.const (Value.bool false)), type := 4, pos := "law.go:146", after := #[{ on := 20, ground := Ground.data }, { on := 30, ground := Ground.data }], guard := none }) (v := ?v31_20) rfl (by kernel_rfl) (by kernel_rfl) (by kernel_rfl) (fun _ _ _ h => h) (Or.inl ⟨by rfl, ?y31_20⟩) (by assumption) ?r31_20
                  case y31_20 => (intro w hSw; (try dsimp only at hSw); go_simp <;> with_reducible rfl)
                  try simp only [Act.put, List.setIfInBounds_toArray, List.set_cons_zero, List.set_cons_succ]
                  refine wpAnyH_done (by kernel_rfl) ?_ _
                  go_wp2_with fail
                  go_roundw
                  case rel => exact ⟨j + 1, by go_num, by omega, by assumption⟩
                  case measure => simp [intOf]; omega
                · obtain rfl : p3 = true := tri' rfl rfl
                  clear tri'
                  go_wp2_with fail
                  go_region_held3 (fun w' => (w'.cell? ⟨g, i * 4, none⟩ = some (.int .i64 x.a.kind) ∧ w'.cell? ⟨g, i * 4 + 1, none⟩ = some (.int .i64 x.a.n) ∧ w'.cell? ⟨g, i * 4 + 2, none⟩ = some (.string x.a.s) ∧ w'.cell? ⟨g, i * 4 + 3, none⟩ = some (.slice x.A (flen x.l) x.cap)) ∧ (w'.cell? ⟨g, k * 4, none⟩ = some (.int .i64 y.a.kind) ∧ w'.cell? ⟨g, k * 4 + 1, none⟩ = some (.int .i64 y.a.n) ∧ w'.cell? ⟨g, k * 4 + 2, none⟩ = some (.string y.a.s) ∧ w'.cell? ⟨g, k * 4 + 3, none⟩ = some (.slice y.A (flen y.l) y.cap)) ∧ (w'.cell? ⟨g, j * 4, none⟩ = some (.int .i64 z.a.kind) ∧ w'.cell? ⟨g, j * 4 + 1, none⟩ = some (.int .i64 z.a.n) ∧ w'.cell? ⟨g, j * 4 + 2, none⟩ = some (.string z.a.s) ∧ w'.cell? ⟨g, j * 4 + 3, none⟩ = some (.slice z.A (flen z.l) z.cap)) ∧ Below w5.heap.size w5 w')
                (first | exact ⟨E1.out _ hbj.drew, E2.out _ hbj.drew, E3.out _ hbj.drew, hbj.drew⟩ | exact ⟨E1.out _ (by assumption), E2.out _ (by assumption), E3.out _ (by assumption), (by assumption)⟩)
                (first
                  | (go_at_call_of 20 (Value.string x.a.s); go_at_call_of 20 (Value.string y.a.s); refine (C1.out _ ?_).mono ?_; exact (And.right (And.right (And.right (by assumption)))); rintro e w9 ⟨rfl, ho9⟩)
                  | (go_at_call_of 20 (Value.string y.a.s); go_at_call_of 20 (Value.string z.a.s); refine (C4.out _ ?_).mono ?_; exact (And.right (And.right (And.right (by assumption)))); rintro e w10 ⟨rfl, ho10⟩)
                  | (go_at_call_of 20 (Value.string x.a.s); go_at_call_of 20 (Value.string z.a.s); refine (C5.out _ ?_).mono ?_; exact (And.right (And.right (And.right (by assumption)))); rintro e w11 ⟨rfl, ho11⟩))
                  go_wp2_with fail
                  go_roundw
                  case rel => exact ⟨j + 1, by go_num, by omega, by assumption⟩
                  case measure => simp [intOf]; omega
              · go_wp2_with fail
                go_roundw
                case rel => exact ⟨k + 1, by go_num, by omega, hbj⟩
                case measure => simp [intOf]; omega
          · go_wp2_with fail
            go_region_held3 (fun w' => (w'.cell? ⟨g, i * 4, none⟩ = some (.int .i64 x.a.kind) ∧ w'.cell? ⟨g, i * 4 + 1, none⟩ = some (.int .i64 x.a.n) ∧ w'.cell? ⟨g, i * 4 + 2, none⟩ = some (.string x.a.s) ∧ w'.cell? ⟨g, i * 4 + 3, none⟩ = some (.slice x.A (flen x.l) x.cap)) ∧ (w'.cell? ⟨g, k * 4, none⟩ = some (.int .i64 y.a.kind) ∧ w'.cell? ⟨g, k * 4 + 1, none⟩ = some (.int .i64 y.a.n) ∧ w'.cell? ⟨g, k * 4 + 2, none⟩ = some (.string y.a.s) ∧ w'.cell? ⟨g, k * 4 + 3, none⟩ = some (.slice y.A (flen y.l) y.cap)) ∧ Below w5.heap.size w5 w')
              (first | exact ⟨E1.out _ hbk.drew, E2.out _ hbk.drew, hbk.drew⟩ | exact ⟨E1.out _ ho6, E2.out _ ho6, ho6⟩)
              (first
                | (go_at_call 20; refine (C1.out _ ?_).mono ?_; exact (And.right (And.right (by assumption))); rintro e w6 ⟨rfl, ho6⟩))
            go_wp2_with fail
            go_region_held3 (fun w' => (w'.cell? ⟨g, i * 4, none⟩ = some (.int .i64 x.a.kind) ∧ w'.cell? ⟨g, i * 4 + 1, none⟩ = some (.int .i64 x.a.n) ∧ w'.cell? ⟨g, i * 4 + 2, none⟩ = some (.string x.a.s) ∧ w'.cell? ⟨g, i * 4 + 3, none⟩ = some (.slice x.A (flen x.l) x.cap)) ∧ (w'.cell? ⟨g, k * 4, none⟩ = some (.int .i64 y.a.kind) ∧ w'.cell? ⟨g, k * 4 + 1, none⟩ = some (.int .i64 y.a.n) ∧ w'.cell? ⟨g, k * 4 + 2, none⟩ = some (.string y.a.s) ∧ w'.cell? ⟨g, k * 4 + 3, none⟩ = some (.slice y.A (flen y.l) y.cap)) ∧ Below w5.heap.size w5 w')
              (first | exact ⟨E1.out _ ho6.drew, E2.out _ ho6.drew, ho6.drew⟩ | exact ⟨E1.out _ ho7, E2.out _ ho7, ho7⟩)
              (first
                | (go_at_call 20; refine (C2.out _ ?_).mono ?_; exact (And.right (And.right (by assumption))); rintro e w7 ⟨rfl, ho7⟩))
            go_wp2_with fail
            go_region_held3 (fun w' => (w'.cell? ⟨g, i * 4, none⟩ = some (.int .i64 x.a.kind) ∧ w'.cell? ⟨g, i * 4 + 1, none⟩ = some (.int .i64 x.a.n) ∧ w'.cell? ⟨g, i * 4 + 2, none⟩ = some (.string x.a.s) ∧ w'.cell? ⟨g, i * 4 + 3, none⟩ = some (.slice x.A (flen x.l) x.cap)) ∧ (w'.cell? ⟨g, k * 4, none⟩ = some (.int .i64 y.a.kind) ∧ w'.cell? ⟨g, k * 4 + 1, none⟩ = some (.int .i64 y.a.n) ∧ w'.cell? ⟨g, k * 4 + 2, none⟩ = some (.string y.a.s) ∧ w'.cell? ⟨g, k * 4 + 3, none⟩ = some (.slice y.A (flen y.l) y.cap)) ∧ Below w5.heap.size w5 w')
              (first | exact ⟨E1.out _ ho7.drew, E2.out _ ho7.drew, ho7.drew⟩ | exact ⟨E1.out _ ho8, E2.out _ ho8, ho8⟩)
              (first
                | (go_at_call 18; refine (C3.out _ ?_).mono ?_; exact (And.right (And.right (by assumption))); rintro e w8 ⟨rfl, ho8⟩))
            go_wp2_with fail
            clear hbk ho6 ho7
            go_loopw [11] (fun iv wr => ∃ j : Nat, iv = .int .i64 (j : Int) ∧ j ≤ K.length ∧ Below w5.heap.size w5 wr) (fun iv _ => K.length - (intOf iv).toNat)
            case atStart => exact ⟨0, rfl, by omega, ho8⟩
            case round =>
              obtain ⟨j, rfl, hjN, hbj⟩ := hrel
              clear ho8
              by_cases hlj : (j : Int) < (K.length : Int)
              · have hj0 : (0 : Int) ≤ (j : Int) := by omega
                obtain ⟨e3, c4, c5, tri⟩ := (t3 j).out (by omega)
                generalize K.getD j kd0 = z at *
                have tri' : decide (ordK x y < 0) = true → decide (ordK y z < 0) = true → decide (ordK x z < 0) = true := by
                  intro h1 h2
                  have h1 := of_decide_eq_true h1
                  have h2 := of_decide_eq_true h2
                  unfold Tri at tri
                  exact decide_eq_true (by omega)
                rw [HP.out] at tri'
                clear tri
                generalize decide (ordK y z < 0) = p2 at *
                generalize decide (ordK x z < 0) = p3 at *
                have E3 : Hid _ := e3
                have C4 : Hid _ := c4
                have C5 : Hid _ := c5
                clear e3 c4 c5
                clear tri'
                go_wp2_with fail
                refine wp_region_held_drew (S := fun w' => (w'.cell? ⟨g, i * 4, none⟩ = some (.int .i64 x.a.kind) ∧ w'.cell? ⟨g, i * 4 + 1, none⟩ = some (.int .i64 x.a.n) ∧ w'.cell? ⟨g, i * 4 + 2, none⟩ = some (.string x.a.s) ∧ w'.cell? ⟨g, i * 4 + 3, none⟩ = some (.slice x.A (flen x.l) x.cap)) ∧ (w'.cell? ⟨g, k * 4, none⟩ = some (.int .i64 y.a.kind) ∧ w'.cell? ⟨g, k * 4 + 1, none⟩ = some (.int .i64 y.a.n) ∧ w'.cell? ⟨g, k * 4 + 2, none⟩ = some (.string y.a.s) ∧ w'.cell? ⟨g, k * 4 + 3, none⟩ = some (.slice y.A (flen y.l) y.cap)) ∧ (w'.cell? ⟨g, j * 4, none⟩ = some (.int .i64 z.a.kind) ∧ w'.cell? ⟨g, j * 4 + 1, none⟩ = some (.int .i64 z.a.n) ∧ w'.cell? ⟨g, j * 4 + 2, none⟩ = some (.string z.a.s) ∧ w'.cell? ⟨g, j * 4 + 3, none⟩ = some (.slice z.A (flen z.l) z.cap)) ∧ Below w5.heap.size w5 w') (by kernel_rfl) ⟨E1.out _ hbj.drew, E2.out _ hbj.drew, E3.out _ hbj.drew, hbj.drew⟩ (fun hHeld => ?_)
                refine wpAnyH_take (i := 0) (oi := { dst := some 75, op := Op.move (Operand.tmp 7), type := 22, pos := "law.go:146", after := #[], guard := none }) (v := ?v0_21) rfl (by kernel_rfl) (by kernel_rfl) (by kernel_rfl) (fun _ _ _ h => h) (Or.inl ⟨by rfl, ?y0_21⟩) (by assumption) ?r0_21
                case y0_21 => (intro w hSw; (try dsimp only at hSw); go_simp <;> with_reducible rfl)
                try simp only [Act.put, List.setIfInBounds_toArray, List.set_cons_zero, List.set_cons_succ]
                refine wpAnyH_take (i := 1) (oi := { dst := some 76, op := Op.move (Operand.tmp 8), type := 3, pos := "law.go:146", after := #[], guard := none }) (v := ?v1_22) rfl (by kernel_rfl) (by kernel_rfl) (by kernel_rfl) (fun _ _ _ h => h) (Or.inl ⟨by rfl, ?y1_22⟩) (by assumption) ?r1_22
                case y1_22 => (intro w hSw; (try dsimp only at hSw); go_simp <;> with_reducible rfl)
                try simp only [Act.put, List.setIfInBounds_toArray, List.set_cons_zero, List.set_cons_succ]
                refine wpAnyH_take (i := 2) (oi := { dst := some 77, op := Op.indexAddr 22 (Operand.tmp 75) (Operand.tmp 76), type := 0, pos := "law.go:146", after := #[{ on := 0, ground := Ground.data }, { on := 1, ground := Ground.data }], guard := none }) (v := ?v2_23) rfl (by kernel_rfl) (by kernel_rfl) (by kernel_rfl) (fun _ _ _ h => h) (Or.inl ⟨by rfl, ?y2_23⟩) (by assumption) ?r2_23
                case y2_23 => (intro w hSw; (try dsimp only at hSw); go_simp <;> with_reducible rfl)
                try simp only [Act.put, List.setIfInBounds_toArray, List.set_cons_zero, List.set_cons_succ]
                refine wpAnyH_take (i := 3) (oi := { dst := some 78, op := Op.load 24 (Operand.tmp 77), type := 24, pos := "law.go:146", after := #[{ on := 2, ground := Ground.data }], guard := none }) (v := ?v3_24) rfl (by kernel_rfl) (by kernel_rfl) (by kernel_rfl) (fun _ _ _ h => h) (Or.inl ⟨by rfl, ?y3_24⟩) (by assumption) ?r3_24
                case y3_24 => (intro w hSw; (try dsimp only at hSw); go_simp <;> with_reducible rfl)
                try simp only [Act.put, List.setIfInBounds_toArray, List.set_cons_zero, List.set_cons_succ]
                refine wpAnyH_take (i := 4) (oi := { dst := some 79, op := Op.move (Operand.tmp 7), type := 22, pos := "law.go:146", after := #[], guard := none }) (v := ?v4_25) rfl (by kernel_rfl) (by kernel_rfl) (by kernel_rfl) (fun _ _ _ h => h) (Or.inl ⟨by rfl, ?y4_25⟩) (by assumption) ?r4_25
                case y4_25 => (intro w hSw; (try dsimp only at hSw); go_simp <;> with_reducible rfl)
                try simp only [Act.put, List.setIfInBounds_toArray, List.set_cons_zero, List.set_cons_succ]
                refine wpAnyH_take (i := 5) (oi := { dst := some 80, op := Op.move (Operand.tmp 9), type := 3, pos := "law.go:146", after := #[], guard := none }) (v := ?v5_26) rfl (by kernel_rfl) (by kernel_rfl) (by kernel_rfl) (fun _ _ _ h => h) (Or.inl ⟨by rfl, ?y5_26⟩) (by assumption) ?r5_26
                case y5_26 => (intro w hSw; (try dsimp only at hSw); go_simp <;> with_reducible rfl)
                try simp only [Act.put, List.setIfInBounds_toArray, List.set_cons_zero, List.set_cons_succ]
                refine wpAnyH_take (i := 6) (oi := { dst := some 81, op := Op.indexAddr 22 (Operand.tmp 79) (Operand.tmp 80), type := 0, pos := "law.go:146", after := #[{ on := 4, ground := Ground.data }, { on := 5, ground := Ground.data }], guard := none }) (v := ?v6_27) rfl (by kernel_rfl) (by kernel_rfl) (by kernel_rfl) (fun _ _ _ h => h) (Or.inl ⟨by rfl, ?y6_27⟩) (by assumption) ?r6_27
                case y6_27 => (intro w hSw; (try dsimp only at hSw); go_simp <;> with_reducible rfl)
                try simp only [Act.put, List.setIfInBounds_toArray, List.set_cons_zero, List.set_cons_succ]
                refine wpAnyH_take (i := 7) (oi := { dst := some 82, op := Op.load 24 (Operand.tmp 81), type := 24, pos := "law.go:146", after := #[{ on := 6, ground := Ground.data }], guard := none }) (v := ?v7_28) rfl (by kernel_rfl) (by kernel_rfl) (by kernel_rfl) (fun _ _ _ h => h) (Or.inl ⟨by rfl, ?y7_28⟩) (by assumption) ?r7_28
                case y7_28 => (intro w hSw; (try dsimp only at hSw); go_simp <;> with_reducible rfl)
                try simp only [Act.put, List.setIfInBounds_toArray, List.set_cons_zero, List.set_cons_succ]
                refine wpAnyH_ready (rs := [8]) (by kernel_rfl) (by simp) (AllReadyH.cons (o := { dst := some 83, op := Op.call { callee := Callee.value (Operand.func 20), args := #[Operand.tmp 78, Operand.tmp 82], argTypes := #[24, 24] }, type := 4, pos := "law.go:146", after := #[{ on := 3, ground := Ground.data }, { on := 7, ground := Ground.data }], guard := none }) rfl (fun K hK => ?_) AllReadyH.nil)
                go_simp
                refine (C1.out _ ?_).mono ?_
                · exact (And.right (And.right (And.right hHeld)))
                rintro e w9 ⟨rfl, ho9⟩
                go_wp2_with fail
                refine hK.out _ _ ⟨E1.out _ ho9, E2.out _ ho9, E3.out _ ho9, ho9⟩ (fun hHeld => ?_)
                clear hK K
                try simp only [Act.put, List.setIfInBounds_toArray, List.set_cons_zero, List.set_cons_succ]
                refine wpAnyH_take (i := 9) (oi := { dst := some 84, op := Op.move (Operand.tmp 83), type := 4, pos := "law.go:146", after := #[{ on := 8, ground := Ground.data }, { on := 8, ground := Ground.chain }], guard := none }) (v := ?v9_29) rfl (by kernel_rfl) (by kernel_rfl) (by kernel_rfl) (fun _ _ _ h => h) (Or.inl ⟨by rfl, ?y9_29⟩) (by assumption) ?r9_29
                case y9_29 => (intro w hSw; (try dsimp only at hSw); go_simp <;> with_reducible rfl)
                try simp only [Act.put, List.setIfInBounds_toArray, List.set_cons_zero, List.set_cons_succ]
                refine wpAnyH_take (i := 10) (oi := { dst := some 85, op := Op.move (Operand.tmp 7), type := 22, pos := "law.go:146", after := #[{ on := 9, ground := Ground.guard }], guard := some (9, true) }) (v := undef) rfl (by kernel_rfl) (by kernel_rfl) (by kernel_rfl) (fun _ _ _ h => h) (Or.inr ⟨by rfl, rfl⟩) (by assumption) ?_
                try simp only [Act.put, List.setIfInBounds_toArray, List.set_cons_zero, List.set_cons_succ]
                refine wpAnyH_take (i := 11) (oi := { dst := some 86, op := Op.move (Operand.tmp 9), type := 3, pos := "law.go:146", after := #[{ on := 9, ground := Ground.guard }], guard := some (9, true) }) (v := undef) rfl (by kernel_rfl) (by kernel_rfl) (by kernel_rfl) (fun _ _ _ h => h) (Or.inr ⟨by rfl, rfl⟩) (by assumption) ?_
                try simp only [Act.put, List.setIfInBounds_toArray, List.set_cons_zero, List.set_cons_succ]
                refine wpAnyH_take (i := 12) (oi := { dst := some 87, op := Op.indexAddr 22 (Operand.tmp 85) (Operand.tmp 86), type := 0, pos := "law.go:146", after := #[{ on := 10, ground := Ground.data }, { on := 11, ground := Ground.data }, { on := 9, ground := Ground.guard }], guard := some (9, true) }) (v := undef) rfl (by kernel_rfl) (by kernel_rfl) (by kernel_rfl) (fun _ _ _ h => h) (Or.inr ⟨by rfl, rfl⟩) (by assumption) ?_
                try simp only [Act.put, List.setIfInBounds_toArray, List.set_cons_zero, List.set_cons_succ]
                refine wpAnyH_take (i := 13) (oi := { dst := some 88, op := Op.load 24 (Operand.tmp 87), type := 24, pos := "law.go:146", after := #[{ on := 12, ground := Ground.data }, { on := 9, ground := Ground.guard }], guard := some (9, true) }) (v := undef) rfl (by kernel_rfl) (by kernel_rfl) (by kernel_rfl) (fun _ _ _ h => h) (Or.inr ⟨by rfl, rfl⟩) (by assumption) ?_
                try simp only [Act.put, List.setIfInBounds_toArray, List.set_cons_zero, List.set_cons_succ]
                refine wpAnyH_take (i := 14) (oi := { dst := some 89, op := Op.move (Operand.tmp 7), type := 22, pos := "law.go:146", after := #[{ on := 9, ground := Ground.guard }], guard := some (9, true) }) (v := undef) rfl (by kernel_rfl) (by kernel_rfl) (by kernel_rfl) (fun _ _ _ h => h) (Or.inr ⟨by rfl, rfl⟩) (by assumption) ?_
                try simp only [Act.put, List.setIfInBounds_toArray, List.set_cons_zero, List.set_cons_succ]
                refine wpAnyH_take (i := 15) (oi := { dst := some 90, op := Op.move (Operand.tmp 11), type := 3, pos := "law.go:146", after := #[{ on := 9, ground := Ground.guard }], guard := some (9, true) }) (v := undef) rfl (by kernel_rfl) (by kernel_rfl) (by kernel_rfl) (fun _ _ _ h => h) (Or.inr ⟨by rfl, rfl⟩) (by assumption) ?_
                try simp only [Act.put, List.setIfInBounds_toArray, List.set_cons_zero, List.set_cons_succ]
                refine wpAnyH_take (i := 16) (oi := { dst := some 91, op := Op.indexAddr 22 (Operand.tmp 89) (Operand.tmp 90), type := 0, pos := "law.go:146", after := #[{ on := 14, ground := Ground.data }, { on := 15, ground := Ground.data }, { on := 9, ground := Ground.guard }], guard := some (9, true) }) (v := undef) rfl (by kernel_rfl) (by kernel_rfl) (by kernel_rfl) (fun _ _ _ h => h) (Or.inr ⟨by rfl, rfl⟩) (by assumption) ?_
                try simp only [Act.put, List.setIfInBounds_toArray, List.set_cons_zero, List.set_cons_succ]
                refine wpAnyH_take (i := 17) (oi := { dst := some 92, op := Op.load 24 (Operand.tmp 91), type := 24, pos := "law.go:146", after := #[{ on := 16, ground := Ground.data }, { on := 9, ground := Ground.guard }], guard := some (9, true) }) (v := undef) rfl (by kernel_rfl) (by kernel_rfl) (by kernel_rfl) (fun _ _ _ h => h) (Or.inr ⟨by rfl, rfl⟩) (by assumption) ?_
                try simp only [Act.put, List.setIfInBounds_toArray, List.set_cons_zero, List.set_cons_succ]
                refine wpAnyH_take (i := 18) (oi := { dst := some 93, op := Op.call { callee := Callee.value (Operand.func 20), args := #[Operand.tmp 88, Operand.tmp 92], argTypes := #[24, 24] }, type := 4, pos := "law.go:146", after := #[{ on := 13, ground := Ground.data }, { on := 17, ground := Ground.data }, { on := 9, ground := Ground.chain }, { on := 9, ground := Ground.guard }], guard := some (9, true) }) (v := undef) rfl (by kernel_rfl) (by kernel_rfl) (by kernel_rfl) (fun _ _ _ h => h) (Or.inr ⟨by rfl, rfl⟩) (by assumption) ?_
                try simp only [Act.put, List.setIfInBounds_toArray, List.set_cons_zero, List.set_cons_succ]
                refine wpAnyH_take (i := 19) (oi := { dst := some 94, op := Op.pick (Operand.tmp 84) (Operand.tmp 93) (Operand.const (Value.bool false)), type := 4, pos := "law.go:146", after := #[{ on := 9, ground := Ground.data }, { on := 18, ground := Ground.data }], guard := none }) (v := ?v19_30) rfl (by kernel_rfl) (by kernel_rfl) (by kernel_rfl) (fun _ _ _ h => h) (Or.inl ⟨by rfl, ?y19_30⟩) (by assumption) ?r19_30
                case y19_30 => (intro w hSw; (try dsimp only at hSw); go_simp <;> with_reducible rfl)
                try simp only [Act.put, List.setIfInBounds_toArray, List.set_cons_zero, List.set_cons_succ]
                refine wpAnyH_take (i := 20) (oi := { dst := some 95, op := Op.move (Operand.tmp 94), type := 4, pos := "law.go:146", after := #[{ on := 19, ground := Ground.data }, { on := 18, ground := Ground.chain }], guard := none }) (v := ?v20_31) rfl (by kernel_rfl) (by kernel_rfl) (by kernel_rfl) (fun _ _ _ h => h) (Or.inl ⟨by rfl, ?y20_31⟩) (by assumption) ?r20_31
                case y20_31 => (intro w hSw; (try dsimp only at hSw); go_simp <;> with_reducible rfl)
                try simp only [Act.put, List.setIfInBounds_toArray, List.set_cons_zero, List.set_cons_succ]
                refine wpAnyH_take (i := 21) (oi := { dst := some 96, op := Op.move (Operand.tmp 7), type := 22, pos := "law.go:146", after := #[{ on := 20, ground := Ground.guard }], guard := some (20, true) }) (v := undef) rfl (by kernel_rfl) (by kernel_rfl) (by kernel_rfl) (fun _ _ _ h => h) (Or.inr ⟨by rfl, rfl⟩) (by assumption) ?_
                try simp only [Act.put, List.setIfInBounds_toArray, List.set_cons_zero, List.set_cons_succ]
                refine wpAnyH_take (i := 22) (oi := { dst := some 97, op := Op.move (Operand.tmp 8), type := 3, pos := "law.go:146", after := #[{ on := 20, ground := Ground.guard }], guard := some (20, true) }) (v := undef) rfl (by kernel_rfl) (by kernel_rfl) (by kernel_rfl) (fun _ _ _ h => h) (Or.inr ⟨by rfl, rfl⟩) (by assumption) ?_
                try simp only [Act.put, List.setIfInBounds_toArray, List.set_cons_zero, List.set_cons_succ]
                refine wpAnyH_take (i := 23) (oi := { dst := some 98, op := Op.indexAddr 22 (Operand.tmp 96) (Operand.tmp 97), type := 0, pos := "law.go:146", after := #[{ on := 21, ground := Ground.data }, { on := 22, ground := Ground.data }, { on := 20, ground := Ground.guard }], guard := some (20, true) }) (v := undef) rfl (by kernel_rfl) (by kernel_rfl) (by kernel_rfl) (fun _ _ _ h => h) (Or.inr ⟨by rfl, rfl⟩) (by assumption) ?_
                try simp only [Act.put, List.setIfInBounds_toArray, List.set_cons_zero, List.set_cons_succ]
                refine wpAnyH_take (i := 24) (oi := { dst := some 99, op := Op.load 24 (Operand.tmp 98), type := 24, pos := "law.go:146", after := #[{ on := 23, ground := Ground.data }, { on := 20, ground := Ground.guard }], guard := some (20, true) }) (v := undef) rfl (by kernel_rfl) (by kernel_rfl) (by kernel_rfl) (fun _ _ _ h => h) (Or.inr ⟨by rfl, rfl⟩) (by assumption) ?_
                try simp only [Act.put, List.setIfInBounds_toArray, List.set_cons_zero, List.set_cons_succ]
                refine wpAnyH_take (i := 25) (oi := { dst := some 100, op := Op.move (Operand.tmp 7), type := 22, pos := "law.go:146", after := #[{ on := 20, ground := Ground.guard }], guard := some (20, true) }) (v := undef) rfl (by kernel_rfl) (by kernel_rfl) (by kernel_rfl) (fun _ _ _ h => h) (Or.inr ⟨by rfl, rfl⟩) (by assumption) ?_
                try simp only [Act.put, List.setIfInBounds_toArray, List.set_cons_zero, List.set_cons_succ]
                refine wpAnyH_take (i := 26) (oi := { dst := some 101, op := Op.move (Operand.tmp 11), type := 3, pos := "law.go:146", after := #[{ on := 20, ground := Ground.guard }], guard := some (20, true) }) (v := undef) rfl (by kernel_rfl) (by kernel_rfl) (by kernel_rfl) (fun _ _ _ h => h) (Or.inr ⟨by rfl, rfl⟩) (by assumption) ?_
                try simp only [Act.put, List.setIfInBounds_toArray, List.set_cons_zero, List.set_cons_succ]
                refine wpAnyH_take (i := 27) (oi := { dst := some 102, op := Op.indexAddr 22 (Operand.tmp 100) (Operand.tmp 101), type := 0, pos := "law.go:146", after := #[{ on := 25, ground := Ground.data }, { on := 26, ground := Ground.data }, { on := 20, ground := Ground.guard }], guard := some (20, true) }) (v := undef) rfl (by kernel_rfl) (by kernel_rfl) (by kernel_rfl) (fun _ _ _ h => h) (Or.inr ⟨by rfl, rfl⟩) (by assumption) ?_
                try simp only [Act.put, List.setIfInBounds_toArray, List.set_cons_zero, List.set_cons_succ]
                refine wpAnyH_take (i := 28) (oi := { dst := some 103, op := Op.load 24 (Operand.tmp 102), type := 24, pos := "law.go:146", after := #[{ on := 27, ground := Ground.data }, { on := 20, ground := Ground.guard }], guard := some (20, true) }) (v := undef) rfl (by kernel_rfl) (by kernel_rfl) (by kernel_rfl) (fun _ _ _ h => h) (Or.inr ⟨by rfl, rfl⟩) (by assumption) ?_
                try simp only [Act.put, List.setIfInBounds_toArray, List.set_cons_zero, List.set_cons_succ]
                refine wpAnyH_take (i := 29) (oi := { dst := some 104, op := Op.call { callee := Callee.value (Operand.func 20), args := #[Operand.tmp 99, Operand.tmp 103], argTypes := #[24, 24] }, type := 4, pos := "law.go:146", after := #[{ on := 24, ground := Ground.data }, { on := 28, ground := Ground.data }, { on := 20, ground := Ground.chain }, { on := 20, ground := Ground.guard }], guard := some (20, true) }) (v := undef) rfl (by kernel_rfl) (by kernel_rfl) (by kernel_rfl) (fun _ _ _ h => h) (Or.inr ⟨by rfl, rfl⟩) (by assumption) ?_
                try simp only [Act.put, List.setIfInBounds_toArray, List.set_cons_zero, List.set_cons_succ]
                refine wpAnyH_take (i := 30) (oi := { dst := some 105, op := Op.unOp UnOp.not 4 (Operand.tmp 104), type := 4, pos := "law.go:146", after := #[{ on := 29, ground := Ground.data }, { on := 20, ground := Ground.guard }], guard := some (20, true) }) (v := undef) rfl (by kernel_rfl) (by kernel_rfl) (by kernel_rfl) (fun _ _ _ h => h) (Or.inr ⟨by rfl, rfl⟩) (by assumption) ?_
                try simp only [Act.put, List.setIfInBounds_toArray, List.set_cons_zero, List.set_cons_succ]
                refine wpAnyH_take (i := 31) (oi := { dst := some 106, op := Op.pick (Operand.tmp 95) (Operand.tmp 105) (Operand.const (Value.bool false)), type := 4, pos := "law.go:146", after := #[{ on := 20, ground := Ground.data }, { on := 30, ground := Ground.data }], guard := none }) (v := ?v31_32) rfl (by kernel_rfl) (by kernel_rfl) (by kernel_rfl) (fun _ _ _ h => h) (Or.inl ⟨by rfl, ?y31_32⟩) (by assumption) ?r31_32
                case y31_32 => (intro w hSw; (try dsimp only at hSw); go_simp <;> with_reducible rfl)
                try simp only [Act.put, List.setIfInBounds_toArray, List.set_cons_zero, List.set_cons_succ]
                refine wpAnyH_done (by kernel_rfl) ?_ _
                go_wp2_with fail
                go_roundw
                case rel => exact ⟨j + 1, by go_num, by omega, by assumption⟩
                case measure => simp [intOf]; omega
              · go_wp2_with fail
                go_roundw
                case rel => exact ⟨k + 1, by go_num, by omega, hbj⟩
                case measure => simp [intOf]; omega
          · go_wp2_with fail
            go_region_held3 (fun w' => (w'.cell? ⟨g, i * 4, none⟩ = some (.int .i64 x.a.kind) ∧ w'.cell? ⟨g, i * 4 + 1, none⟩ = some (.int .i64 x.a.n) ∧ w'.cell? ⟨g, i * 4 + 2, none⟩ = some (.string x.a.s) ∧ w'.cell? ⟨g, i * 4 + 3, none⟩ = some (.slice x.A (flen x.l) x.cap)) ∧ (w'.cell? ⟨g, k * 4, none⟩ = some (.int .i64 y.a.kind) ∧ w'.cell? ⟨g, k * 4 + 1, none⟩ = some (.int .i64 y.a.n) ∧ w'.cell? ⟨g, k * 4 + 2, none⟩ = some (.string y.a.s) ∧ w'.cell? ⟨g, k * 4 + 3, none⟩ = some (.slice y.A (flen y.l) y.cap)) ∧ Below w5.heap.size w5 w')
              (first | exact ⟨E1.out _ hbk.drew, E2.out _ hbk.drew, hbk.drew⟩ | exact ⟨E1.out _ ho6, E2.out _ ho6, ho6⟩)
              (first
                | (go_at_call 20; refine (C1.out _ ?_).mono ?_; exact (And.right (And.right (by assumption))); rintro e w6 ⟨rfl, ho6⟩))
            go_wp2_with fail
            go_region_held3 (fun w' => (w'.cell? ⟨g, i * 4, none⟩ = some (.int .i64 x.a.kind) ∧ w'.cell? ⟨g, i * 4 + 1, none⟩ = some (.int .i64 x.a.n) ∧ w'.cell? ⟨g, i * 4 + 2, none⟩ = some (.string x.a.s) ∧ w'.cell? ⟨g, i * 4 + 3, none⟩ = some (.slice x.A (flen x.l) x.cap)) ∧ (w'.cell? ⟨g, k * 4, none⟩ = some (.int .i64 y.a.kind) ∧ w'.cell? ⟨g, k * 4 + 1, none⟩ = some (.int .i64 y.a.n) ∧ w'.cell? ⟨g, k * 4 + 2, none⟩ = some (.string y.a.s) ∧ w'.cell? ⟨g, k * 4 + 3, none⟩ = some (.slice y.A (flen y.l) y.cap)) ∧ Below w5.heap.size w5 w')
              (first | exact ⟨E1.out _ ho6.drew, E2.out _ ho6.drew, ho6.drew⟩ | exact ⟨E1.out _ ho7, E2.out _ ho7, ho7⟩)
              (first
                | (go_at_call 20; refine (C2.out _ ?_).mono ?_; exact (And.right (And.right (by assumption))); rintro e w7 ⟨rfl, ho7⟩))
            go_wp2_with fail
            go_region_held3 (fun w' => (w'.cell? ⟨g, i * 4, none⟩ = some (.int .i64 x.a.kind) ∧ w'.cell? ⟨g, i * 4 + 1, none⟩ = some (.int .i64 x.a.n) ∧ w'.cell? ⟨g, i * 4 + 2, none⟩ = some (.string x.a.s) ∧ w'.cell? ⟨g, i * 4 + 3, none⟩ = some (.slice x.A (flen x.l) x.cap)) ∧ (w'.cell? ⟨g, k * 4, none⟩ = some (.int .i64 y.a.kind) ∧ w'.cell? ⟨g, k * 4 + 1, none⟩ = some (.int .i64 y.a.n) ∧ w'.cell? ⟨g, k * 4 + 2, none⟩ = some (.string y.a.s) ∧ w'.cell? ⟨g, k * 4 + 3, none⟩ = some (.slice y.A (flen y.l) y.cap)) ∧ Below w5.heap.size w5 w')
              (first | exact ⟨E1.out _ ho7.drew, E2.out _ ho7.drew, ho7.drew⟩ | exact ⟨E1.out _ ho8, E2.out _ ho8, ho8⟩)
              (first
                | (go_at_call 18; refine (C3.out _ ?_).mono ?_; exact (And.right (And.right (by assumption))); rintro e w8 ⟨rfl, ho8⟩))
            go_wp2_with fail
            clear hbk ho6 ho7
            go_loopw [11] (fun iv wr => ∃ j : Nat, iv = .int .i64 (j : Int) ∧ j ≤ K.length ∧ Below w5.heap.size w5 wr) (fun iv _ => K.length - (intOf iv).toNat)
            case atStart => exact ⟨0, rfl, by omega, ho8⟩
            case round =>
              obtain ⟨j, rfl, hjN, hbj⟩ := hrel
              clear ho8
              by_cases hlj : (j : Int) < (K.length : Int)
              · have hj0 : (0 : Int) ≤ (j : Int) := by omega
                obtain ⟨e3, c4, c5, tri⟩ := (t3 j).out (by omega)
                generalize K.getD j kd0 = z at *
                have tri' : decide (ordK x y < 0) = true → decide (ordK y z < 0) = true → decide (ordK x z < 0) = true := by
                  intro h1 h2
                  have h1 := of_decide_eq_true h1
                  have h2 := of_decide_eq_true h2
                  unfold Tri at tri
                  exact decide_eq_true (by omega)
                rw [HP.out] at tri'
                clear tri
                generalize decide (ordK y z < 0) = p2 at *
                generalize decide (ordK x z < 0) = p3 at *
                have E3 : Hid _ := e3
                have C4 : Hid _ := c4
                have C5 : Hid _ := c5
                clear e3 c4 c5
                clear tri'
                go_wp2_with fail
                refine wp_region_held_drew (S := fun w' => (w'.cell? ⟨g, i * 4, none⟩ = some (.int .i64 x.a.kind) ∧ w'.cell? ⟨g, i * 4 + 1, none⟩ = some (.int .i64 x.a.n) ∧ w'.cell? ⟨g, i * 4 + 2, none⟩ = some (.string x.a.s) ∧ w'.cell? ⟨g, i * 4 + 3, none⟩ = some (.slice x.A (flen x.l) x.cap)) ∧ (w'.cell? ⟨g, k * 4, none⟩ = some (.int .i64 y.a.kind) ∧ w'.cell? ⟨g, k * 4 + 1, none⟩ = some (.int .i64 y.a.n) ∧ w'.cell? ⟨g, k * 4 + 2, none⟩ = some (.string y.a.s) ∧ w'.cell? ⟨g, k * 4 + 3, none⟩ = some (.slice y.A (flen y.l) y.cap)) ∧ (w'.cell? ⟨g, j * 4, none⟩ = some (.int .i64 z.a.kind) ∧ w'.cell? ⟨g, j * 4 + 1, none⟩ = some (.int .i64 z.a.n) ∧ w'.cell? ⟨g, j * 4 + 2, none⟩ = some (.string z.a.s) ∧ w'.cell? ⟨g, j * 4 + 3, none⟩ = some (.slice z.A (flen z.l) z.cap)) ∧ Below w5.heap.size w5 w') (by kernel_rfl) ⟨E1.out _ hbj.drew, E2.out _ hbj.drew, E3.out _ hbj.drew, hbj.drew⟩ (fun hHeld => ?_)
                refine wpAnyH_take (i := 0) (oi := { dst := some 75, op := Op.move (Operand.tmp 7), type := 22, pos := "law.go:146", after := #[], guard := none }) (v := ?v0_33) rfl (by kernel_rfl) (by kernel_rfl) (by kernel_rfl) (fun _ _ _ h => h) (Or.inl ⟨by rfl, ?y0_33⟩) (by assumption) ?r0_33
                case y0_33 => (intro w hSw; (try dsimp only at hSw); go_simp <;> with_reducible rfl)
                try simp only [Act.put, List.setIfInBounds_toArray, List.set_cons_zero, List.set_cons_succ]
                refine wpAnyH_take (i := 1) (oi := { dst := some 76, op := Op.move (Operand.tmp 8), type := 3, pos := "law.go:146", after := #[], guard := none }) (v := ?v1_34) rfl (by kernel_rfl) (by kernel_rfl) (by kernel_rfl) (fun _ _ _ h => h) (Or.inl ⟨by rfl, ?y1_34⟩) (by assumption) ?r1_34
                case y1_34 => (intro w hSw; (try dsimp only at hSw); go_simp <;> with_reducible rfl)
                try simp only [Act.put, List.setIfInBounds_toArray, List.set_cons_zero, List.set_cons_succ]
                refine wpAnyH_take (i := 2) (oi := { dst := some 77, op := Op.indexAddr 22 (Operand.tmp 75) (Operand.tmp 76), type := 0, pos := "law.go:146", after := #[{ on := 0, ground := Ground.data }, { on := 1, ground := Ground.data }], guard := none }) (v := ?v2_35) rfl (by kernel_rfl) (by kernel_rfl) (by kernel_rfl) (fun _ _ _ h => h) (Or.inl ⟨by rfl, ?y2_35⟩) (by assumption) ?r2_35
                case y2_35 => (intro w hSw; (try dsimp only at hSw); go_simp <;> with_reducible rfl)
                try simp only [Act.put, List.setIfInBounds_toArray, List.set_cons_zero, List.set_cons_succ]
                refine wpAnyH_take (i := 3) (oi := { dst := some 78, op := Op.load 24 (Operand.tmp 77), type := 24, pos := "law.go:146", after := #[{ on := 2, ground := Ground.data }], guard := none }) (v := ?v3_36) rfl (by kernel_rfl) (by kernel_rfl) (by kernel_rfl) (fun _ _ _ h => h) (Or.inl ⟨by rfl, ?y3_36⟩) (by assumption) ?r3_36
                case y3_36 => (intro w hSw; (try dsimp only at hSw); go_simp <;> with_reducible rfl)
                try simp only [Act.put, List.setIfInBounds_toArray, List.set_cons_zero, List.set_cons_succ]
                refine wpAnyH_take (i := 4) (oi := { dst := some 79, op := Op.move (Operand.tmp 7), type := 22, pos := "law.go:146", after := #[], guard := none }) (v := ?v4_37) rfl (by kernel_rfl) (by kernel_rfl) (by kernel_rfl) (fun _ _ _ h => h) (Or.inl ⟨by rfl, ?y4_37⟩) (by assumption) ?r4_37
                case y4_37 => (intro w hSw; (try dsimp only at hSw); go_simp <;> with_reducible rfl)
                try simp only [Act.put, List.setIfInBounds_toArray, List.set_cons_zero, List.set_cons_succ]
                refine wpAnyH_take (i := 5) (oi := { dst := some 80, op := Op.move (Operand.tmp 9), type := 3, pos := "law.go:146", after := #[], guard := none }) (v := ?v5_38) rfl (by kernel_rfl) (by kernel_rfl) (by kernel_rfl) (fun _ _ _ h => h) (Or.inl ⟨by rfl, ?y5_38⟩) (by assumption) ?r5_38
                case y5_38 => (intro w hSw; (try dsimp only at hSw); go_simp <;> with_reducible rfl)
                try simp only [Act.put, List.setIfInBounds_toArray, List.set_cons_zero, List.set_cons_succ]
                refine wpAnyH_take (i := 6) (oi := { dst := some 81, op := Op.indexAddr 22 (Operand.tmp 79) (Operand.tmp 80), type := 0, pos := "law.go:146", after := #[{ on := 4, ground := Ground.data }, { on := 5, ground := Ground.data }], guard := none }) (v := ?v6_39) rfl (by kernel_rfl) (by kernel_rfl) (by kernel_rfl) (fun _ _ _ h => h) (Or.inl ⟨by rfl, ?y6_39⟩) (by assumption) ?r6_39
                case y6_39 => (intro w hSw; (try dsimp only at hSw); go_simp <;> with_reducible rfl)
                try simp only [Act.put, List.setIfInBounds_toArray, List.set_cons_zero, List.set_cons_succ]
                refine wpAnyH_take (i := 7) (oi := { dst := some 82, op := Op.load 24 (Operand.tmp 81), type := 24, pos := "law.go:146", after := #[{ on := 6, ground := Ground.data }], guard := none }) (v := ?v7_40) rfl (by kernel_rfl) (by kernel_rfl) (by kernel_rfl) (fun _ _ _ h => h) (Or.inl ⟨by rfl, ?y7_40⟩) (by assumption) ?r7_40
                case y7_40 => (intro w hSw; (try dsimp only at hSw); go_simp <;> with_reducible rfl)
                try simp only [Act.put, List.setIfInBounds_toArray, List.set_cons_zero, List.set_cons_succ]
                refine wpAnyH_ready (rs := [8]) (by kernel_rfl) (by simp) (AllReadyH.cons (o := { dst := some 83, op := Op.call { callee := Callee.value (Operand.func 20), args := #[Operand.tmp 78, Operand.tmp 82], argTypes := #[24, 24] }, type := 4, pos := "law.go:146", after := #[{ on := 3, ground := Ground.data }, { on := 7, ground := Ground.data }], guard := none }) rfl (fun K hK => ?_) AllReadyH.nil)
                go_simp
                refine (C1.out _ ?_).mono ?_
                · exact (And.right (And.right (And.right hHeld)))
                rintro e w9 ⟨rfl, ho9⟩
                go_wp2_with fail
                refine hK.out _ _ ⟨E1.out _ ho9, E2.out _ ho9, E3.out _ ho9, ho9⟩ (fun hHeld => ?_)
                clear hK K
                try simp only [Act.put, List.setIfInBounds_toArray, List.set_cons_zero, List.set_cons_succ]
                refine wpAnyH_take (i := 9) (oi := { dst := some 84, op := Op.move (Operand.tmp 83), type := 4, pos := "law.go:146", after := #[{ on := 8, ground := Ground.data }, { on := 8, ground := Ground.chain }], guard := none }) (v := ?v9_41) rfl (by kernel_rfl) (by kernel_rfl) (by kernel_rfl) (fun _ _ _ h => h) (Or.inl ⟨by rfl, ?y9_41⟩) (by assumption) ?r9_41
                case y9_41 => (intro w hSw; (try dsimp only at hSw); go_simp <;> with_reducible rfl)
                try simp only [Act.put, List.setIfInBounds_toArray, List.set_cons_zero, List.set_cons_succ]
                refine wpAnyH_take (i := 10) (oi := { dst := some 85, op := Op.move (Operand.tmp 7), type := 22, pos := "law.go:146", after := #[{ on := 9, ground := Ground.guard }], guard := some (9, true) }) (v := undef) rfl (by kernel_rfl) (by kernel_rfl) (by kernel_rfl) (fun _ _ _ h => h) (Or.inr ⟨by rfl, rfl⟩) (by assumption) ?_
                try simp only [Act.put, List.setIfInBounds_toArray, List.set_cons_zero, List.set_cons_succ]
                refine wpAnyH_take (i := 11) (oi := { dst := some 86, op := Op.move (Operand.tmp 9), type := 3, pos := "law.go:146", after := #[{ on := 9, ground := Ground.guard }], guard := some (9, true) }) (v := undef) rfl (by kernel_rfl) (by kernel_rfl) (by kernel_rfl) (fun _ _ _ h => h) (Or.inr ⟨by rfl, rfl⟩) (by assumption) ?_
                try simp only [Act.put, List.setIfInBounds_toArray, List.set_cons_zero, List.set_cons_succ]
                refine wpAnyH_take (i := 12) (oi := { dst := some 87, op := Op.indexAddr 22 (Operand.tmp 85) (Operand.tmp 86), type := 0, pos := "law.go:146", after := #[{ on := 10, ground := Ground.data }, { on := 11, ground := Ground.data }, { on := 9, ground := Ground.guard }], guard := some (9, true) }) (v := undef) rfl (by kernel_rfl) (by kernel_rfl) (by kernel_rfl) (fun _ _ _ h => h) (Or.inr ⟨by rfl, rfl⟩) (by assumption) ?_
                try simp only [Act.put, List.setIfInBounds_toArray, List.set_cons_zero, List.set_cons_succ]
                refine wpAnyH_take (i := 13) (oi := { dst := some 88, op := Op.load 24 (Operand.tmp 87), type := 24, pos := "law.go:146", after := #[{ on := 12, ground := Ground.data }, { on := 9, ground := Ground.guard }], guard := some (9, true) }) (v := undef) rfl (by kernel_rfl) (by kernel_rfl) (by kernel_rfl) (fun _ _ _ h => h) (Or.inr ⟨by rfl, rfl⟩) (by assumption) ?_
                try simp only [Act.put, List.setIfInBounds_toArray, List.set_cons_zero, List.set_cons_succ]
                refine wpAnyH_take (i := 14) (oi := { dst := some 89, op := Op.move (Operand.tmp 7), type := 22, pos := "law.go:146", after := #[{ on := 9, ground := Ground.guard }], guard := some (9, true) }) (v := undef) rfl (by kernel_rfl) (by kernel_rfl) (by kernel_rfl) (fun _ _ _ h => h) (Or.inr ⟨by rfl, rfl⟩) (by assumption) ?_
                try simp only [Act.put, List.setIfInBounds_toArray, List.set_cons_zero, List.set_cons_succ]
                refine wpAnyH_take (i := 15) (oi := { dst := some 90, op := Op.move (Operand.tmp 11), type := 3, pos := "law.go:146", after := #[{ on := 9, ground := Ground.guard }], guard := some (9, true) }) (v := undef) rfl (by kernel_rfl) (by kernel_rfl) (by kernel_rfl) (fun _ _ _ h => h) (Or.inr ⟨by rfl, rfl⟩) (by assumption) ?_
                try simp only [Act.put, List.setIfInBounds_toArray, List.set_cons_zero, List.set_cons_succ]
                refine wpAnyH_take (i := 16) (oi := { dst := some 91, op := Op.indexAddr 22 (Operand.tmp 89) (Operand.tmp 90), type := 0, pos := "law.go:146", after := #[{ on := 14, ground := Ground.data }, { on := 15, ground := Ground.data }, { on := 9, ground := Ground.guard }], guard := some (9, true) }) (v := undef) rfl (by kernel_rfl) (by kernel_rfl) (by kernel_rfl) (fun _ _ _ h => h) (Or.inr ⟨by rfl, rfl⟩) (by assumption) ?_
                try simp only [Act.put, List.setIfInBounds_toArray, List.set_cons_zero, List.set_cons_succ]
                refine wpAnyH_take (i := 17) (oi := { dst := some 92, op := Op.load 24 (Operand.tmp 91), type := 24, pos := "law.go:146", after := #[{ on := 16, ground := Ground.data }, { on := 9, ground := Ground.guard }], guard := some (9, true) }) (v := undef) rfl (by kernel_rfl) (by kernel_rfl) (by kernel_rfl) (fun _ _ _ h => h) (Or.inr ⟨by rfl, rfl⟩) (by assumption) ?_
                try simp only [Act.put, List.setIfInBounds_toArray, List.set_cons_zero, List.set_cons_succ]
                refine wpAnyH_take (i := 18) (oi := { dst := some 93, op := Op.call { callee := Callee.value (Operand.func 20), args := #[Operand.tmp 88, Operand.tmp 92], argTypes := #[24, 24] }, type := 4, pos := "law.go:146", after := #[{ on := 13, ground := Ground.data }, { on := 17, ground := Ground.data }, { on := 9, ground := Ground.chain }, { on := 9, ground := Ground.guard }], guard := some (9, true) }) (v := undef) rfl (by kernel_rfl) (by kernel_rfl) (by kernel_rfl) (fun _ _ _ h => h) (Or.inr ⟨by rfl, rfl⟩) (by assumption) ?_
                try simp only [Act.put, List.setIfInBounds_toArray, List.set_cons_zero, List.set_cons_succ]
                refine wpAnyH_take (i := 19) (oi := { dst := some 94, op := Op.pick (Operand.tmp 84) (Operand.tmp 93) (Operand.const (Value.bool false)), type := 4, pos := "law.go:146", after := #[{ on := 9, ground := Ground.data }, { on := 18, ground := Ground.data }], guard := none }) (v := ?v19_42) rfl (by kernel_rfl) (by kernel_rfl) (by kernel_rfl) (fun _ _ _ h => h) (Or.inl ⟨by rfl, ?y19_42⟩) (by assumption) ?r19_42
                case y19_42 => (intro w hSw; (try dsimp only at hSw); go_simp <;> with_reducible rfl)
                try simp only [Act.put, List.setIfInBounds_toArray, List.set_cons_zero, List.set_cons_succ]
                refine wpAnyH_take (i := 20) (oi := { dst := some 95, op := Op.move (Operand.tmp 94), type := 4, pos := "law.go:146", after := #[{ on := 19, ground := Ground.data }, { on := 18, ground := Ground.chain }], guard := none }) (v := ?v20_43) rfl (by kernel_rfl) (by kernel_rfl) (by kernel_rfl) (fun _ _ _ h => h) (Or.inl ⟨by rfl, ?y20_43⟩) (by assumption) ?r20_43
                case y20_43 => (intro w hSw; (try dsimp only at hSw); go_simp <;> with_reducible rfl)
                try simp only [Act.put, List.setIfInBounds_toArray, List.set_cons_zero, List.set_cons_succ]
                refine wpAnyH_take (i := 21) (oi := { dst := some 96, op := Op.move (Operand.tmp 7), type := 22, pos := "law.go:146", after := #[{ on := 20, ground := Ground.guard }], guard := some (20, true) }) (v := undef) rfl (by kernel_rfl) (by kernel_rfl) (by kernel_rfl) (fun _ _ _ h => h) (Or.inr ⟨by rfl, rfl⟩) (by assumption) ?_
                try simp only [Act.put, List.setIfInBounds_toArray, List.set_cons_zero, List.set_cons_succ]
                refine wpAnyH_take (i := 22) (oi := { dst := some 97, op := Op.move (Operand.tmp 8), type := 3, pos := "law.go:146", after := #[{ on := 20, ground := Ground.guard }], guard := some (20, true) }) (v := undef) rfl (by kernel_rfl) (by kernel_rfl) (by kernel_rfl) (fun _ _ _ h => h) (Or.inr ⟨by rfl, rfl⟩) (by assumption) ?_
                try simp only [Act.put, List.setIfInBounds_toArray, List.set_cons_zero, List.set_cons_succ]
                refine wpAnyH_take (i := 23) (oi := { dst := some 98, op := Op.indexAddr 22 (Operand.tmp 96) (Operand.tmp 97), type := 0, pos := "law.go:146", after := #[{ on := 21, ground := Ground.data }, { on := 22, ground := Ground.data }, { on := 20, ground := Ground.guard }], guard := some (20, true) }) (v := undef) rfl (by kernel_rfl) (by kernel_rfl) (by kernel_rfl) (fun _ _ _ h => h) (Or.inr ⟨by rfl, rfl⟩) (by assumption) ?_
                try simp only [Act.put, List.setIfInBounds_toArray, List.set_cons_zero, List.set_cons_succ]
                refine wpAnyH_take (i := 24) (oi := { dst := some 99, op := Op.load 24 (Operand.tmp 98), type := 24, pos := "law.go:146", after := #[{ on := 23, ground := Ground.data }, { on := 20, ground := Ground.guard }], guard := some (20, true) }) (v := undef) rfl (by kernel_rfl) (by kernel_rfl) (by kernel_rfl) (fun _ _ _ h => h) (Or.inr ⟨by rfl, rfl⟩) (by assumption) ?_
                try simp only [Act.put, List.setIfInBounds_toArray, List.set_cons_zero, List.set_cons_succ]
                refine wpAnyH_take (i := 25) (oi := { dst := some 100, op := Op.move (Operand.tmp 7), type := 22, pos := "law.go:146", after := #[{ on := 20, ground := Ground.guard }], guard := some (20, true) }) (v := undef) rfl (by kernel_rfl) (by kernel_rfl) (by kernel_rfl) (fun _ _ _ h => h) (Or.inr ⟨by rfl, rfl⟩) (by assumption) ?_
                try simp only [Act.put, List.setIfInBounds_toArray, List.set_cons_zero, List.set_cons_succ]
                refine wpAnyH_take (i := 26) (oi := { dst := some 101, op := Op.move (Operand.tmp 11), type := 3, pos := "law.go:146", after := #[{ on := 20, ground := Ground.guard }], guard := some (20, true) }) (v := undef) rfl (by kernel_rfl) (by kernel_rfl) (by kernel_rfl) (fun _ _ _ h => h) (Or.inr ⟨by rfl, rfl⟩) (by assumption) ?_
                try simp only [Act.put, List.setIfInBounds_toArray, List.set_cons_zero, List.set_cons_succ]
                refine wpAnyH_take (i := 27) (oi := { dst := some 102, op := Op.indexAddr 22 (Operand.tmp 100) (Operand.tmp 101), type := 0, pos := "law.go:146", after := #[{ on := 25, ground := Ground.data }, { on := 26, ground := Ground.data }, { on := 20, ground := Ground.guard }], guard := some (20, true) }) (v := undef) rfl (by kernel_rfl) (by kernel_rfl) (by kernel_rfl) (fun _ _ _ h => h) (Or.inr ⟨by rfl, rfl⟩) (by assumption) ?_
                try simp only [Act.put, List.setIfInBounds_toArray, List.set_cons_zero, List.set_cons_succ]
                refine wpAnyH_take (i := 28) (oi := { dst := some 103, op := Op.load 24 (Operand.tmp 102), type := 24, pos := "law.go:146", after := #[{ on := 27, ground := Ground.data }, { on := 20, ground := Ground.guard }], guard := some (20, true) }) (v := undef) rfl (by kernel_rfl) (by kernel_rfl) (by kernel_rfl) (fun _ _ _ h => h) (Or.inr ⟨by rfl, rfl⟩) (by assumption) ?_
                try simp only [Act.put, List.setIfInBounds_toArray, List.set_cons_zero, List.set_cons_succ]
                refine wpAnyH_take (i := 29) (oi := { dst := some 104, op := Op.call { callee := Callee.value (Operand.func 20), args := #[Operand.tmp 99, Operand.tmp 103], argTypes := #[24, 24] }, type := 4, pos := "law.go:146", after := #[{ on := 24, ground := Ground.data }, { on := 28, ground := Ground.data }, { on := 20, ground := Ground.chain }, { on := 20, ground := Ground.guard }], guard := some (20, true) }) (v := undef) rfl (by kernel_rfl) (by kernel_rfl) (by kernel_rfl) (fun _ _ _ h => h) (Or.inr ⟨by rfl, rfl⟩) (by assumption) ?_
                try simp only [Act.put, List.setIfInBounds_toArray, List.set_cons_zero, List.set_cons_succ]
                refine wpAnyH_take (i := 30) (oi := { dst := some 105, op := Op.unOp UnOp.not 4 (Operand.tmp 104), type := 4, pos := "law.go:146", after := #[{ on := 29, ground := Ground.data }, { on := 20, ground := Ground.guard }], guard := some (20, true) }) (v := undef) rfl (by kernel_rfl) (by kernel_rfl) (by kernel_rfl) (fun _ _ _ h => h) (Or.inr ⟨by rfl, rfl⟩) (by assumption) ?_
                try simp only [Act.put, List.setIfInBounds_toArray, List.set_cons_zero, List.set_cons_succ]
                refine wpAnyH_take (i := 31) (oi := { dst := some 106, op := Op.pick (Operand.tmp 95) (Operand.tmp 105) (Operand.const (Value.bool false)), type := 4, pos := "law.go:146", after := #[{ on := 20, ground := Ground.data }, { on := 30, ground := Ground.data }], guard := none }) (v := ?v31_44) rfl (by kernel_rfl) (by kernel_rfl) (by kernel_rfl) (fun _ _ _ h => h) (Or.inl ⟨by rfl, ?y31_44⟩) (by assumption) ?r31_44
                case y31_44 => (intro w hSw; (try dsimp only at hSw); go_simp <;> with_reducible rfl)
                try simp only [Act.put, List.setIfInBounds_toArray, List.set_cons_zero, List.set_cons_succ]
                refine wpAnyH_done (by kernel_rfl) ?_ _
                go_wp2_with fail
                go_roundw
                case rel => exact ⟨j + 1, by go_num, by omega, by assumption⟩
                case measure => simp [intOf]; omega
              · go_wp2_with fail
                go_roundw
                case rel => exact ⟨k + 1, by go_num, by omega, hbj⟩
                case measure => simp [intOf]; omega
        · go_wp2_with fail
          go_roundw
          case rel => exact ⟨i + 1, by go_num, by omega, hbk⟩
          case measure => simp [intOf]; omega
    · go_wp2_with fail
      go_ret
      exact ⟨rfl, hb5.trans (hbl.mono hb5.size)⟩

end Go.Proofs.Ytihfhmlgfacoiaa
