import Derived.Test.YtldpnhlifgkmiaaDoorKF
namespace Go.Proofs.YtldpnhlifgkmiaaDoor
open Go.RowKit
set_option linter.unusedVariables false
set_option linter.unusedSimpArgs false

/-- What Can answers of a term that stands, whatever came since. -/
def CanOf (w8 : World) (v : Value) (ks : List Kd) (k : Kd) (W : World) : Prop := Calls Tryd.prog 15 #[v, k.val] W fun e w' => ∃ b : Bool, e = .returned (.bool b) ∧ Hid (b = true ↔ Knows (tms ks) k.a k.l) ∧ Below w8.heap.size w8 w'
theorem canOf {w8 : World} {v : Value} {ks : List Kd} {k : Kd} (hv : SlT w8 v ks) (hm : ∀ k ∈ ks, may k.a k.l = true) (hN : nodesK ks ≤ 50000) (hl : ks.length ≤ 1000) (hk : k.Ok w8 (fun b => b < w8.heap.size)) (mk : may k.a k.l = true) (htab : Tab10 w8.heap.size w8) :
    ∀ W, Below w8.heap.size w8 W → CanOf w8 v ks k W := fun W hW => by
  refine (knowCan_any ks _ k.a k.l _ W.heap.size W (hv.below hW) hm hN hl (Kd.rep (hk.below hW)) (Nat.le_refl _) mk (htab.keep hW)).mono ?_
  rintro e w' ⟨b, h1, h2, h3⟩
  exact ⟨b, h1, h2, hW.trans (h3.mono hW.size)⟩

set_option maxRecDepth 100000 in
set_option maxHeartbeats 4000000 in
theorem knowGrows_any (w : World) (B : Nat) (ns : List Int) (L1 : Option Addr) (c1 : Nat) (ms : List Int) (L2 : Option Addr) (c2 : Nat) (os : List Int) (L3 : Option Addr) (c3 : Nat) (hB : B ≤ w.heap.size) (hns : NumsAt w B ns L1) (fn : NumsFit ns) (hms : NumsAt w B ms L2) (fm : NumsFit ms) (hos : NumsAt w B os L3) (fo : NumsFit os) (htab : Tab10 w.heap.size w) :
    Calls Tryd.prog 4 #[.slice L1 ns.length c1, .slice L2 ms.length c2, .slice L3 os.length c3] w fun e w' => e = .returned (.bool true) ∧ Below w.heap.size w w' := by
  have HTB : Hid (Tab10 w.heap.size w) := htab
  clear htab
  obtain ⟨i5, hi, hz0, hz1, hz2⟩ := info_get Tryd.infoTerm
  go_enter Tryd.func4, Tryd.ntmps4
  go_wp2_with fail
  refine (known3_any _ HTB.out).mono ?_
  rintro e w1 ⟨rfl, ho1⟩
  go_wp2_with fail
  have hs1 := ho1.size
  refine (terms_any ns L1 c1 B 10 10 rfl (by omega) w1 (by omega) (nums_below hns (ho1.mono hB)) fn fn.1).mono ?_
  rintro e w2 ⟨v, ks, rfl, hk2, ho2, hterms⟩
  obtain ⟨hsl, hmay⟩ := hterms.sl
  have hnk := nodesK_le ks hmay
  have hb2 : Below w.heap.size w w2 := ho1.trans (ho2.mono hs1)
  have HV : Hid (SlT w2 v ks) := hsl
  have HM : Hid (∀ k ∈ ks, may k.a k.l = true) := hmay
  have hs2 := hb2.size
  clear hsl hmay ho1 ho2 hterms hns hs1
  go_wp2_with fail
  refine (one_any ms L2 c2 B w2 (by omega) (nums_below hms (hb2.mono hB)) fm).mono ?_
  rintro e w3 ⟨tv, rfl, ho3, hu⟩
  obtain ⟨kt, ka, kl, rfl, hkt⟩ := hu.kd
  have hmt : may kt.a kt.l = true := by rw [ka, kl]; exact one_may ms
  have hb3 : Below w.heap.size w w3 := hb2.trans (ho3.mono hs2)
  have hs3 := hb3.size
  clear hu ka kl
  go_wp2_with fail
  refine (one_any os L3 c3 B w3 (by omega) (nums_below hos (hb3.mono hB)) fo).mono ?_
  rintro e w4 ⟨uv, rfl, ho4, hu⟩
  obtain ⟨ku, ka, kl, rfl, hku⟩ := hu.kd
  have hmu : may ku.a ku.l = true := by rw [ka, kl]; exact one_may os
  have hb4 : Below w.heap.size w w4 := hb3.trans (ho4.mono hs3)
  have hs4 := hb4.size
  have HKT : Hid (kt.Ok w4 (fun b => b < w4.heap.size) ∧ may kt.a kt.l = true) := ⟨(hkt.keep (S' := fun b => b < w3.heap.size) (fun b hb => hb.2) (fun _ _ _ => rfl)).below ho4, hmt⟩
  have HKU : Hid (ku.Ok w4 (fun b => b < w4.heap.size) ∧ may ku.a ku.l = true) := ⟨hku.keep (fun b hb => hb.2) (fun _ _ _ => rfl), hmu⟩
  have HV4 : Hid (SlT w4 v ks) := HV.out.below (ho3.trans (ho4.mono ho3.size))
  clear hu ka kl hkt hmt hku hmu HV ho3 ho4 hms hos
  go_wp2_with fail
  obtain ⟨w5, hw5⟩ : ∃ W : World, W = (w4.alloc (.cells #[.int .i64 kt.a.kind, .int .i64 kt.a.n, .string kt.a.s, .slice kt.A (flen kt.l) kt.cap] 29)).alloc (.cells #[.int .i64 ku.a.kind, .int .i64 ku.a.n, .string ku.a.s, .slice ku.A (flen ku.l) ku.cap] 29) := ⟨_, rfl⟩
  have hxT : Box4 w5 w4.heap.size (.int .i64 kt.a.kind) (.int .i64 kt.a.n) (.string kt.a.s) (.slice kt.A (flen kt.l) kt.cap) := by rw [hw5]; exact (Box4.new w4 _ _ _ _ _).alloc _
  have hxU : Box4 w5 (w4.heap.size + 1) (.int .i64 ku.a.kind) (.int .i64 ku.a.n) (.string ku.a.s) (.slice ku.A (flen ku.l) ku.cap) := by
    rw [hw5]
    have h := Box4.new (w4.alloc (.cells #[.int .i64 kt.a.kind, .int .i64 kt.a.n, .string kt.a.s, .slice kt.A (flen kt.l) kt.cap] 29)) (.int .i64 ku.a.kind) (.int .i64 ku.a.n) (.string ku.a.s) (.slice ku.A (flen ku.l) ku.cap) 29
    simpa using h
  have hb45 : Below w4.heap.size w4 w5 := by rw [hw5]; exact Below.alloc (Below.alloc (Below.refl _ _) (Nat.le_refl _) _) (by simp) _
  rw [← hw5]
  clear hw5
  have hb5 : Below w.heap.size w w5 := hb4.trans (hb45.mono hs4)
  have HV5 : Hid (SlT w5 v ks) := HV4.out.below hb45
  have HKT5 : Hid (kt.Ok w5 (fun b => b < w5.heap.size) ∧ may kt.a kt.l = true) := ⟨HKT.out.1.below hb45, HKT.out.2⟩
  have HKU5 : Hid (ku.Ok w5 (fun b => b < w5.heap.size) ∧ may ku.a ku.l = true) := ⟨HKU.out.1.below hb45, HKU.out.2⟩
  have HXT : Hid (Box4 w5 w4.heap.size (.int .i64 kt.a.kind) (.int .i64 kt.a.n) (.string kt.a.s) (.slice kt.A (flen kt.l) kt.cap)) := hxT
  have HXU : Hid (Box4 w5 (w4.heap.size + 1) (.int .i64 ku.a.kind) (.int .i64 ku.a.n) (.string ku.a.s) (.slice ku.A (flen ku.l) ku.cap)) := hxU
  clear hxT hxU HV4 HKT HKU hb45 hs2 hs3 hb2 hb3
  have HOKS : Hid (∀ k ∈ ks ++ [ku], k.Ok w5 (fun b => b < w5.heap.size) ∧ k.Ar) := fun k hk => by
    rcases List.mem_append.1 hk with hk | hk
    · exact HV5.out.oks k hk
    · simp only [List.mem_singleton] at hk; rw [hk]; exact ⟨HKU5.out.1, may_ar _ _ HKU5.out.2⟩
  have HMM : Hid (∀ k ∈ ks ++ [ku], may k.a k.l = true) := fun k hk => by
    rcases List.mem_append.1 hk with hk | hk
    · exact HM.out k hk
    · simp only [List.mem_singleton] at hk; rw [hk]; exact HKU5.out.2
  obtain ⟨A, c, rfl, _⟩ := HV5.out.len
  have HSRC : Hid (∀ W, Below w5.heap.size w5 W → SrcAt W 4 A ks.length (rowOf ks)) := fun W hW => (HV5.out.below hW).src rfl
  have o6 : (w5.drew.alloc (.cells #[] 29)).ownsRow w5.heap.size 29 4 (.slice (some ⟨w5.heap.size, 0, none⟩) 0 0) 0 [] := ⟨rfl, .inr ⟨w5.heap.size, 0, #[], rfl, Nat.le_refl _, heap_alloc_new w5.drew _, Nat.le_refl _, Nat.zero_le _, rfl, rfl⟩⟩
  have O6 : Hid ((w5.drew.alloc (.cells #[] 29)).ownsRow w5.heap.size 29 4 (.slice (some ⟨w5.heap.size, 0, none⟩) 0 0) 0 []) := o6
  clear o6
  have hb6 : Below w5.heap.size w5 (w5.drew.alloc (.cells #[] 29)) := Below.alloc (Below.drew (Below.refl _ _)) (Nat.le_refl _) _
  have hnB : ((w5.drew.alloc (.cells #[] 29)).alloc (.cells #[.int .i64 ku.a.kind, .int .i64 ku.a.n, .string ku.a.s, .slice ku.A (flen ku.l) ku.cap] 29)).heap[w5.heap.size + 1]? = some (.cells #[.int .i64 ku.a.kind, .int .i64 ku.a.n, .string ku.a.s, .slice ku.A (flen ku.l) ku.cap] 29 (0, 0)) := by have h := heap_alloc_new (w5.drew.alloc (.cells #[] 29)) (.cells #[.int .i64 ku.a.kind, .int .i64 ku.a.n, .string ku.a.s, .slice ku.A (flen ku.l) ku.cap] 29); rwa [World.heap_size_alloc'] at h
  have hnC : ((w5.drew.alloc (.cells #[.int .i64 ku.a.kind, .int .i64 ku.a.n, .string ku.a.s, .slice ku.A (flen ku.l) ku.cap] 29)).alloc (.cells #[] 29)).heap[w5.heap.size]? = some (.cells #[.int .i64 ku.a.kind, .int .i64 ku.a.n, .string ku.a.s, .slice ku.A (flen ku.l) ku.cap] 29 (0, 0)) := by rw [Below.heap_alloc _ _ _ (by simp)]; exact heap_alloc_new w5.drew _
  have hbC : Below w5.heap.size w5 ((w5.drew.alloc (.cells #[.int .i64 ku.a.kind, .int .i64 ku.a.n, .string ku.a.s, .slice ku.A (flen ku.l) ku.cap] 29)).alloc (.cells #[] 29)) := Below.alloc (Below.alloc (Below.drew (Below.refl _ _)) (Nat.le_refl _) _) (by simp) _
  have OC : Hid (((w5.drew.alloc (.cells #[.int .i64 ku.a.kind, .int .i64 ku.a.n, .string ku.a.s, .slice ku.A (flen ku.l) ku.cap] 29)).alloc (.cells #[] 29)).ownsRow w5.heap.size 29 4 (.slice (some ⟨w5.heap.size + 1, 0, none⟩) 0 0) 0 []) := ⟨rfl, .inr ⟨w5.heap.size + 1, 0, #[], rfl, by omega, (by have h := heap_alloc_new (w5.drew.alloc (.cells #[.int .i64 ku.a.kind, .int .i64 ku.a.n, .string ku.a.s, .slice ku.A (flen ku.l) ku.cap] 29)) (.cells #[] 29); rwa [World.heap_size_alloc'] at h), Nat.le_refl _, Nat.zero_le _, rfl, rfl⟩⟩
  go_region_held3 (fun w' => Box4 w' (w4.heap.size + 1) (.int .i64 ku.a.kind) (.int .i64 ku.a.n) (.string ku.a.s) (.slice ku.A (flen ku.l) ku.cap) ∧ Below w5.heap.size w5 w')
    (first | assumption | exact boxS HXU.out (Below.drew (Below.refl _ _)) | exact boxS HXU.out hb6 | exact boxS HXU.out (Below.alloc (And.right (by assumption)) (Below.size (And.right (by assumption))) _) | exact boxS HXU.out (grown_belowT (And.right (by assumption)) hgrow7 (fun q hq => by simp [Value.ownBlock] at hq; omega)) | exact boxS HXU.out (grown_belowT (And.right (by assumption)) hgrow8 (fun q hq => (hown7.lt q hq).1)))
    (first
      | (refine step_append_any _ (by rfl) _ _ 24 (by rfl) w5.heap.size 29 i5 (.agg #[.int .i64 0, .int .i64 0, .string ⟨#[]⟩, .slice none 0 0]) 4 56 Tryd.underlying24 hi hz0 hz1 hz2 rfl (by decide) (.slice (some ⟨w5.heap.size, 0, none⟩) 0 0) 0 [] (by rfl) O6.out A ks.length c (rowOf ks) (by rfl) (HSRC.out _ hb6) (by unfold maxLen; omega) (by omega) (by simp) ?_; intro v7 w7 hown7 hgrow7 hat7)
      | (refine step_append_any _ (by rfl) _ _ 24 (by rfl) w5.heap.size 29 i5 (.agg #[.int .i64 0, .int .i64 0, .string ⟨#[]⟩, .slice none 0 0]) 4 56 Tryd.underlying24 hi hz0 hz1 hz2 rfl (by decide) (.slice (some ⟨w5.heap.size, 0, none⟩) 0 0) 0 [] (by rfl) (World.ownsRow.alloc O6.out _) A ks.length c (rowOf ks) (by rfl) (HSRC.out _ (Below.alloc hb6 hb6.size _)) (by unfold maxLen; omega) (by omega) (by simp; omega) ?_; intro v7 w7 hown7 hgrow7 hat7)
      | (refine step_append_any _ (by rfl) _ _ 24 (by rfl) w5.heap.size 29 i5 (.agg #[.int .i64 0, .int .i64 0, .string ⟨#[]⟩, .slice none 0 0]) 4 56 Tryd.underlying24 hi hz0 hz1 hz2 rfl (by decide) (.slice (some ⟨w5.heap.size + 1, 0, none⟩) 0 0) 0 [] (by rfl) OC.out A ks.length c (rowOf ks) (by rfl) (HSRC.out _ hbC) (by unfold maxLen; omega) (by omega) (by simp; omega) ?_; intro v7 w7 hown7 hgrow7 hat7)
      | (refine step_append_any _ (by rfl) _ _ 24 (by rfl) w5.heap.size 29 i5 (.agg #[.int .i64 0, .int .i64 0, .string ⟨#[]⟩, .slice none 0 0]) 4 56 Tryd.underlying24 hi hz0 hz1 hz2 rfl (by decide) v7 (0 + ks.length) ([] ++ rowOf ks) (by rfl) (World.ownsRow.alloc hown7 _) (some ⟨w7.heap.size, 0, none⟩) 1 1 ku.cells (by rfl) (.inr ⟨_, rfl, rfl, World.news_of_block (cs := #[.int .i64 ku.a.kind, .int .i64 ku.a.n, .string ku.a.s, .slice ku.A (flen ku.l) ku.cap]) (t := 29) (fr := (0, 0)) (heap_alloc_new w7 _), (by simp [Kd.cells, Value.oneCell'])⟩) (by unfold maxLen; omega) (by omega) (by have := hgrow7.size; simp at this ⊢; omega) ?_; intro v8 w8 hown8 hgrow8 hat8)
      | (refine step_append_any _ (by rfl) _ _ 24 (by rfl) w5.heap.size 29 i5 (.agg #[.int .i64 0, .int .i64 0, .string ⟨#[]⟩, .slice none 0 0]) 4 56 Tryd.underlying24 hi hz0 hz1 hz2 rfl (by decide) v7 (0 + ks.length) ([] ++ rowOf ks) (by rfl) hown7 (some ⟨w5.heap.size + 1, 0, none⟩) 1 1 ku.cells (by rfl) (.inr ⟨_, rfl, rfl, World.news_of_block (cs := #[.int .i64 ku.a.kind, .int .i64 ku.a.n, .string ku.a.s, .slice ku.A (flen ku.l) ku.cap]) (t := 29) (fr := (0, 0)) ((hgrow7.block (w5.heap.size + 1) (by simp) (by simp [Value.ownBlock])).trans hnB), (by simp [Kd.cells, Value.oneCell'])⟩) (by unfold maxLen; omega) (by omega) (by have := hgrow7.size; simp at this; omega) ?_; intro v8 w8 hown8 hgrow8 hat8)
      | (refine step_append_any _ (by rfl) _ _ 24 (by rfl) w5.heap.size 29 i5 (.agg #[.int .i64 0, .int .i64 0, .string ⟨#[]⟩, .slice none 0 0]) 4 56 Tryd.underlying24 hi hz0 hz1 hz2 rfl (by decide) v7 (0 + ks.length) ([] ++ rowOf ks) (by rfl) hown7 (some ⟨w5.heap.size, 0, none⟩) 1 1 ku.cells (by rfl) (.inr ⟨_, rfl, rfl, World.news_of_block (cs := #[.int .i64 ku.a.kind, .int .i64 ku.a.n, .string ku.a.s, .slice ku.A (flen ku.l) ku.cap]) (t := 29) (fr := (0, 0)) ((hgrow7.block w5.heap.size (by simp; omega) (by simp [Value.ownBlock])).trans hnC), (by simp [Kd.cells, Value.oneCell'])⟩) (by unfold maxLen; omega) (by omega) (by have := hgrow7.size; simp at this; omega) ?_; intro v8 w8 hown8 hgrow8 hat8))
  · have hb58 : Below w5.heap.size w5 w8 := And.right (by assumption)
    have hsl8 : SlT w8 v8 (ks ++ [ku]) := owns_sl (by rw [List.length_append, rowOf_append]; simp only [Nat.zero_add, List.nil_append] at hown8; simpa [rowOf] using hown8) hb58 HOKS.out
    have hb8 : Below w.heap.size w w8 := hb5.trans (hb58.mono hb5.size)
    have hs8 := hb8.size
    have htb8 := HTB.out.keep hb8
    have HCLT : Hid (∀ W, Below w8.heap.size w8 W → CanOf w8 (.slice A ks.length c) ks kt W) := canOf (HV5.out.below hb58) HM.out (by omega) (by omega) (HKT5.out.1.below hb58) HKT5.out.2 htb8
    have HCMT : Hid (∀ W, Below w8.heap.size w8 W → CanOf w8 v8 (ks ++ [ku]) kt W) := canOf hsl8 HMM.out (by have := nodesK_le _ HMM.out; simp at this; omega) (by simp; omega) (HKT5.out.1.below hb58) HKT5.out.2 htb8
    have HCLU : Hid (∀ W, Below w8.heap.size w8 W → CanOf w8 (.slice A ks.length c) ks ku W) := canOf (HV5.out.below hb58) HM.out (by omega) (by omega) (HKU5.out.1.below hb58) HKU5.out.2 htb8
    have HXT8 : Hid (Box4 w8 w4.heap.size (.int .i64 kt.a.kind) (.int .i64 kt.a.n) (.string kt.a.s) (.slice kt.A (flen kt.l) kt.cap)) := HXT.out.below hb58
    have HXU8 : Hid (Box4 w8 (w4.heap.size + 1) (.int .i64 ku.a.kind) (.int .i64 ku.a.n) (.string ku.a.s) (.slice ku.A (flen ku.l) ku.cap)) := HXU.out.below hb58
    clear hown8 hgrow8 hat8 hsl8 hown7 hgrow7 hat7 O6 OC HSRC hnB hnC hbC hb6 hb58 htb8
    obtain ⟨x0, x1, x2, x3, x4⟩ := HXT8.out
    go_wp2_with fail
    refine (HCLT.out w8 (Below.refl _ _)).mono ?_
    rintro e w9 ⟨b9, rfl, hk9, hb9⟩
    obtain ⟨y0, y1, y2, y3, y4⟩ := HXT8.out.below hb9
    clear x0 x1 x2 x3 x4
    have HK9 : Hid (Hid (b9 = true ↔ Knows (tms ks) kt.a kt.l)) := hk9
    have HGR : Hid (Knows (tms ks) kt.a kt.l → Knows (tms (ks ++ [ku])) kt.a kt.l) := fun h => Knows.grows (fun x hx => by rw [tms, List.map_append]; exact List.mem_append.2 (.inl hx)) h
    clear hk9
    have HS : Hid (∀ W, Below w8.heap.size w8 W → Box4 W w4.heap.size (.int .i64 kt.a.kind) (.int .i64 kt.a.n) (.string kt.a.s) (.slice kt.A (flen kt.l) kt.cap) ∧ Box4 W (w4.heap.size + 1) (.int .i64 ku.a.kind) (.int .i64 ku.a.n) (.string ku.a.s) (.slice ku.A (flen ku.l) ku.cap) ∧ Below w8.heap.size w8 W) := fun W hW => ⟨HXT8.out.below hW, HXU8.out.below hW, hW⟩
    have HEQ : Hid (Knows (tms ks) ku.a ku.l → (Knows (tms ks) kt.a kt.l ↔ Knows (tms (ks ++ [ku])) kt.a kt.l)) := fun hu => ⟨HGR.out, fun h => Knows.cut (u := (ku.a, ku.l)) (fun x hx => by rw [tms, List.mem_map] at hx; obtain ⟨k, hk, rfl⟩ := hx; exact HM.out k hk) HKU5.out.2 hu (by rw [tms, List.map_append] at h; exact h)⟩
    cases b9 with
    | false =>
      clear HK9 y0 y1 y2 y3 y4
      go_wp2_with fail
      by_cases hKu : Knows (tms ks) ku.a ku.l
      · go_region_held3 (fun w' => Box4 w' w4.heap.size (.int .i64 kt.a.kind) (.int .i64 kt.a.n) (.string kt.a.s) (.slice kt.A (flen kt.l) kt.cap) ∧ Box4 w' (w4.heap.size + 1) (.int .i64 ku.a.kind) (.int .i64 ku.a.n) (.string ku.a.s) (.slice ku.A (flen ku.l) ku.cap) ∧ Below w8.heap.size w8 w')
          (first | assumption | exact HS.out _ hb9.drew | exact HS.out _ hb11 | exact HS.out _ hb12 | exact HS.out _ hb13)
          (first
            | (go_at_call_of 15 (Value.string ku.a.s); refine (HCLU.out _ (And.right (And.right (by assumption)))).mono ?_; rintro e w11 ⟨b11, rfl, hk11, hb11⟩; obtain rfl : b11 = true := hk11.out.2 hKu)
            | (go_at_call_of 15 v8; refine (HCMT.out _ (And.right (And.right (by assumption)))).mono ?_; rintro e w12 ⟨b12, rfl, hk12, hb12⟩)
            | (go_at_call 15; refine (HCLT.out _ (And.right (And.right (by assumption)))).mono ?_; rintro e w13 ⟨b13, rfl, hk13, hb13⟩))
        obtain rfl : b12 = b13 := bool_same hk12.out (hk13.out.trans (HEQ.out hKu))
        have hbe : Below w8.heap.size w8 w13 := hb13
        clear hk11 hk12 hk13
        cases b12 with
        | true =>
          go_wp2_with fail
          go_ret
          exact ⟨rfl, hb8.trans (hbe.mono hs8)⟩
        | false =>
          go_wp2_with fail
          go_ret
          exact ⟨rfl, hb8.trans (hbe.mono hs8)⟩
      · refine wp_region_held_drew (S := fun w' => Box4 w' w4.heap.size (.int .i64 kt.a.kind) (.int .i64 kt.a.n) (.string kt.a.s) (.slice kt.A (flen kt.l) kt.cap) ∧ Box4 w' (w4.heap.size + 1) (.int .i64 ku.a.kind) (.int .i64 ku.a.n) (.string ku.a.s) (.slice ku.A (flen ku.l) ku.cap) ∧ Below w8.heap.size w8 w') (by kernel_rfl) (HS.out _ hb9.drew) (fun hHeld => ?_)
        refine wpAnyH_take (i := 0) (oi := { dst := some 34, op := Op.move (Operand.tmp 7), type := 24, pos := "law.go:46", after := #[], guard := none }) (v := ?vg1_0) rfl (by kernel_rfl) (by kernel_rfl) (by kernel_rfl) (fun _ _ _ h => h) (Or.inl ⟨by rfl, ?yg1_0⟩) (by assumption) ?rg1_0
        case yg1_0 => (intro w hSw; (try dsimp only at hSw); go_simp <;> with_reducible rfl)
        try simp only [Act.put, List.setIfInBounds_toArray, List.set_cons_zero, List.set_cons_succ]
        refine wpAnyH_take (i := 1) (oi := { dst := some 35, op := Op.load 29 (Operand.tmp 9), type := 29, pos := "law.go:46", after := #[], guard := none }) (v := ?vg1_1) rfl (by kernel_rfl) (by kernel_rfl) (by kernel_rfl) (fun _ _ _ h => h) (Or.inl ⟨by rfl, ?yg1_1⟩) (by assumption) ?rg1_1
        case yg1_1 => (intro w hSw; (try dsimp only at hSw); go_simp <;> with_reducible rfl)
        try simp only [Act.put, List.setIfInBounds_toArray, List.set_cons_zero, List.set_cons_succ]
        refine wpAnyH_ready (rs := [2]) (by kernel_rfl) (by simp) (AllReadyH.cons (o := { dst := some 36, op := Op.call { callee := Callee.value (Operand.func 15), args := #[Operand.tmp 34, Operand.tmp 35], argTypes := #[24, 29] }, type := 4, pos := "law.go:46", after := #[{ on := 0, ground := Ground.data }, { on := 1, ground := Ground.data }], guard := none }) rfl (fun K hK => ?_) AllReadyH.nil)
        go_simp
        refine (HCLU.out _ (And.right (And.right hHeld))).mono ?_
        rintro e w11 ⟨b11, rfl, hk11, hb11⟩
        obtain rfl : b11 = false := (by cases b11; rfl; exact absurd (hk11.out.1 rfl) hKu)
        go_wp2_with fail
        refine hK.out _ _ (HS.out _ hb11) (fun hHeld => ?_)
        clear hK K
        try simp only [Act.put, List.setIfInBounds_toArray, List.set_cons_zero, List.set_cons_succ]
        refine wpAnyH_take (i := 3) (oi := { dst := some 37, op := Op.unOp UnOp.not 4 (Operand.tmp 36), type := 4, pos := "law.go:46", after := #[{ on := 2, ground := Ground.data }], guard := none }) (v := ?vg1_3) rfl (by kernel_rfl) (by kernel_rfl) (by kernel_rfl) (fun _ _ _ h => h) (Or.inl ⟨by rfl, ?yg1_3⟩) (by assumption) ?rg1_3
        case yg1_3 => (intro w hSw; (try dsimp only at hSw); go_simp <;> with_reducible rfl)
        try simp only [Act.put, List.setIfInBounds_toArray, List.set_cons_zero, List.set_cons_succ]
        refine wpAnyH_take (i := 4) (oi := { dst := some 38, op := Op.move (Operand.tmp 37), type := 4, pos := "law.go:46", after := #[{ on := 3, ground := Ground.data }, { on := 2, ground := Ground.chain }], guard := none }) (v := ?vg1_4) rfl (by kernel_rfl) (by kernel_rfl) (by kernel_rfl) (fun _ _ _ h => h) (Or.inl ⟨by rfl, ?yg1_4⟩) (by assumption) ?rg1_4
        case yg1_4 => (intro w hSw; (try dsimp only at hSw); go_simp <;> with_reducible rfl)
        try simp only [Act.put, List.setIfInBounds_toArray, List.set_cons_zero, List.set_cons_succ]
        refine wpAnyH_take (i := 5) (oi := { dst := some 39, op := Op.move (Operand.tmp 10), type := 24, pos := "law.go:46", after := #[{ on := 4, ground := Ground.guard }], guard := some (4, false) }) (v := undef) rfl (by kernel_rfl) (by kernel_rfl) (by kernel_rfl) (fun _ _ _ h => h) (Or.inr ⟨by rfl, rfl⟩) (by assumption) ?_
        try simp only [Act.put, List.setIfInBounds_toArray, List.set_cons_zero, List.set_cons_succ]
        refine wpAnyH_take (i := 6) (oi := { dst := some 40, op := Op.load 29 (Operand.tmp 8), type := 29, pos := "law.go:46", after := #[{ on := 4, ground := Ground.guard }], guard := some (4, false) }) (v := undef) rfl (by kernel_rfl) (by kernel_rfl) (by kernel_rfl) (fun _ _ _ h => h) (Or.inr ⟨by rfl, rfl⟩) (by assumption) ?_
        try simp only [Act.put, List.setIfInBounds_toArray, List.set_cons_zero, List.set_cons_succ]
        refine wpAnyH_take (i := 7) (oi := { dst := some 41, op := Op.call { callee := Callee.value (Operand.func 15), args := #[Operand.tmp 39, Operand.tmp 40], argTypes := #[24, 29] }, type := 4, pos := "law.go:46", after := #[{ on := 5, ground := Ground.data }, { on := 6, ground := Ground.data }, { on := 4, ground := Ground.chain }, { on := 4, ground := Ground.guard }], guard := some (4, false) }) (v := undef) rfl (by kernel_rfl) (by kernel_rfl) (by kernel_rfl) (fun _ _ _ h => h) (Or.inr ⟨by rfl, rfl⟩) (by assumption) ?_
        try simp only [Act.put, List.setIfInBounds_toArray, List.set_cons_zero, List.set_cons_succ]
        refine wpAnyH_take (i := 8) (oi := { dst := some 42, op := Op.move (Operand.tmp 7), type := 24, pos := "law.go:46", after := #[{ on := 4, ground := Ground.guard }], guard := some (4, false) }) (v := undef) rfl (by kernel_rfl) (by kernel_rfl) (by kernel_rfl) (fun _ _ _ h => h) (Or.inr ⟨by rfl, rfl⟩) (by assumption) ?_
        try simp only [Act.put, List.setIfInBounds_toArray, List.set_cons_zero, List.set_cons_succ]
        refine wpAnyH_take (i := 9) (oi := { dst := some 43, op := Op.load 29 (Operand.tmp 8), type := 29, pos := "law.go:46", after := #[{ on := 4, ground := Ground.guard }], guard := some (4, false) }) (v := undef) rfl (by kernel_rfl) (by kernel_rfl) (by kernel_rfl) (fun _ _ _ h => h) (Or.inr ⟨by rfl, rfl⟩) (by assumption) ?_
        try simp only [Act.put, List.setIfInBounds_toArray, List.set_cons_zero, List.set_cons_succ]
        refine wpAnyH_take (i := 10) (oi := { dst := some 44, op := Op.call { callee := Callee.value (Operand.func 15), args := #[Operand.tmp 42, Operand.tmp 43], argTypes := #[24, 29] }, type := 4, pos := "law.go:46", after := #[{ on := 8, ground := Ground.data }, { on := 9, ground := Ground.data }, { on := 7, ground := Ground.chain }, { on := 4, ground := Ground.guard }], guard := some (4, false) }) (v := undef) rfl (by kernel_rfl) (by kernel_rfl) (by kernel_rfl) (fun _ _ _ h => h) (Or.inr ⟨by rfl, rfl⟩) (by assumption) ?_
        try simp only [Act.put, List.setIfInBounds_toArray, List.set_cons_zero, List.set_cons_succ]
        refine wpAnyH_take (i := 11) (oi := { dst := some 45, op := Op.binOp BinOp.eql 4 (Operand.tmp 41) (Operand.tmp 44) 4, type := 4, pos := "law.go:46", after := #[{ on := 7, ground := Ground.data }, { on := 10, ground := Ground.data }, { on := 4, ground := Ground.guard }], guard := some (4, false) }) (v := undef) rfl (by kernel_rfl) (by kernel_rfl) (by kernel_rfl) (fun _ _ _ h => h) (Or.inr ⟨by rfl, rfl⟩) (by assumption) ?_
        try simp only [Act.put, List.setIfInBounds_toArray, List.set_cons_zero, List.set_cons_succ]
        refine wpAnyH_take (i := 12) (oi := { dst := some 46, op := Op.pick (Operand.tmp 38) (Operand.const (Value.bool true)) (Operand.tmp 45), type := 4, pos := "law.go:46", after := #[{ on := 4, ground := Ground.data }, { on := 11, ground := Ground.data }], guard := none }) (v := ?vg1_12) rfl (by kernel_rfl) (by kernel_rfl) (by kernel_rfl) (fun _ _ _ h => h) (Or.inl ⟨by rfl, ?yg1_12⟩) (by assumption) ?rg1_12
        case yg1_12 => (intro w hSw; (try dsimp only at hSw); go_simp <;> with_reducible rfl)
        try simp only [Act.put, List.setIfInBounds_toArray, List.set_cons_zero, List.set_cons_succ]
        refine wpAnyH_take (i := 13) (oi := { dst := some 6, op := Op.assign (Operand.tmp 46), type := 4, pos := "law.go:46", after := #[{ on := 12, ground := Ground.data }, { on := 10, ground := Ground.chain }, { on := 0, ground := Ground.phase }, { on := 1, ground := Ground.phase }, { on := 2, ground := Ground.phase }, { on := 3, ground := Ground.phase }, { on := 4, ground := Ground.phase }, { on := 5, ground := Ground.phase }, { on := 6, ground := Ground.phase }, { on := 7, ground := Ground.phase }, { on := 8, ground := Ground.phase }, { on := 9, ground := Ground.phase }, { on := 10, ground := Ground.phase }, { on := 11, ground := Ground.phase }, { on := 12, ground := Ground.phase }], guard := none }) (v := ?vg1_13) rfl (by kernel_rfl) (by kernel_rfl) (by kernel_rfl) (fun _ _ _ h => h) (Or.inl ⟨by rfl, ?yg1_13⟩) (by assumption) ?rg1_13
        case yg1_13 => (intro w hSw; (try dsimp only at hSw); go_simp <;> with_reducible rfl)
        try simp only [Act.put, List.setIfInBounds_toArray, List.set_cons_zero, List.set_cons_succ]
        refine wpAnyH_done (by kernel_rfl) ?_ _
        go_wp2_with fail
        go_ret
        exact ⟨rfl, hb8.trans (hb11.mono hs8)⟩
    | true =>
      have HGK : Hid (Knows (tms (ks ++ [ku])) kt.a kt.l) := HGR.out (HK9.out.out.1 rfl)
      clear HK9
      go_wp2_with fail
      refine (HCMT.out w9 hb9).mono ?_
      rintro e w10 ⟨b10, rfl, hk10, hb10⟩
      obtain rfl : b10 = true := hk10.out.2 HGK.out
      clear hk10 y0 y1 y2 y3 y4
      go_wp2_with fail
      by_cases hKu : Knows (tms ks) ku.a ku.l
      · go_region_held3 (fun w' => Box4 w' w4.heap.size (.int .i64 kt.a.kind) (.int .i64 kt.a.n) (.string kt.a.s) (.slice kt.A (flen kt.l) kt.cap) ∧ Box4 w' (w4.heap.size + 1) (.int .i64 ku.a.kind) (.int .i64 ku.a.n) (.string ku.a.s) (.slice ku.A (flen ku.l) ku.cap) ∧ Below w8.heap.size w8 w')
          (first | assumption | exact HS.out _ hb10.drew | exact HS.out _ hb11 | exact HS.out _ hb12 | exact HS.out _ hb13)
          (first
            | (go_at_call_of 15 (Value.string ku.a.s); refine (HCLU.out _ (And.right (And.right (by assumption)))).mono ?_; rintro e w11 ⟨b11, rfl, hk11, hb11⟩; obtain rfl : b11 = true := hk11.out.2 hKu)
            | (go_at_call_of 15 v8; refine (HCMT.out _ (And.right (And.right (by assumption)))).mono ?_; rintro e w12 ⟨b12, rfl, hk12, hb12⟩)
            | (go_at_call 15; refine (HCLT.out _ (And.right (And.right (by assumption)))).mono ?_; rintro e w13 ⟨b13, rfl, hk13, hb13⟩))
        obtain rfl : b12 = b13 := bool_same hk12.out (hk13.out.trans (HEQ.out hKu))
        have hbe : Below w8.heap.size w8 w13 := hb13
        clear hk11 hk12 hk13
        cases b12 with
        | true =>
          go_wp2_with fail
          go_ret
          exact ⟨rfl, hb8.trans (hbe.mono hs8)⟩
        | false =>
          go_wp2_with fail
          go_ret
          exact ⟨rfl, hb8.trans (hbe.mono hs8)⟩
      · refine wp_region_held_drew (S := fun w' => Box4 w' w4.heap.size (.int .i64 kt.a.kind) (.int .i64 kt.a.n) (.string kt.a.s) (.slice kt.A (flen kt.l) kt.cap) ∧ Box4 w' (w4.heap.size + 1) (.int .i64 ku.a.kind) (.int .i64 ku.a.n) (.string ku.a.s) (.slice ku.A (flen ku.l) ku.cap) ∧ Below w8.heap.size w8 w') (by kernel_rfl) (HS.out _ hb10.drew) (fun hHeld => ?_)
        refine wpAnyH_take (i := 0) (oi := { dst := some 34, op := Op.move (Operand.tmp 7), type := 24, pos := "law.go:46", after := #[], guard := none }) (v := ?vh1_0) rfl (by kernel_rfl) (by kernel_rfl) (by kernel_rfl) (fun _ _ _ h => h) (Or.inl ⟨by rfl, ?yh1_0⟩) (by assumption) ?rh1_0
        case yh1_0 => (intro w hSw; (try dsimp only at hSw); go_simp <;> with_reducible rfl)
        try simp only [Act.put, List.setIfInBounds_toArray, List.set_cons_zero, List.set_cons_succ]
        refine wpAnyH_take (i := 1) (oi := { dst := some 35, op := Op.load 29 (Operand.tmp 9), type := 29, pos := "law.go:46", after := #[], guard := none }) (v := ?vh1_1) rfl (by kernel_rfl) (by kernel_rfl) (by kernel_rfl) (fun _ _ _ h => h) (Or.inl ⟨by rfl, ?yh1_1⟩) (by assumption) ?rh1_1
        case yh1_1 => (intro w hSw; (try dsimp only at hSw); go_simp <;> with_reducible rfl)
        try simp only [Act.put, List.setIfInBounds_toArray, List.set_cons_zero, List.set_cons_succ]
        refine wpAnyH_ready (rs := [2]) (by kernel_rfl) (by simp) (AllReadyH.cons (o := { dst := some 36, op := Op.call { callee := Callee.value (Operand.func 15), args := #[Operand.tmp 34, Operand.tmp 35], argTypes := #[24, 29] }, type := 4, pos := "law.go:46", after := #[{ on := 0, ground := Ground.data }, { on := 1, ground := Ground.data }], guard := none }) rfl (fun K hK => ?_) AllReadyH.nil)
        go_simp
        refine (HCLU.out _ (And.right (And.right hHeld))).mono ?_
        rintro e w11 ⟨b11, rfl, hk11, hb11⟩
        obtain rfl : b11 = false := (by cases b11; rfl; exact absurd (hk11.out.1 rfl) hKu)
        go_wp2_with fail
        refine hK.out _ _ (HS.out _ hb11) (fun hHeld => ?_)
        clear hK K
        try simp only [Act.put, List.setIfInBounds_toArray, List.set_cons_zero, List.set_cons_succ]
        refine wpAnyH_take (i := 3) (oi := { dst := some 37, op := Op.unOp UnOp.not 4 (Operand.tmp 36), type := 4, pos := "law.go:46", after := #[{ on := 2, ground := Ground.data }], guard := none }) (v := ?vh1_3) rfl (by kernel_rfl) (by kernel_rfl) (by kernel_rfl) (fun _ _ _ h => h) (Or.inl ⟨by rfl, ?yh1_3⟩) (by assumption) ?rh1_3
        case yh1_3 => (intro w hSw; (try dsimp only at hSw); go_simp <;> with_reducible rfl)
        try simp only [Act.put, List.setIfInBounds_toArray, List.set_cons_zero, List.set_cons_succ]
        refine wpAnyH_take (i := 4) (oi := { dst := some 38, op := Op.move (Operand.tmp 37), type := 4, pos := "law.go:46", after := #[{ on := 3, ground := Ground.data }, { on := 2, ground := Ground.chain }], guard := none }) (v := ?vh1_4) rfl (by kernel_rfl) (by kernel_rfl) (by kernel_rfl) (fun _ _ _ h => h) (Or.inl ⟨by rfl, ?yh1_4⟩) (by assumption) ?rh1_4
        case yh1_4 => (intro w hSw; (try dsimp only at hSw); go_simp <;> with_reducible rfl)
        try simp only [Act.put, List.setIfInBounds_toArray, List.set_cons_zero, List.set_cons_succ]
        refine wpAnyH_take (i := 5) (oi := { dst := some 39, op := Op.move (Operand.tmp 10), type := 24, pos := "law.go:46", after := #[{ on := 4, ground := Ground.guard }], guard := some (4, false) }) (v := undef) rfl (by kernel_rfl) (by kernel_rfl) (by kernel_rfl) (fun _ _ _ h => h) (Or.inr ⟨by rfl, rfl⟩) (by assumption) ?_
        try simp only [Act.put, List.setIfInBounds_toArray, List.set_cons_zero, List.set_cons_succ]
        refine wpAnyH_take (i := 6) (oi := { dst := some 40, op := Op.load 29 (Operand.tmp 8), type := 29, pos := "law.go:46", after := #[{ on := 4, ground := Ground.guard }], guard := some (4, false) }) (v := undef) rfl (by kernel_rfl) (by kernel_rfl) (by kernel_rfl) (fun _ _ _ h => h) (Or.inr ⟨by rfl, rfl⟩) (by assumption) ?_
        try simp only [Act.put, List.setIfInBounds_toArray, List.set_cons_zero, List.set_cons_succ]
        refine wpAnyH_take (i := 7) (oi := { dst := some 41, op := Op.call { callee := Callee.value (Operand.func 15), args := #[Operand.tmp 39, Operand.tmp 40], argTypes := #[24, 29] }, type := 4, pos := "law.go:46", after := #[{ on := 5, ground := Ground.data }, { on := 6, ground := Ground.data }, { on := 4, ground := Ground.chain }, { on := 4, ground := Ground.guard }], guard := some (4, false) }) (v := undef) rfl (by kernel_rfl) (by kernel_rfl) (by kernel_rfl) (fun _ _ _ h => h) (Or.inr ⟨by rfl, rfl⟩) (by assumption) ?_
        try simp only [Act.put, List.setIfInBounds_toArray, List.set_cons_zero, List.set_cons_succ]
        refine wpAnyH_take (i := 8) (oi := { dst := some 42, op := Op.move (Operand.tmp 7), type := 24, pos := "law.go:46", after := #[{ on := 4, ground := Ground.guard }], guard := some (4, false) }) (v := undef) rfl (by kernel_rfl) (by kernel_rfl) (by kernel_rfl) (fun _ _ _ h => h) (Or.inr ⟨by rfl, rfl⟩) (by assumption) ?_
        try simp only [Act.put, List.setIfInBounds_toArray, List.set_cons_zero, List.set_cons_succ]
        refine wpAnyH_take (i := 9) (oi := { dst := some 43, op := Op.load 29 (Operand.tmp 8), type := 29, pos := "law.go:46", after := #[{ on := 4, ground := Ground.guard }], guard := some (4, false) }) (v := undef) rfl (by kernel_rfl) (by kernel_rfl) (by kernel_rfl) (fun _ _ _ h => h) (Or.inr ⟨by rfl, rfl⟩) (by assumption) ?_
        try simp only [Act.put, List.setIfInBounds_toArray, List.set_cons_zero, List.set_cons_succ]
        refine wpAnyH_take (i := 10) (oi := { dst := some 44, op := Op.call { callee := Callee.value (Operand.func 15), args := #[Operand.tmp 42, Operand.tmp 43], argTypes := #[24, 29] }, type := 4, pos := "law.go:46", after := #[{ on := 8, ground := Ground.data }, { on := 9, ground := Ground.data }, { on := 7, ground := Ground.chain }, { on := 4, ground := Ground.guard }], guard := some (4, false) }) (v := undef) rfl (by kernel_rfl) (by kernel_rfl) (by kernel_rfl) (fun _ _ _ h => h) (Or.inr ⟨by rfl, rfl⟩) (by assumption) ?_
        try simp only [Act.put, List.setIfInBounds_toArray, List.set_cons_zero, List.set_cons_succ]
        refine wpAnyH_take (i := 11) (oi := { dst := some 45, op := Op.binOp BinOp.eql 4 (Operand.tmp 41) (Operand.tmp 44) 4, type := 4, pos := "law.go:46", after := #[{ on := 7, ground := Ground.data }, { on := 10, ground := Ground.data }, { on := 4, ground := Ground.guard }], guard := some (4, false) }) (v := undef) rfl (by kernel_rfl) (by kernel_rfl) (by kernel_rfl) (fun _ _ _ h => h) (Or.inr ⟨by rfl, rfl⟩) (by assumption) ?_
        try simp only [Act.put, List.setIfInBounds_toArray, List.set_cons_zero, List.set_cons_succ]
        refine wpAnyH_take (i := 12) (oi := { dst := some 46, op := Op.pick (Operand.tmp 38) (Operand.const (Value.bool true)) (Operand.tmp 45), type := 4, pos := "law.go:46", after := #[{ on := 4, ground := Ground.data }, { on := 11, ground := Ground.data }], guard := none }) (v := ?vh1_12) rfl (by kernel_rfl) (by kernel_rfl) (by kernel_rfl) (fun _ _ _ h => h) (Or.inl ⟨by rfl, ?yh1_12⟩) (by assumption) ?rh1_12
        case yh1_12 => (intro w hSw; (try dsimp only at hSw); go_simp <;> with_reducible rfl)
        try simp only [Act.put, List.setIfInBounds_toArray, List.set_cons_zero, List.set_cons_succ]
        refine wpAnyH_take (i := 13) (oi := { dst := some 6, op := Op.assign (Operand.tmp 46), type := 4, pos := "law.go:46", after := #[{ on := 12, ground := Ground.data }, { on := 10, ground := Ground.chain }, { on := 0, ground := Ground.phase }, { on := 1, ground := Ground.phase }, { on := 2, ground := Ground.phase }, { on := 3, ground := Ground.phase }, { on := 4, ground := Ground.phase }, { on := 5, ground := Ground.phase }, { on := 6, ground := Ground.phase }, { on := 7, ground := Ground.phase }, { on := 8, ground := Ground.phase }, { on := 9, ground := Ground.phase }, { on := 10, ground := Ground.phase }, { on := 11, ground := Ground.phase }, { on := 12, ground := Ground.phase }], guard := none }) (v := ?vh1_13) rfl (by kernel_rfl) (by kernel_rfl) (by kernel_rfl) (fun _ _ _ h => h) (Or.inl ⟨by rfl, ?yh1_13⟩) (by assumption) ?rh1_13
        case yh1_13 => (intro w hSw; (try dsimp only at hSw); go_simp <;> with_reducible rfl)
        try simp only [Act.put, List.setIfInBounds_toArray, List.set_cons_zero, List.set_cons_succ]
        refine wpAnyH_done (by kernel_rfl) ?_ _
        go_wp2_with fail
        go_ret
        exact ⟨rfl, hb8.trans (hb11.mono hs8)⟩
  · have hb58 : Below w5.heap.size w5 w8 := And.right (by assumption)
    have hsl8 : SlT w8 v8 (ks ++ [ku]) := owns_sl (by rw [List.length_append, rowOf_append]; simp only [Nat.zero_add, List.nil_append] at hown8; simpa [rowOf] using hown8) hb58 HOKS.out
    have hb8 : Below w.heap.size w w8 := hb5.trans (hb58.mono hb5.size)
    have hs8 := hb8.size
    have htb8 := HTB.out.keep hb8
    have HCLT : Hid (∀ W, Below w8.heap.size w8 W → CanOf w8 (.slice A ks.length c) ks kt W) := canOf (HV5.out.below hb58) HM.out (by omega) (by omega) (HKT5.out.1.below hb58) HKT5.out.2 htb8
    have HCMT : Hid (∀ W, Below w8.heap.size w8 W → CanOf w8 v8 (ks ++ [ku]) kt W) := canOf hsl8 HMM.out (by have := nodesK_le _ HMM.out; simp at this; omega) (by simp; omega) (HKT5.out.1.below hb58) HKT5.out.2 htb8
    have HCLU : Hid (∀ W, Below w8.heap.size w8 W → CanOf w8 (.slice A ks.length c) ks ku W) := canOf (HV5.out.below hb58) HM.out (by omega) (by omega) (HKU5.out.1.below hb58) HKU5.out.2 htb8
    have HXT8 : Hid (Box4 w8 w4.heap.size (.int .i64 kt.a.kind) (.int .i64 kt.a.n) (.string kt.a.s) (.slice kt.A (flen kt.l) kt.cap)) := HXT.out.below hb58
    have HXU8 : Hid (Box4 w8 (w4.heap.size + 1) (.int .i64 ku.a.kind) (.int .i64 ku.a.n) (.string ku.a.s) (.slice ku.A (flen ku.l) ku.cap)) := HXU.out.below hb58
    clear hown8 hgrow8 hat8 hsl8 hown7 hgrow7 hat7 O6 OC HSRC hnB hnC hbC hb6 hb58 htb8
    obtain ⟨x0, x1, x2, x3, x4⟩ := HXT8.out
    go_wp2_with fail
    refine (HCLT.out w8 (Below.refl _ _)).mono ?_
    rintro e w9 ⟨b9, rfl, hk9, hb9⟩
    obtain ⟨y0, y1, y2, y3, y4⟩ := HXT8.out.below hb9
    clear x0 x1 x2 x3 x4
    have HK9 : Hid (Hid (b9 = true ↔ Knows (tms ks) kt.a kt.l)) := hk9
    have HGR : Hid (Knows (tms ks) kt.a kt.l → Knows (tms (ks ++ [ku])) kt.a kt.l) := fun h => Knows.grows (fun x hx => by rw [tms, List.map_append]; exact List.mem_append.2 (.inl hx)) h
    clear hk9
    have HS : Hid (∀ W, Below w8.heap.size w8 W → Box4 W w4.heap.size (.int .i64 kt.a.kind) (.int .i64 kt.a.n) (.string kt.a.s) (.slice kt.A (flen kt.l) kt.cap) ∧ Box4 W (w4.heap.size + 1) (.int .i64 ku.a.kind) (.int .i64 ku.a.n) (.string ku.a.s) (.slice ku.A (flen ku.l) ku.cap) ∧ Below w8.heap.size w8 W) := fun W hW => ⟨HXT8.out.below hW, HXU8.out.below hW, hW⟩
    have HEQ : Hid (Knows (tms ks) ku.a ku.l → (Knows (tms ks) kt.a kt.l ↔ Knows (tms (ks ++ [ku])) kt.a kt.l)) := fun hu => ⟨HGR.out, fun h => Knows.cut (u := (ku.a, ku.l)) (fun x hx => by rw [tms, List.mem_map] at hx; obtain ⟨k, hk, rfl⟩ := hx; exact HM.out k hk) HKU5.out.2 hu (by rw [tms, List.map_append] at h; exact h)⟩
    cases b9 with
    | false =>
      clear HK9 y0 y1 y2 y3 y4
      go_wp2_with fail
      by_cases hKu : Knows (tms ks) ku.a ku.l
      · go_region_held3 (fun w' => Box4 w' w4.heap.size (.int .i64 kt.a.kind) (.int .i64 kt.a.n) (.string kt.a.s) (.slice kt.A (flen kt.l) kt.cap) ∧ Box4 w' (w4.heap.size + 1) (.int .i64 ku.a.kind) (.int .i64 ku.a.n) (.string ku.a.s) (.slice ku.A (flen ku.l) ku.cap) ∧ Below w8.heap.size w8 w')
          (first | assumption | exact HS.out _ hb9.drew | exact HS.out _ hb11 | exact HS.out _ hb12 | exact HS.out _ hb13)
          (first
            | (go_at_call_of 15 (Value.string ku.a.s); refine (HCLU.out _ (And.right (And.right (by assumption)))).mono ?_; rintro e w11 ⟨b11, rfl, hk11, hb11⟩; obtain rfl : b11 = true := hk11.out.2 hKu)
            | (go_at_call_of 15 v8; refine (HCMT.out _ (And.right (And.right (by assumption)))).mono ?_; rintro e w12 ⟨b12, rfl, hk12, hb12⟩)
            | (go_at_call 15; refine (HCLT.out _ (And.right (And.right (by assumption)))).mono ?_; rintro e w13 ⟨b13, rfl, hk13, hb13⟩))
        obtain rfl : b12 = b13 := bool_same hk12.out (hk13.out.trans (HEQ.out hKu))
        have hbe : Below w8.heap.size w8 w13 := hb13
        clear hk11 hk12 hk13
        cases b12 with
        | true =>
          go_wp2_with fail
          go_ret
          exact ⟨rfl, hb8.trans (hbe.mono hs8)⟩
        | false =>
          go_wp2_with fail
          go_ret
          exact ⟨rfl, hb8.trans (hbe.mono hs8)⟩
      · refine wp_region_held_drew (S := fun w' => Box4 w' w4.heap.size (.int .i64 kt.a.kind) (.int .i64 kt.a.n) (.string kt.a.s) (.slice kt.A (flen kt.l) kt.cap) ∧ Box4 w' (w4.heap.size + 1) (.int .i64 ku.a.kind) (.int .i64 ku.a.n) (.string ku.a.s) (.slice ku.A (flen ku.l) ku.cap) ∧ Below w8.heap.size w8 w') (by kernel_rfl) (HS.out _ hb9.drew) (fun hHeld => ?_)
        refine wpAnyH_take (i := 0) (oi := { dst := some 34, op := Op.move (Operand.tmp 7), type := 24, pos := "law.go:46", after := #[], guard := none }) (v := ?vg2_0) rfl (by kernel_rfl) (by kernel_rfl) (by kernel_rfl) (fun _ _ _ h => h) (Or.inl ⟨by rfl, ?yg2_0⟩) (by assumption) ?rg2_0
        case yg2_0 => (intro w hSw; (try dsimp only at hSw); go_simp <;> with_reducible rfl)
        try simp only [Act.put, List.setIfInBounds_toArray, List.set_cons_zero, List.set_cons_succ]
        refine wpAnyH_take (i := 1) (oi := { dst := some 35, op := Op.load 29 (Operand.tmp 9), type := 29, pos := "law.go:46", after := #[], guard := none }) (v := ?vg2_1) rfl (by kernel_rfl) (by kernel_rfl) (by kernel_rfl) (fun _ _ _ h => h) (Or.inl ⟨by rfl, ?yg2_1⟩) (by assumption) ?rg2_1
        case yg2_1 => (intro w hSw; (try dsimp only at hSw); go_simp <;> with_reducible rfl)
        try simp only [Act.put, List.setIfInBounds_toArray, List.set_cons_zero, List.set_cons_succ]
        refine wpAnyH_ready (rs := [2]) (by kernel_rfl) (by simp) (AllReadyH.cons (o := { dst := some 36, op := Op.call { callee := Callee.value (Operand.func 15), args := #[Operand.tmp 34, Operand.tmp 35], argTypes := #[24, 29] }, type := 4, pos := "law.go:46", after := #[{ on := 0, ground := Ground.data }, { on := 1, ground := Ground.data }], guard := none }) rfl (fun K hK => ?_) AllReadyH.nil)
        go_simp
        refine (HCLU.out _ (And.right (And.right hHeld))).mono ?_
        rintro e w11 ⟨b11, rfl, hk11, hb11⟩
        obtain rfl : b11 = false := (by cases b11; rfl; exact absurd (hk11.out.1 rfl) hKu)
        go_wp2_with fail
        refine hK.out _ _ (HS.out _ hb11) (fun hHeld => ?_)
        clear hK K
        try simp only [Act.put, List.setIfInBounds_toArray, List.set_cons_zero, List.set_cons_succ]
        refine wpAnyH_take (i := 3) (oi := { dst := some 37, op := Op.unOp UnOp.not 4 (Operand.tmp 36), type := 4, pos := "law.go:46", after := #[{ on := 2, ground := Ground.data }], guard := none }) (v := ?vg2_3) rfl (by kernel_rfl) (by kernel_rfl) (by kernel_rfl) (fun _ _ _ h => h) (Or.inl ⟨by rfl, ?yg2_3⟩) (by assumption) ?rg2_3
        case yg2_3 => (intro w hSw; (try dsimp only at hSw); go_simp <;> with_reducible rfl)
        try simp only [Act.put, List.setIfInBounds_toArray, List.set_cons_zero, List.set_cons_succ]
        refine wpAnyH_take (i := 4) (oi := { dst := some 38, op := Op.move (Operand.tmp 37), type := 4, pos := "law.go:46", after := #[{ on := 3, ground := Ground.data }, { on := 2, ground := Ground.chain }], guard := none }) (v := ?vg2_4) rfl (by kernel_rfl) (by kernel_rfl) (by kernel_rfl) (fun _ _ _ h => h) (Or.inl ⟨by rfl, ?yg2_4⟩) (by assumption) ?rg2_4
        case yg2_4 => (intro w hSw; (try dsimp only at hSw); go_simp <;> with_reducible rfl)
        try simp only [Act.put, List.setIfInBounds_toArray, List.set_cons_zero, List.set_cons_succ]
        refine wpAnyH_take (i := 5) (oi := { dst := some 39, op := Op.move (Operand.tmp 10), type := 24, pos := "law.go:46", after := #[{ on := 4, ground := Ground.guard }], guard := some (4, false) }) (v := undef) rfl (by kernel_rfl) (by kernel_rfl) (by kernel_rfl) (fun _ _ _ h => h) (Or.inr ⟨by rfl, rfl⟩) (by assumption) ?_
        try simp only [Act.put, List.setIfInBounds_toArray, List.set_cons_zero, List.set_cons_succ]
        refine wpAnyH_take (i := 6) (oi := { dst := some 40, op := Op.load 29 (Operand.tmp 8), type := 29, pos := "law.go:46", after := #[{ on := 4, ground := Ground.guard }], guard := some (4, false) }) (v := undef) rfl (by kernel_rfl) (by kernel_rfl) (by kernel_rfl) (fun _ _ _ h => h) (Or.inr ⟨by rfl, rfl⟩) (by assumption) ?_
        try simp only [Act.put, List.setIfInBounds_toArray, List.set_cons_zero, List.set_cons_succ]
        refine wpAnyH_take (i := 7) (oi := { dst := some 41, op := Op.call { callee := Callee.value (Operand.func 15), args := #[Operand.tmp 39, Operand.tmp 40], argTypes := #[24, 29] }, type := 4, pos := "law.go:46", after := #[{ on := 5, ground := Ground.data }, { on := 6, ground := Ground.data }, { on := 4, ground := Ground.chain }, { on := 4, ground := Ground.guard }], guard := some (4, false) }) (v := undef) rfl (by kernel_rfl) (by kernel_rfl) (by kernel_rfl) (fun _ _ _ h => h) (Or.inr ⟨by rfl, rfl⟩) (by assumption) ?_
        try simp only [Act.put, List.setIfInBounds_toArray, List.set_cons_zero, List.set_cons_succ]
        refine wpAnyH_take (i := 8) (oi := { dst := some 42, op := Op.move (Operand.tmp 7), type := 24, pos := "law.go:46", after := #[{ on := 4, ground := Ground.guard }], guard := some (4, false) }) (v := undef) rfl (by kernel_rfl) (by kernel_rfl) (by kernel_rfl) (fun _ _ _ h => h) (Or.inr ⟨by rfl, rfl⟩) (by assumption) ?_
        try simp only [Act.put, List.setIfInBounds_toArray, List.set_cons_zero, List.set_cons_succ]
        refine wpAnyH_take (i := 9) (oi := { dst := some 43, op := Op.load 29 (Operand.tmp 8), type := 29, pos := "law.go:46", after := #[{ on := 4, ground := Ground.guard }], guard := some (4, false) }) (v := undef) rfl (by kernel_rfl) (by kernel_rfl) (by kernel_rfl) (fun _ _ _ h => h) (Or.inr ⟨by rfl, rfl⟩) (by assumption) ?_
        try simp only [Act.put, List.setIfInBounds_toArray, List.set_cons_zero, List.set_cons_succ]
        refine wpAnyH_take (i := 10) (oi := { dst := some 44, op := Op.call { callee := Callee.value (Operand.func 15), args := #[Operand.tmp 42, Operand.tmp 43], argTypes := #[24, 29] }, type := 4, pos := "law.go:46", after := #[{ on := 8, ground := Ground.data }, { on := 9, ground := Ground.data }, { on := 7, ground := Ground.chain }, { on := 4, ground := Ground.guard }], guard := some (4, false) }) (v := undef) rfl (by kernel_rfl) (by kernel_rfl) (by kernel_rfl) (fun _ _ _ h => h) (Or.inr ⟨by rfl, rfl⟩) (by assumption) ?_
        try simp only [Act.put, List.setIfInBounds_toArray, List.set_cons_zero, List.set_cons_succ]
        refine wpAnyH_take (i := 11) (oi := { dst := some 45, op := Op.binOp BinOp.eql 4 (Operand.tmp 41) (Operand.tmp 44) 4, type := 4, pos := "law.go:46", after := #[{ on := 7, ground := Ground.data }, { on := 10, ground := Ground.data }, { on := 4, ground := Ground.guard }], guard := some (4, false) }) (v := undef) rfl (by kernel_rfl) (by kernel_rfl) (by kernel_rfl) (fun _ _ _ h => h) (Or.inr ⟨by rfl, rfl⟩) (by assumption) ?_
        try simp only [Act.put, List.setIfInBounds_toArray, List.set_cons_zero, List.set_cons_succ]
        refine wpAnyH_take (i := 12) (oi := { dst := some 46, op := Op.pick (Operand.tmp 38) (Operand.const (Value.bool true)) (Operand.tmp 45), type := 4, pos := "law.go:46", after := #[{ on := 4, ground := Ground.data }, { on := 11, ground := Ground.data }], guard := none }) (v := ?vg2_12) rfl (by kernel_rfl) (by kernel_rfl) (by kernel_rfl) (fun _ _ _ h => h) (Or.inl ⟨by rfl, ?yg2_12⟩) (by assumption) ?rg2_12
        case yg2_12 => (intro w hSw; (try dsimp only at hSw); go_simp <;> with_reducible rfl)
        try simp only [Act.put, List.setIfInBounds_toArray, List.set_cons_zero, List.set_cons_succ]
        refine wpAnyH_take (i := 13) (oi := { dst := some 6, op := Op.assign (Operand.tmp 46), type := 4, pos := "law.go:46", after := #[{ on := 12, ground := Ground.data }, { on := 10, ground := Ground.chain }, { on := 0, ground := Ground.phase }, { on := 1, ground := Ground.phase }, { on := 2, ground := Ground.phase }, { on := 3, ground := Ground.phase }, { on := 4, ground := Ground.phase }, { on := 5, ground := Ground.phase }, { on := 6, ground := Ground.phase }, { on := 7, ground := Ground.phase }, { on := 8, ground := Ground.phase }, { on := 9, ground := Ground.phase }, { on := 10, ground := Ground.phase }, { on := 11, ground := Ground.phase }, { on := 12, ground := Ground.phase }], guard := none }) (v := ?vg2_13) rfl (by kernel_rfl) (by kernel_rfl) (by kernel_rfl) (fun _ _ _ h => h) (Or.inl ⟨by rfl, ?yg2_13⟩) (by assumption) ?rg2_13
        case yg2_13 => (intro w hSw; (try dsimp only at hSw); go_simp <;> with_reducible rfl)
        try simp only [Act.put, List.setIfInBounds_toArray, List.set_cons_zero, List.set_cons_succ]
        refine wpAnyH_done (by kernel_rfl) ?_ _
        go_wp2_with fail
        go_ret
        exact ⟨rfl, hb8.trans (hb11.mono hs8)⟩
    | true =>
      have HGK : Hid (Knows (tms (ks ++ [ku])) kt.a kt.l) := HGR.out (HK9.out.out.1 rfl)
      clear HK9
      go_wp2_with fail
      refine (HCMT.out w9 hb9).mono ?_
      rintro e w10 ⟨b10, rfl, hk10, hb10⟩
      obtain rfl : b10 = true := hk10.out.2 HGK.out
      clear hk10 y0 y1 y2 y3 y4
      go_wp2_with fail
      by_cases hKu : Knows (tms ks) ku.a ku.l
      · go_region_held3 (fun w' => Box4 w' w4.heap.size (.int .i64 kt.a.kind) (.int .i64 kt.a.n) (.string kt.a.s) (.slice kt.A (flen kt.l) kt.cap) ∧ Box4 w' (w4.heap.size + 1) (.int .i64 ku.a.kind) (.int .i64 ku.a.n) (.string ku.a.s) (.slice ku.A (flen ku.l) ku.cap) ∧ Below w8.heap.size w8 w')
          (first | assumption | exact HS.out _ hb10.drew | exact HS.out _ hb11 | exact HS.out _ hb12 | exact HS.out _ hb13)
          (first
            | (go_at_call_of 15 (Value.string ku.a.s); refine (HCLU.out _ (And.right (And.right (by assumption)))).mono ?_; rintro e w11 ⟨b11, rfl, hk11, hb11⟩; obtain rfl : b11 = true := hk11.out.2 hKu)
            | (go_at_call_of 15 v8; refine (HCMT.out _ (And.right (And.right (by assumption)))).mono ?_; rintro e w12 ⟨b12, rfl, hk12, hb12⟩)
            | (go_at_call 15; refine (HCLT.out _ (And.right (And.right (by assumption)))).mono ?_; rintro e w13 ⟨b13, rfl, hk13, hb13⟩))
        obtain rfl : b12 = b13 := bool_same hk12.out (hk13.out.trans (HEQ.out hKu))
        have hbe : Below w8.heap.size w8 w13 := hb13
        clear hk11 hk12 hk13
        cases b12 with
        | true =>
          go_wp2_with fail
          go_ret
          exact ⟨rfl, hb8.trans (hbe.mono hs8)⟩
        | false =>
          go_wp2_with fail
          go_ret
          exact ⟨rfl, hb8.trans (hbe.mono hs8)⟩
      · refine wp_region_held_drew (S := fun w' => Box4 w' w4.heap.size (.int .i64 kt.a.kind) (.int .i64 kt.a.n) (.string kt.a.s) (.slice kt.A (flen kt.l) kt.cap) ∧ Box4 w' (w4.heap.size + 1) (.int .i64 ku.a.kind) (.int .i64 ku.a.n) (.string ku.a.s) (.slice ku.A (flen ku.l) ku.cap) ∧ Below w8.heap.size w8 w') (by kernel_rfl) (HS.out _ hb10.drew) (fun hHeld => ?_)
        refine wpAnyH_take (i := 0) (oi := { dst := some 34, op := Op.move (Operand.tmp 7), type := 24, pos := "law.go:46", after := #[], guard := none }) (v := ?vh2_0) rfl (by kernel_rfl) (by kernel_rfl) (by kernel_rfl) (fun _ _ _ h => h) (Or.inl ⟨by rfl, ?yh2_0⟩) (by assumption) ?rh2_0
        case yh2_0 => (intro w hSw; (try dsimp only at hSw); go_simp <;> with_reducible rfl)
        try simp only [Act.put, List.setIfInBounds_toArray, List.set_cons_zero, List.set_cons_succ]
        refine wpAnyH_take (i := 1) (oi := { dst := some 35, op := Op.load 29 (Operand.tmp 9), type := 29, pos := "law.go:46", after := #[], guard := none }) (v := ?vh2_1) rfl (by kernel_rfl) (by kernel_rfl) (by kernel_rfl) (fun _ _ _ h => h) (Or.inl ⟨by rfl, ?yh2_1⟩) (by assumption) ?rh2_1
        case yh2_1 => (intro w hSw; (try dsimp only at hSw); go_simp <;> with_reducible rfl)
        try simp only [Act.put, List.setIfInBounds_toArray, List.set_cons_zero, List.set_cons_succ]
        refine wpAnyH_ready (rs := [2]) (by kernel_rfl) (by simp) (AllReadyH.cons (o := { dst := some 36, op := Op.call { callee := Callee.value (Operand.func 15), args := #[Operand.tmp 34, Operand.tmp 35], argTypes := #[24, 29] }, type := 4, pos := "law.go:46", after := #[{ on := 0, ground := Ground.data }, { on := 1, ground := Ground.data }], guard := none }) rfl (fun K hK => ?_) AllReadyH.nil)
        go_simp
        refine (HCLU.out _ (And.right (And.right hHeld))).mono ?_
        rintro e w11 ⟨b11, rfl, hk11, hb11⟩
        obtain rfl : b11 = false := (by cases b11; rfl; exact absurd (hk11.out.1 rfl) hKu)
        go_wp2_with fail
        refine hK.out _ _ (HS.out _ hb11) (fun hHeld => ?_)
        clear hK K
        try simp only [Act.put, List.setIfInBounds_toArray, List.set_cons_zero, List.set_cons_succ]
        refine wpAnyH_take (i := 3) (oi := { dst := some 37, op := Op.unOp UnOp.not 4 (Operand.tmp 36), type := 4, pos := "law.go:46", after := #[{ on := 2, ground := Ground.data }], guard := none }) (v := ?vh2_3) rfl (by kernel_rfl) (by kernel_rfl) (by kernel_rfl) (fun _ _ _ h => h) (Or.inl ⟨by rfl, ?yh2_3⟩) (by assumption) ?rh2_3
        case yh2_3 => (intro w hSw; (try dsimp only at hSw); go_simp <;> with_reducible rfl)
        try simp only [Act.put, List.setIfInBounds_toArray, List.set_cons_zero, List.set_cons_succ]
        refine wpAnyH_take (i := 4) (oi := { dst := some 38, op := Op.move (Operand.tmp 37), type := 4, pos := "law.go:46", after := #[{ on := 3, ground := Ground.data }, { on := 2, ground := Ground.chain }], guard := none }) (v := ?vh2_4) rfl (by kernel_rfl) (by kernel_rfl) (by kernel_rfl) (fun _ _ _ h => h) (Or.inl ⟨by rfl, ?yh2_4⟩) (by assumption) ?rh2_4
        case yh2_4 => (intro w hSw; (try dsimp only at hSw); go_simp <;> with_reducible rfl)
        try simp only [Act.put, List.setIfInBounds_toArray, List.set_cons_zero, List.set_cons_succ]
        refine wpAnyH_take (i := 5) (oi := { dst := some 39, op := Op.move (Operand.tmp 10), type := 24, pos := "law.go:46", after := #[{ on := 4, ground := Ground.guard }], guard := some (4, false) }) (v := undef) rfl (by kernel_rfl) (by kernel_rfl) (by kernel_rfl) (fun _ _ _ h => h) (Or.inr ⟨by rfl, rfl⟩) (by assumption) ?_
        try simp only [Act.put, List.setIfInBounds_toArray, List.set_cons_zero, List.set_cons_succ]
        refine wpAnyH_take (i := 6) (oi := { dst := some 40, op := Op.load 29 (Operand.tmp 8), type := 29, pos := "law.go:46", after := #[{ on := 4, ground := Ground.guard }], guard := some (4, false) }) (v := undef) rfl (by kernel_rfl) (by kernel_rfl) (by kernel_rfl) (fun _ _ _ h => h) (Or.inr ⟨by rfl, rfl⟩) (by assumption) ?_
        try simp only [Act.put, List.setIfInBounds_toArray, List.set_cons_zero, List.set_cons_succ]
        refine wpAnyH_take (i := 7) (oi := { dst := some 41, op := Op.call { callee := Callee.value (Operand.func 15), args := #[Operand.tmp 39, Operand.tmp 40], argTypes := #[24, 29] }, type := 4, pos := "law.go:46", after := #[{ on := 5, ground := Ground.data }, { on := 6, ground := Ground.data }, { on := 4, ground := Ground.chain }, { on := 4, ground := Ground.guard }], guard := some (4, false) }) (v := undef) rfl (by kernel_rfl) (by kernel_rfl) (by kernel_rfl) (fun _ _ _ h => h) (Or.inr ⟨by rfl, rfl⟩) (by assumption) ?_
        try simp only [Act.put, List.setIfInBounds_toArray, List.set_cons_zero, List.set_cons_succ]
        refine wpAnyH_take (i := 8) (oi := { dst := some 42, op := Op.move (Operand.tmp 7), type := 24, pos := "law.go:46", after := #[{ on := 4, ground := Ground.guard }], guard := some (4, false) }) (v := undef) rfl (by kernel_rfl) (by kernel_rfl) (by kernel_rfl) (fun _ _ _ h => h) (Or.inr ⟨by rfl, rfl⟩) (by assumption) ?_
        try simp only [Act.put, List.setIfInBounds_toArray, List.set_cons_zero, List.set_cons_succ]
        refine wpAnyH_take (i := 9) (oi := { dst := some 43, op := Op.load 29 (Operand.tmp 8), type := 29, pos := "law.go:46", after := #[{ on := 4, ground := Ground.guard }], guard := some (4, false) }) (v := undef) rfl (by kernel_rfl) (by kernel_rfl) (by kernel_rfl) (fun _ _ _ h => h) (Or.inr ⟨by rfl, rfl⟩) (by assumption) ?_
        try simp only [Act.put, List.setIfInBounds_toArray, List.set_cons_zero, List.set_cons_succ]
        refine wpAnyH_take (i := 10) (oi := { dst := some 44, op := Op.call { callee := Callee.value (Operand.func 15), args := #[Operand.tmp 42, Operand.tmp 43], argTypes := #[24, 29] }, type := 4, pos := "law.go:46", after := #[{ on := 8, ground := Ground.data }, { on := 9, ground := Ground.data }, { on := 7, ground := Ground.chain }, { on := 4, ground := Ground.guard }], guard := some (4, false) }) (v := undef) rfl (by kernel_rfl) (by kernel_rfl) (by kernel_rfl) (fun _ _ _ h => h) (Or.inr ⟨by rfl, rfl⟩) (by assumption) ?_
        try simp only [Act.put, List.setIfInBounds_toArray, List.set_cons_zero, List.set_cons_succ]
        refine wpAnyH_take (i := 11) (oi := { dst := some 45, op := Op.binOp BinOp.eql 4 (Operand.tmp 41) (Operand.tmp 44) 4, type := 4, pos := "law.go:46", after := #[{ on := 7, ground := Ground.data }, { on := 10, ground := Ground.data }, { on := 4, ground := Ground.guard }], guard := some (4, false) }) (v := undef) rfl (by kernel_rfl) (by kernel_rfl) (by kernel_rfl) (fun _ _ _ h => h) (Or.inr ⟨by rfl, rfl⟩) (by assumption) ?_
        try simp only [Act.put, List.setIfInBounds_toArray, List.set_cons_zero, List.set_cons_succ]
        refine wpAnyH_take (i := 12) (oi := { dst := some 46, op := Op.pick (Operand.tmp 38) (Operand.const (Value.bool true)) (Operand.tmp 45), type := 4, pos := "law.go:46", after := #[{ on := 4, ground := Ground.data }, { on := 11, ground := Ground.data }], guard := none }) (v := ?vh2_12) rfl (by kernel_rfl) (by kernel_rfl) (by kernel_rfl) (fun _ _ _ h => h) (Or.inl ⟨by rfl, ?yh2_12⟩) (by assumption) ?rh2_12
        case yh2_12 => (intro w hSw; (try dsimp only at hSw); go_simp <;> with_reducible rfl)
        try simp only [Act.put, List.setIfInBounds_toArray, List.set_cons_zero, List.set_cons_succ]
        refine wpAnyH_take (i := 13) (oi := { dst := some 6, op := Op.assign (Operand.tmp 46), type := 4, pos := "law.go:46", after := #[{ on := 12, ground := Ground.data }, { on := 10, ground := Ground.chain }, { on := 0, ground := Ground.phase }, { on := 1, ground := Ground.phase }, { on := 2, ground := Ground.phase }, { on := 3, ground := Ground.phase }, { on := 4, ground := Ground.phase }, { on := 5, ground := Ground.phase }, { on := 6, ground := Ground.phase }, { on := 7, ground := Ground.phase }, { on := 8, ground := Ground.phase }, { on := 9, ground := Ground.phase }, { on := 10, ground := Ground.phase }, { on := 11, ground := Ground.phase }, { on := 12, ground := Ground.phase }], guard := none }) (v := ?vh2_13) rfl (by kernel_rfl) (by kernel_rfl) (by kernel_rfl) (fun _ _ _ h => h) (Or.inl ⟨by rfl, ?yh2_13⟩) (by assumption) ?rh2_13
        case yh2_13 => (intro w hSw; (try dsimp only at hSw); go_simp <;> with_reducible rfl)
        try simp only [Act.put, List.setIfInBounds_toArray, List.set_cons_zero, List.set_cons_succ]
        refine wpAnyH_done (by kernel_rfl) ?_ _
        go_wp2_with fail
        go_ret
        exact ⟨rfl, hb8.trans (hb11.mono hs8)⟩
  · have hb58 : Below w5.heap.size w5 w8 := And.right (by assumption)
    have hsl8 : SlT w8 v8 (ks ++ [ku]) := owns_sl (by rw [List.length_append, rowOf_append]; simp only [Nat.zero_add, List.nil_append] at hown8; simpa [rowOf] using hown8) hb58 HOKS.out
    have hb8 : Below w.heap.size w w8 := hb5.trans (hb58.mono hb5.size)
    have hs8 := hb8.size
    have htb8 := HTB.out.keep hb8
    have HCLT : Hid (∀ W, Below w8.heap.size w8 W → CanOf w8 (.slice A ks.length c) ks kt W) := canOf (HV5.out.below hb58) HM.out (by omega) (by omega) (HKT5.out.1.below hb58) HKT5.out.2 htb8
    have HCMT : Hid (∀ W, Below w8.heap.size w8 W → CanOf w8 v8 (ks ++ [ku]) kt W) := canOf hsl8 HMM.out (by have := nodesK_le _ HMM.out; simp at this; omega) (by simp; omega) (HKT5.out.1.below hb58) HKT5.out.2 htb8
    have HCLU : Hid (∀ W, Below w8.heap.size w8 W → CanOf w8 (.slice A ks.length c) ks ku W) := canOf (HV5.out.below hb58) HM.out (by omega) (by omega) (HKU5.out.1.below hb58) HKU5.out.2 htb8
    have HXT8 : Hid (Box4 w8 w4.heap.size (.int .i64 kt.a.kind) (.int .i64 kt.a.n) (.string kt.a.s) (.slice kt.A (flen kt.l) kt.cap)) := HXT.out.below hb58
    have HXU8 : Hid (Box4 w8 (w4.heap.size + 1) (.int .i64 ku.a.kind) (.int .i64 ku.a.n) (.string ku.a.s) (.slice ku.A (flen ku.l) ku.cap)) := HXU.out.below hb58
    clear hown8 hgrow8 hat8 hsl8 hown7 hgrow7 hat7 O6 OC HSRC hnB hnC hbC hb6 hb58 htb8
    obtain ⟨x0, x1, x2, x3, x4⟩ := HXT8.out
    go_wp2_with fail
    refine (HCLT.out w8 (Below.refl _ _)).mono ?_
    rintro e w9 ⟨b9, rfl, hk9, hb9⟩
    obtain ⟨y0, y1, y2, y3, y4⟩ := HXT8.out.below hb9
    clear x0 x1 x2 x3 x4
    have HK9 : Hid (Hid (b9 = true ↔ Knows (tms ks) kt.a kt.l)) := hk9
    have HGR : Hid (Knows (tms ks) kt.a kt.l → Knows (tms (ks ++ [ku])) kt.a kt.l) := fun h => Knows.grows (fun x hx => by rw [tms, List.map_append]; exact List.mem_append.2 (.inl hx)) h
    clear hk9
    have HS : Hid (∀ W, Below w8.heap.size w8 W → Box4 W w4.heap.size (.int .i64 kt.a.kind) (.int .i64 kt.a.n) (.string kt.a.s) (.slice kt.A (flen kt.l) kt.cap) ∧ Box4 W (w4.heap.size + 1) (.int .i64 ku.a.kind) (.int .i64 ku.a.n) (.string ku.a.s) (.slice ku.A (flen ku.l) ku.cap) ∧ Below w8.heap.size w8 W) := fun W hW => ⟨HXT8.out.below hW, HXU8.out.below hW, hW⟩
    have HEQ : Hid (Knows (tms ks) ku.a ku.l → (Knows (tms ks) kt.a kt.l ↔ Knows (tms (ks ++ [ku])) kt.a kt.l)) := fun hu => ⟨HGR.out, fun h => Knows.cut (u := (ku.a, ku.l)) (fun x hx => by rw [tms, List.mem_map] at hx; obtain ⟨k, hk, rfl⟩ := hx; exact HM.out k hk) HKU5.out.2 hu (by rw [tms, List.map_append] at h; exact h)⟩
    cases b9 with
    | false =>
      clear HK9 y0 y1 y2 y3 y4
      go_wp2_with fail
      by_cases hKu : Knows (tms ks) ku.a ku.l
      · go_region_held3 (fun w' => Box4 w' w4.heap.size (.int .i64 kt.a.kind) (.int .i64 kt.a.n) (.string kt.a.s) (.slice kt.A (flen kt.l) kt.cap) ∧ Box4 w' (w4.heap.size + 1) (.int .i64 ku.a.kind) (.int .i64 ku.a.n) (.string ku.a.s) (.slice ku.A (flen ku.l) ku.cap) ∧ Below w8.heap.size w8 w')
          (first | assumption | exact HS.out _ hb9.drew | exact HS.out _ hb11 | exact HS.out _ hb12 | exact HS.out _ hb13)
          (first
            | (go_at_call_of 15 (Value.string ku.a.s); refine (HCLU.out _ (And.right (And.right (by assumption)))).mono ?_; rintro e w11 ⟨b11, rfl, hk11, hb11⟩; obtain rfl : b11 = true := hk11.out.2 hKu)
            | (go_at_call_of 15 v8; refine (HCMT.out _ (And.right (And.right (by assumption)))).mono ?_; rintro e w12 ⟨b12, rfl, hk12, hb12⟩)
            | (go_at_call 15; refine (HCLT.out _ (And.right (And.right (by assumption)))).mono ?_; rintro e w13 ⟨b13, rfl, hk13, hb13⟩))
        obtain rfl : b12 = b13 := bool_same hk12.out (hk13.out.trans (HEQ.out hKu))
        have hbe : Below w8.heap.size w8 w13 := hb13
        clear hk11 hk12 hk13
        cases b12 with
        | true =>
          go_wp2_with fail
          go_ret
          exact ⟨rfl, hb8.trans (hbe.mono hs8)⟩
        | false =>
          go_wp2_with fail
          go_ret
          exact ⟨rfl, hb8.trans (hbe.mono hs8)⟩
      · refine wp_region_held_drew (S := fun w' => Box4 w' w4.heap.size (.int .i64 kt.a.kind) (.int .i64 kt.a.n) (.string kt.a.s) (.slice kt.A (flen kt.l) kt.cap) ∧ Box4 w' (w4.heap.size + 1) (.int .i64 ku.a.kind) (.int .i64 ku.a.n) (.string ku.a.s) (.slice ku.A (flen ku.l) ku.cap) ∧ Below w8.heap.size w8 w') (by kernel_rfl) (HS.out _ hb9.drew) (fun hHeld => ?_)
        refine wpAnyH_take (i := 0) (oi := { dst := some 34, op := Op.move (Operand.tmp 7), type := 24, pos := "law.go:46", after := #[], guard := none }) (v := ?vg3_0) rfl (by kernel_rfl) (by kernel_rfl) (by kernel_rfl) (fun _ _ _ h => h) (Or.inl ⟨by rfl, ?yg3_0⟩) (by assumption) ?rg3_0
        case yg3_0 => (intro w hSw; (try dsimp only at hSw); go_simp <;> with_reducible rfl)
        try simp only [Act.put, List.setIfInBounds_toArray, List.set_cons_zero, List.set_cons_succ]
        refine wpAnyH_take (i := 1) (oi := { dst := some 35, op := Op.load 29 (Operand.tmp 9), type := 29, pos := "law.go:46", after := #[], guard := none }) (v := ?vg3_1) rfl (by kernel_rfl) (by kernel_rfl) (by kernel_rfl) (fun _ _ _ h => h) (Or.inl ⟨by rfl, ?yg3_1⟩) (by assumption) ?rg3_1
        case yg3_1 => (intro w hSw; (try dsimp only at hSw); go_simp <;> with_reducible rfl)
        try simp only [Act.put, List.setIfInBounds_toArray, List.set_cons_zero, List.set_cons_succ]
        refine wpAnyH_ready (rs := [2]) (by kernel_rfl) (by simp) (AllReadyH.cons (o := { dst := some 36, op := Op.call { callee := Callee.value (Operand.func 15), args := #[Operand.tmp 34, Operand.tmp 35], argTypes := #[24, 29] }, type := 4, pos := "law.go:46", after := #[{ on := 0, ground := Ground.data }, { on := 1, ground := Ground.data }], guard := none }) rfl (fun K hK => ?_) AllReadyH.nil)
        go_simp
        refine (HCLU.out _ (And.right (And.right hHeld))).mono ?_
        rintro e w11 ⟨b11, rfl, hk11, hb11⟩
        obtain rfl : b11 = false := (by cases b11; rfl; exact absurd (hk11.out.1 rfl) hKu)
        go_wp2_with fail
        refine hK.out _ _ (HS.out _ hb11) (fun hHeld => ?_)
        clear hK K
        try simp only [Act.put, List.setIfInBounds_toArray, List.set_cons_zero, List.set_cons_succ]
        refine wpAnyH_take (i := 3) (oi := { dst := some 37, op := Op.unOp UnOp.not 4 (Operand.tmp 36), type := 4, pos := "law.go:46", after := #[{ on := 2, ground := Ground.data }], guard := none }) (v := ?vg3_3) rfl (by kernel_rfl) (by kernel_rfl) (by kernel_rfl) (fun _ _ _ h => h) (Or.inl ⟨by rfl, ?yg3_3⟩) (by assumption) ?rg3_3
        case yg3_3 => (intro w hSw; (try dsimp only at hSw); go_simp <;> with_reducible rfl)
        try simp only [Act.put, List.setIfInBounds_toArray, List.set_cons_zero, List.set_cons_succ]
        refine wpAnyH_take (i := 4) (oi := { dst := some 38, op := Op.move (Operand.tmp 37), type := 4, pos := "law.go:46", after := #[{ on := 3, ground := Ground.data }, { on := 2, ground := Ground.chain }], guard := none }) (v := ?vg3_4) rfl (by kernel_rfl) (by kernel_rfl) (by kernel_rfl) (fun _ _ _ h => h) (Or.inl ⟨by rfl, ?yg3_4⟩) (by assumption) ?rg3_4
        case yg3_4 => (intro w hSw; (try dsimp only at hSw); go_simp <;> with_reducible rfl)
        try simp only [Act.put, List.setIfInBounds_toArray, List.set_cons_zero, List.set_cons_succ]
        refine wpAnyH_take (i := 5) (oi := { dst := some 39, op := Op.move (Operand.tmp 10), type := 24, pos := "law.go:46", after := #[{ on := 4, ground := Ground.guard }], guard := some (4, false) }) (v := undef) rfl (by kernel_rfl) (by kernel_rfl) (by kernel_rfl) (fun _ _ _ h => h) (Or.inr ⟨by rfl, rfl⟩) (by assumption) ?_
        try simp only [Act.put, List.setIfInBounds_toArray, List.set_cons_zero, List.set_cons_succ]
        refine wpAnyH_take (i := 6) (oi := { dst := some 40, op := Op.load 29 (Operand.tmp 8), type := 29, pos := "law.go:46", after := #[{ on := 4, ground := Ground.guard }], guard := some (4, false) }) (v := undef) rfl (by kernel_rfl) (by kernel_rfl) (by kernel_rfl) (fun _ _ _ h => h) (Or.inr ⟨by rfl, rfl⟩) (by assumption) ?_
        try simp only [Act.put, List.setIfInBounds_toArray, List.set_cons_zero, List.set_cons_succ]
        refine wpAnyH_take (i := 7) (oi := { dst := some 41, op := Op.call { callee := Callee.value (Operand.func 15), args := #[Operand.tmp 39, Operand.tmp 40], argTypes := #[24, 29] }, type := 4, pos := "law.go:46", after := #[{ on := 5, ground := Ground.data }, { on := 6, ground := Ground.data }, { on := 4, ground := Ground.chain }, { on := 4, ground := Ground.guard }], guard := some (4, false) }) (v := undef) rfl (by kernel_rfl) (by kernel_rfl) (by kernel_rfl) (fun _ _ _ h => h) (Or.inr ⟨by rfl, rfl⟩) (by assumption) ?_
        try simp only [Act.put, List.setIfInBounds_toArray, List.set_cons_zero, List.set_cons_succ]
        refine wpAnyH_take (i := 8) (oi := { dst := some 42, op := Op.move (Operand.tmp 7), type := 24, pos := "law.go:46", after := #[{ on := 4, ground := Ground.guard }], guard := some (4, false) }) (v := undef) rfl (by kernel_rfl) (by kernel_rfl) (by kernel_rfl) (fun _ _ _ h => h) (Or.inr ⟨by rfl, rfl⟩) (by assumption) ?_
        try simp only [Act.put, List.setIfInBounds_toArray, List.set_cons_zero, List.set_cons_succ]
        refine wpAnyH_take (i := 9) (oi := { dst := some 43, op := Op.load 29 (Operand.tmp 8), type := 29, pos := "law.go:46", after := #[{ on := 4, ground := Ground.guard }], guard := some (4, false) }) (v := undef) rfl (by kernel_rfl) (by kernel_rfl) (by kernel_rfl) (fun _ _ _ h => h) (Or.inr ⟨by rfl, rfl⟩) (by assumption) ?_
        try simp only [Act.put, List.setIfInBounds_toArray, List.set_cons_zero, List.set_cons_succ]
        refine wpAnyH_take (i := 10) (oi := { dst := some 44, op := Op.call { callee := Callee.value (Operand.func 15), args := #[Operand.tmp 42, Operand.tmp 43], argTypes := #[24, 29] }, type := 4, pos := "law.go:46", after := #[{ on := 8, ground := Ground.data }, { on := 9, ground := Ground.data }, { on := 7, ground := Ground.chain }, { on := 4, ground := Ground.guard }], guard := some (4, false) }) (v := undef) rfl (by kernel_rfl) (by kernel_rfl) (by kernel_rfl) (fun _ _ _ h => h) (Or.inr ⟨by rfl, rfl⟩) (by assumption) ?_
        try simp only [Act.put, List.setIfInBounds_toArray, List.set_cons_zero, List.set_cons_succ]
        refine wpAnyH_take (i := 11) (oi := { dst := some 45, op := Op.binOp BinOp.eql 4 (Operand.tmp 41) (Operand.tmp 44) 4, type := 4, pos := "law.go:46", after := #[{ on := 7, ground := Ground.data }, { on := 10, ground := Ground.data }, { on := 4, ground := Ground.guard }], guard := some (4, false) }) (v := undef) rfl (by kernel_rfl) (by kernel_rfl) (by kernel_rfl) (fun _ _ _ h => h) (Or.inr ⟨by rfl, rfl⟩) (by assumption) ?_
        try simp only [Act.put, List.setIfInBounds_toArray, List.set_cons_zero, List.set_cons_succ]
        refine wpAnyH_take (i := 12) (oi := { dst := some 46, op := Op.pick (Operand.tmp 38) (Operand.const (Value.bool true)) (Operand.tmp 45), type := 4, pos := "law.go:46", after := #[{ on := 4, ground := Ground.data }, { on := 11, ground := Ground.data }], guard := none }) (v := ?vg3_12) rfl (by kernel_rfl) (by kernel_rfl) (by kernel_rfl) (fun _ _ _ h => h) (Or.inl ⟨by rfl, ?yg3_12⟩) (by assumption) ?rg3_12
        case yg3_12 => (intro w hSw; (try dsimp only at hSw); go_simp <;> with_reducible rfl)
        try simp only [Act.put, List.setIfInBounds_toArray, List.set_cons_zero, List.set_cons_succ]
        refine wpAnyH_take (i := 13) (oi := { dst := some 6, op := Op.assign (Operand.tmp 46), type := 4, pos := "law.go:46", after := #[{ on := 12, ground := Ground.data }, { on := 10, ground := Ground.chain }, { on := 0, ground := Ground.phase }, { on := 1, ground := Ground.phase }, { on := 2, ground := Ground.phase }, { on := 3, ground := Ground.phase }, { on := 4, ground := Ground.phase }, { on := 5, ground := Ground.phase }, { on := 6, ground := Ground.phase }, { on := 7, ground := Ground.phase }, { on := 8, ground := Ground.phase }, { on := 9, ground := Ground.phase }, { on := 10, ground := Ground.phase }, { on := 11, ground := Ground.phase }, { on := 12, ground := Ground.phase }], guard := none }) (v := ?vg3_13) rfl (by kernel_rfl) (by kernel_rfl) (by kernel_rfl) (fun _ _ _ h => h) (Or.inl ⟨by rfl, ?yg3_13⟩) (by assumption) ?rg3_13
        case yg3_13 => (intro w hSw; (try dsimp only at hSw); go_simp <;> with_reducible rfl)
        try simp only [Act.put, List.setIfInBounds_toArray, List.set_cons_zero, List.set_cons_succ]
        refine wpAnyH_done (by kernel_rfl) ?_ _
        go_wp2_with fail
        go_ret
        exact ⟨rfl, hb8.trans (hb11.mono hs8)⟩
    | true =>
      have HGK : Hid (Knows (tms (ks ++ [ku])) kt.a kt.l) := HGR.out (HK9.out.out.1 rfl)
      clear HK9
      go_wp2_with fail
      refine (HCMT.out w9 hb9).mono ?_
      rintro e w10 ⟨b10, rfl, hk10, hb10⟩
      obtain rfl : b10 = true := hk10.out.2 HGK.out
      clear hk10 y0 y1 y2 y3 y4
      go_wp2_with fail
      by_cases hKu : Knows (tms ks) ku.a ku.l
      · go_region_held3 (fun w' => Box4 w' w4.heap.size (.int .i64 kt.a.kind) (.int .i64 kt.a.n) (.string kt.a.s) (.slice kt.A (flen kt.l) kt.cap) ∧ Box4 w' (w4.heap.size + 1) (.int .i64 ku.a.kind) (.int .i64 ku.a.n) (.string ku.a.s) (.slice ku.A (flen ku.l) ku.cap) ∧ Below w8.heap.size w8 w')
          (first | assumption | exact HS.out _ hb10.drew | exact HS.out _ hb11 | exact HS.out _ hb12 | exact HS.out _ hb13)
          (first
            | (go_at_call_of 15 (Value.string ku.a.s); refine (HCLU.out _ (And.right (And.right (by assumption)))).mono ?_; rintro e w11 ⟨b11, rfl, hk11, hb11⟩; obtain rfl : b11 = true := hk11.out.2 hKu)
            | (go_at_call_of 15 v8; refine (HCMT.out _ (And.right (And.right (by assumption)))).mono ?_; rintro e w12 ⟨b12, rfl, hk12, hb12⟩)
            | (go_at_call 15; refine (HCLT.out _ (And.right (And.right (by assumption)))).mono ?_; rintro e w13 ⟨b13, rfl, hk13, hb13⟩))
        obtain rfl : b12 = b13 := bool_same hk12.out (hk13.out.trans (HEQ.out hKu))
        have hbe : Below w8.heap.size w8 w13 := hb13
        clear hk11 hk12 hk13
        cases b12 with
        | true =>
          go_wp2_with fail
          go_ret
          exact ⟨rfl, hb8.trans (hbe.mono hs8)⟩
        | false =>
          go_wp2_with fail
          go_ret
          exact ⟨rfl, hb8.trans (hbe.mono hs8)⟩
      · refine wp_region_held_drew (S := fun w' => Box4 w' w4.heap.size (.int .i64 kt.a.kind) (.int .i64 kt.a.n) (.string kt.a.s) (.slice kt.A (flen kt.l) kt.cap) ∧ Box4 w' (w4.heap.size + 1) (.int .i64 ku.a.kind) (.int .i64 ku.a.n) (.string ku.a.s) (.slice ku.A (flen ku.l) ku.cap) ∧ Below w8.heap.size w8 w') (by kernel_rfl) (HS.out _ hb10.drew) (fun hHeld => ?_)
        refine wpAnyH_take (i := 0) (oi := { dst := some 34, op := Op.move (Operand.tmp 7), type := 24, pos := "law.go:46", after := #[], guard := none }) (v := ?vh3_0) rfl (by kernel_rfl) (by kernel_rfl) (by kernel_rfl) (fun _ _ _ h => h) (Or.inl ⟨by rfl, ?yh3_0⟩) (by assumption) ?rh3_0
        case yh3_0 => (intro w hSw; (try dsimp only at hSw); go_simp <;> with_reducible rfl)
        try simp only [Act.put, List.setIfInBounds_toArray, List.set_cons_zero, List.set_cons_succ]
        refine wpAnyH_take (i := 1) (oi := { dst := some 35, op := Op.load 29 (Operand.tmp 9), type := 29, pos := "law.go:46", after := #[], guard := none }) (v := ?vh3_1) rfl (by kernel_rfl) (by kernel_rfl) (by kernel_rfl) (fun _ _ _ h => h) (Or.inl ⟨by rfl, ?yh3_1⟩) (by assumption) ?rh3_1
        case yh3_1 => (intro w hSw; (try dsimp only at hSw); go_simp <;> with_reducible rfl)
        try simp only [Act.put, List.setIfInBounds_toArray, List.set_cons_zero, List.set_cons_succ]
        refine wpAnyH_ready (rs := [2]) (by kernel_rfl) (by simp) (AllReadyH.cons (o := { dst := some 36, op := Op.call { callee := Callee.value (Operand.func 15), args := #[Operand.tmp 34, Operand.tmp 35], argTypes := #[24, 29] }, type := 4, pos := "law.go:46", after := #[{ on := 0, ground := Ground.data }, { on := 1, ground := Ground.data }], guard := none }) rfl (fun K hK => ?_) AllReadyH.nil)
        go_simp
        refine (HCLU.out _ (And.right (And.right hHeld))).mono ?_
        rintro e w11 ⟨b11, rfl, hk11, hb11⟩
        obtain rfl : b11 = false := (by cases b11; rfl; exact absurd (hk11.out.1 rfl) hKu)
        go_wp2_with fail
        refine hK.out _ _ (HS.out _ hb11) (fun hHeld => ?_)
        clear hK K
        try simp only [Act.put, List.setIfInBounds_toArray, List.set_cons_zero, List.set_cons_succ]
        refine wpAnyH_take (i := 3) (oi := { dst := some 37, op := Op.unOp UnOp.not 4 (Operand.tmp 36), type := 4, pos := "law.go:46", after := #[{ on := 2, ground := Ground.data }], guard := none }) (v := ?vh3_3) rfl (by kernel_rfl) (by kernel_rfl) (by kernel_rfl) (fun _ _ _ h => h) (Or.inl ⟨by rfl, ?yh3_3⟩) (by assumption) ?rh3_3
        case yh3_3 => (intro w hSw; (try dsimp only at hSw); go_simp <;> with_reducible rfl)
        try simp only [Act.put, List.setIfInBounds_toArray, List.set_cons_zero, List.set_cons_succ]
        refine wpAnyH_take (i := 4) (oi := { dst := some 38, op := Op.move (Operand.tmp 37), type := 4, pos := "law.go:46", after := #[{ on := 3, ground := Ground.data }, { on := 2, ground := Ground.chain }], guard := none }) (v := ?vh3_4) rfl (by kernel_rfl) (by kernel_rfl) (by kernel_rfl) (fun _ _ _ h => h) (Or.inl ⟨by rfl, ?yh3_4⟩) (by assumption) ?rh3_4
        case yh3_4 => (intro w hSw; (try dsimp only at hSw); go_simp <;> with_reducible rfl)
        try simp only [Act.put, List.setIfInBounds_toArray, List.set_cons_zero, List.set_cons_succ]
        refine wpAnyH_take (i := 5) (oi := { dst := some 39, op := Op.move (Operand.tmp 10), type := 24, pos := "law.go:46", after := #[{ on := 4, ground := Ground.guard }], guard := some (4, false) }) (v := undef) rfl (by kernel_rfl) (by kernel_rfl) (by kernel_rfl) (fun _ _ _ h => h) (Or.inr ⟨by rfl, rfl⟩) (by assumption) ?_
        try simp only [Act.put, List.setIfInBounds_toArray, List.set_cons_zero, List.set_cons_succ]
        refine wpAnyH_take (i := 6) (oi := { dst := some 40, op := Op.load 29 (Operand.tmp 8), type := 29, pos := "law.go:46", after := #[{ on := 4, ground := Ground.guard }], guard := some (4, false) }) (v := undef) rfl (by kernel_rfl) (by kernel_rfl) (by kernel_rfl) (fun _ _ _ h => h) (Or.inr ⟨by rfl, rfl⟩) (by assumption) ?_
        try simp only [Act.put, List.setIfInBounds_toArray, List.set_cons_zero, List.set_cons_succ]
        refine wpAnyH_take (i := 7) (oi := { dst := some 41, op := Op.call { callee := Callee.value (Operand.func 15), args := #[Operand.tmp 39, Operand.tmp 40], argTypes := #[24, 29] }, type := 4, pos := "law.go:46", after := #[{ on := 5, ground := Ground.data }, { on := 6, ground := Ground.data }, { on := 4, ground := Ground.chain }, { on := 4, ground := Ground.guard }], guard := some (4, false) }) (v := undef) rfl (by kernel_rfl) (by kernel_rfl) (by kernel_rfl) (fun _ _ _ h => h) (Or.inr ⟨by rfl, rfl⟩) (by assumption) ?_
        try simp only [Act.put, List.setIfInBounds_toArray, List.set_cons_zero, List.set_cons_succ]
        refine wpAnyH_take (i := 8) (oi := { dst := some 42, op := Op.move (Operand.tmp 7), type := 24, pos := "law.go:46", after := #[{ on := 4, ground := Ground.guard }], guard := some (4, false) }) (v := undef) rfl (by kernel_rfl) (by kernel_rfl) (by kernel_rfl) (fun _ _ _ h => h) (Or.inr ⟨by rfl, rfl⟩) (by assumption) ?_
        try simp only [Act.put, List.setIfInBounds_toArray, List.set_cons_zero, List.set_cons_succ]
        refine wpAnyH_take (i := 9) (oi := { dst := some 43, op := Op.load 29 (Operand.tmp 8), type := 29, pos := "law.go:46", after := #[{ on := 4, ground := Ground.guard }], guard := some (4, false) }) (v := undef) rfl (by kernel_rfl) (by kernel_rfl) (by kernel_rfl) (fun _ _ _ h => h) (Or.inr ⟨by rfl, rfl⟩) (by assumption) ?_
        try simp only [Act.put, List.setIfInBounds_toArray, List.set_cons_zero, List.set_cons_succ]
        refine wpAnyH_take (i := 10) (oi := { dst := some 44, op := Op.call { callee := Callee.value (Operand.func 15), args := #[Operand.tmp 42, Operand.tmp 43], argTypes := #[24, 29] }, type := 4, pos := "law.go:46", after := #[{ on := 8, ground := Ground.data }, { on := 9, ground := Ground.data }, { on := 7, ground := Ground.chain }, { on := 4, ground := Ground.guard }], guard := some (4, false) }) (v := undef) rfl (by kernel_rfl) (by kernel_rfl) (by kernel_rfl) (fun _ _ _ h => h) (Or.inr ⟨by rfl, rfl⟩) (by assumption) ?_
        try simp only [Act.put, List.setIfInBounds_toArray, List.set_cons_zero, List.set_cons_succ]
        refine wpAnyH_take (i := 11) (oi := { dst := some 45, op := Op.binOp BinOp.eql 4 (Operand.tmp 41) (Operand.tmp 44) 4, type := 4, pos := "law.go:46", after := #[{ on := 7, ground := Ground.data }, { on := 10, ground := Ground.data }, { on := 4, ground := Ground.guard }], guard := some (4, false) }) (v := undef) rfl (by kernel_rfl) (by kernel_rfl) (by kernel_rfl) (fun _ _ _ h => h) (Or.inr ⟨by rfl, rfl⟩) (by assumption) ?_
        try simp only [Act.put, List.setIfInBounds_toArray, List.set_cons_zero, List.set_cons_succ]
        refine wpAnyH_take (i := 12) (oi := { dst := some 46, op := Op.pick (Operand.tmp 38) (Operand.const (Value.bool true)) (Operand.tmp 45), type := 4, pos := "law.go:46", after := #[{ on := 4, ground := Ground.data }, { on := 11, ground := Ground.data }], guard := none }) (v := ?vh3_12) rfl (by kernel_rfl) (by kernel_rfl) (by kernel_rfl) (fun _ _ _ h => h) (Or.inl ⟨by rfl, ?yh3_12⟩) (by assumption) ?rh3_12
        case yh3_12 => (intro w hSw; (try dsimp only at hSw); go_simp <;> with_reducible rfl)
        try simp only [Act.put, List.setIfInBounds_toArray, List.set_cons_zero, List.set_cons_succ]
        refine wpAnyH_take (i := 13) (oi := { dst := some 6, op := Op.assign (Operand.tmp 46), type := 4, pos := "law.go:46", after := #[{ on := 12, ground := Ground.data }, { on := 10, ground := Ground.chain }, { on := 0, ground := Ground.phase }, { on := 1, ground := Ground.phase }, { on := 2, ground := Ground.phase }, { on := 3, ground := Ground.phase }, { on := 4, ground := Ground.phase }, { on := 5, ground := Ground.phase }, { on := 6, ground := Ground.phase }, { on := 7, ground := Ground.phase }, { on := 8, ground := Ground.phase }, { on := 9, ground := Ground.phase }, { on := 10, ground := Ground.phase }, { on := 11, ground := Ground.phase }, { on := 12, ground := Ground.phase }], guard := none }) (v := ?vh3_13) rfl (by kernel_rfl) (by kernel_rfl) (by kernel_rfl) (fun _ _ _ h => h) (Or.inl ⟨by rfl, ?yh3_13⟩) (by assumption) ?rh3_13
        case yh3_13 => (intro w hSw; (try dsimp only at hSw); go_simp <;> with_reducible rfl)
        try simp only [Act.put, List.setIfInBounds_toArray, List.set_cons_zero, List.set_cons_succ]
        refine wpAnyH_done (by kernel_rfl) ?_ _
        go_wp2_with fail
        go_ret
        exact ⟨rfl, hb8.trans (hb11.mono hs8)⟩

end Go.Proofs.YtldpnhlifgkmiaaDoor
