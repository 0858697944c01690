import Derived.Test.YtooffmmfacdjeaaW32
namespace Go.Proofs.Ytooffmmfacdjeaa
open Go.RowKit
set_option linter.unusedVariables false
set_option linter.unusedSimpArgs false

theorem TermsAt.sl {w : World} {B : Nat} {v : Value} {ks : List Kd} (h : TermsAt w B v ks) : SlT w v ks ∧ ∀ k ∈ ks, may k.a k.l = true := by
  refine ⟨?_, fun k hk => (h.2 k hk).2⟩
  rcases h.1.2 with ⟨h1, h2⟩ | ⟨g, cap, cur, h3, h4, _, h5, h6, _⟩
  · exact .inl ⟨List.eq_nil_of_length_eq_zero h2, h1⟩
  · have h1 := h.1
    rw [h3] at h1
    refine .inr ⟨g, cap, h3, (h1.lt g rfl).2, fun t ht => h1.cellAt t (by omega), fun k hk => ⟨(h.2 k hk).1.keep (fun b hb => hb.2.1) (fun _ _ _ => rfl), may_ar _ _ (h.2 k hk).2⟩⟩

theorem SlT.src {w : World} {A : Option Addr} {n c : Nat} {ks : List Kd} (h : SlT w (.slice A n c) ks) (hn : n = ks.length) : SrcAt w 4 A ks.length (rowOf ks) := by
  rcases h with ⟨rfl, h⟩ | ⟨g, c, h1, h4⟩
  · exact .inl ⟨rfl, rfl⟩
  · injection h1 with e1 e2 e3
    subst e1
    have h := h4.src 0 ks.length (by omega)
    simpa using h

/-- A row of one's own, of terms that stood. -/
theorem owns_sl {w w' : World} {v : Value} {ks : List Kd} (hown : w'.ownsRow w.heap.size 30 4 v ks.length (rowOf ks)) (hb : Below w.heap.size w w') (hk : ∀ k ∈ ks, k.Ok w (fun b => b < w.heap.size) ∧ k.Ar) : SlT w' v ks := by
  rcases hown.2 with ⟨h1, h2⟩ | ⟨g, cap, cur, h3, h4, _, h5, h6, _⟩
  · exact .inl ⟨List.eq_nil_of_length_eq_zero h2, h1⟩
  · rw [h3] at hown
    exact .inr ⟨g, cap, h3, (hown.lt g rfl).2, fun t ht => hown.cellAt t (by omega), fun k h => ⟨(hk k h).1.below hb, (hk k h).2⟩⟩

theorem SlT.oks {w : World} {v : Value} {ks : List Kd} (h : SlT w v ks) : ∀ k ∈ ks, k.Ok w (fun b => b < w.heap.size) ∧ k.Ar := by
  rcases h with ⟨rfl, h⟩ | ⟨g, c, h1, h4⟩
  · intro k hk; cases hk
  · exact h4.2.2

theorem lessK {w : World} {j k : Kd} (hj : j.Ok w (fun b => b < w.heap.size)) (hk : k.Ok w (fun b => b < w.heap.size)) (mj : may j.a j.l = true) (mk : may k.a k.l = true) :
    Calls Try.prog 10 #[j.val, k.val] w fun e w' => e = .returned (.bool (decide (ordK j k < 0))) ∧ Below w.heap.size w w' :=
  less_any _ _ _ _ _ _ w.heap.size w (Kd.rep hj) (Kd.rep hk) (Nat.le_refl _) mj mk

set_option maxRecDepth 20000 in
set_option maxHeartbeats 4000000 in
theorem termSort_any (w : World) (B : Nat) (ns : List Int) (L1 : Option Addr) (c1 : Nat) (hB : B ≤ w.heap.size) (hns : NumsAt w B ns L1) (fn : NumsFit ns) :
    Calls Try.prog 3 #[.slice L1 ns.length c1] w fun e w' => e = .returned (.bool true) ∧ Below w.heap.size w w' := by
  obtain ⟨i, hi, hz0, hz1, hz2⟩ := info_get Try.infoTerm
  go_enter Try.func3, Try.ntmps3
  go_wp2_with fail
  refine (known_any _).mono ?_
  rintro e w1 ⟨rfl, ho1⟩
  go_wp2_with fail
  have hs1 := ho1.size
  refine (terms_any ns L1 c1 B 20 20 rfl (by omega) w1 (by omega) (nums_below hns (ho1.mono hB)) fn fn.1).mono ?_
  rintro e w2 ⟨v, ks, rfl, hk2, ho2, hterms⟩
  obtain ⟨hsl, hmay⟩ := hterms.sl
  clear hterms hns
  have hb2 : Below w.heap.size w w2 := ho1.trans (ho2.mono hs1)
  have HV : Hid (SlT w2 v ks) := hsl
  have HM : Hid (∀ k ∈ ks, may k.a k.l = true) := hmay
  clear hsl hmay ho1 ho2
  go_wp2_with fail
  refine (sortK HV.out HM.out (by omega)).mono ?_
  rintro e w3 ⟨M, x, rfl, hslM, hmayM, hrise, hsame, hcov, hlM, ho3⟩
  have HVM : Hid (SlT w3 x M) := hslM
  have HMM : Hid (∀ k ∈ M, may k.a k.l = true) := hmayM
  have HRI : Hid (Rises M) := hrise
  have HSA : Hid (SameIn M ks) := hsame
  have HCO : Hid (Covers ks M) := hcov
  have HV3 : Hid (SlT w3 v ks) := HV.out.below ho3
  have hb3 : Below w.heap.size w w3 := hb2.trans (ho3.mono hb2.size)
  clear hslM hmayM hrise hsame hcov ho3 HV hb2
  go_wp2_with fail
  refine (refSort_any ks v w3 (by omega) HV3.out).mono ?_
  rintro e w4 ⟨L, y, rfl, hso, hslL, hLk, ho4⟩
  have HVL : Hid (SlT w4 y L) := hslL.sl
  have hun := sortOf_unique M L HRI.out hso.1 (HSA.out.covers.trans hso.2.2) (Covers.trans (Covers.sub hso.2.1) HCO.out)
  have HUN : Hid _ := hun
  have hM20 : M.length ≤ 20 := by have := hun.1; omega
  clear hslL hso hun
  go_wp2_with fail
  refine (refAll_any M L x y w4 (HVM.out.below ho4) HVL.out (by omega) HUN.out.1 HUN.out.2).mono ?_
  rintro e w5 ⟨rfl, ho5⟩
  have hb5 : Below w3.heap.size w3 w5 := ho4.trans (ho5.mono ho4.size)
  clear HUN HVL ho4 ho5
  have HV5 : Hid (SlT w5 v ks) := HV3.out.below hb5
  have HX5 : Hid (SlT w5 x M) := HVM.out.below hb5
  have hb : Below w.heap.size w w5 := hb3.trans (hb5.mono hb3.size)
  clear HV3 HVM hb5 hb3
  obtain ⟨XA, xc, rfl, hXA⟩ := HX5.out.len
  have HXA : Hid (M.length = 0 ∨ ∃ g, XA = some ⟨g, 0, none⟩ ∧ RowT w5 g M) := hXA
  obtain ⟨VA, vc, rfl, hVA⟩ := HV5.out.len
  clear hXA hVA
  go_wp2_with fail
  go_loopw [5] (fun iv wr => ∃ m : Nat, iv = .int .i64 (m : Int) ∧ 1 ≤ m ∧ (m ≤ M.length ∨ m = 1) ∧ Below w5.heap.size w5 wr) (fun iv _ => M.length + 1 - (intOf iv).toNat)
  case atStart => exact ⟨1, rfl, by omega, .inr rfl, Below.refl _ _⟩
  case round =>
    obtain ⟨m, rfl, hm1, hn, hbl⟩ := hrel
    by_cases hlt : m < M.length
    · obtain ⟨n, hnm⟩ : ∃ n, m = n + 1 := ⟨m - 1, by omega⟩
      obtain ⟨g, rfl, hrow⟩ : ∃ g, XA = some ⟨g, 0, none⟩ ∧ RowT w5 g M := by rcases HXA.out with h | h; omega; exact h
      have e1 := fun (W : World) (hW : Below w5.heap.size w5 W) => (hrow.below hW).at n (by omega)
      have e2 := fun (W : World) (hW : Below w5.heap.size w5 W) => (hrow.below hW).at m hlt
      have hx1 : M.getD n kd0 ∈ M := getD_mem (by omega)
      have hx2 : M.getD m kd0 ∈ M := getD_mem hlt
      have c1 : ∀ W, Below w5.heap.size w5 W → Calls Try.prog 10 #[(M.getD n kd0).val, (M.getD m kd0).val] W fun e w' => e = .returned (.bool (decide (ordK (M.getD n kd0) (M.getD m kd0) < 0))) ∧ Below w5.heap.size w5 w' :=
        fun W hW => (lessK ((hrow.below hW).ok n (by omega)).1 ((hrow.below hW).ok m hlt).1 (HMM.out _ hx1) (HMM.out _ hx2)).mono (fun e w' h => ⟨h.1, hW.trans (h.2.mono hW.size)⟩)
      have hq : ordK (M.getD n kd0) (M.getD m kd0) < 0 := by
        have := (List.pairwise_iff_getElem.1 HRI.out) n m (by omega) hlt (by omega)
        simpa [List.getD, List.getElem?_eq_getElem hlt, List.getElem?_eq_getElem (show n < M.length by omega)] using this
      generalize M.getD n kd0 = x1 at *
      generalize M.getD m kd0 = x2 at *
      rw [decide_eq_true hq] at c1
      have E1 : Hid _ := e1
      have E2 : Hid _ := e2
      have C1 : Hid _ := c1
      clear e1 e2 c1 hq hrow hx1 hx2 hn
      have hni : (m : Int) < (M.length : Int) := by omega
      have hm0 : (0 : Int) ≤ (m : Int) := by omega
      have hn0 : (0 : Int) ≤ (n : Int) := by omega
      have hnl : (n : Int) < (M.length : Int) := by omega
      have hsub : (m : Int) - 1 = (n : Int) := by omega
      have hwr : IntKind.i64.wrap (n : Int) = (n : Int) := by rw [wrap_in _ (by omega) (by omega)]
      have HNM : Hid (m = n + 1) := hnm
      clear hnm
      go_wp2_with fail
      go_region_held3 (fun w' => (w'.cell? ⟨g, n * 4, none⟩ = some (.int .i64 x1.a.kind) ∧ w'.cell? ⟨g, n * 4 + 1, none⟩ = some (.int .i64 x1.a.n) ∧ w'.cell? ⟨g, n * 4 + 2, none⟩ = some (.string x1.a.s) ∧ w'.cell? ⟨g, n * 4 + 3, none⟩ = some (.slice x1.A (flen x1.l) x1.cap)) ∧ (w'.cell? ⟨g, m * 4, none⟩ = some (.int .i64 x2.a.kind) ∧ w'.cell? ⟨g, m * 4 + 1, none⟩ = some (.int .i64 x2.a.n) ∧ w'.cell? ⟨g, m * 4 + 2, none⟩ = some (.string x2.a.s) ∧ w'.cell? ⟨g, m * 4 + 3, none⟩ = some (.slice x2.A (flen x2.l) x2.cap)) ∧ Below w5.heap.size w5 w')
        (first | exact ⟨E1.out _ hbl.drew, E2.out _ hbl.drew, hbl.drew⟩ | exact ⟨E1.out _ ho6, E2.out _ ho6, ho6⟩)
        (first
          | (go_at_call 10; refine (C1.out _ ?_).mono ?_; exact (And.right (And.right (by assumption))); rintro e w6 ⟨rfl, ho6⟩))
      go_wp2_with fail
      go_roundw
      case rel => exact ⟨m + 1, by go_num, by omega, .inl (by omega), ho6⟩
      case measure => simp [intOf]; omega
    · have hni : decide ((m : Int) < (M.length : Int)) = false := by simp; omega
      have HVR : Hid (SlT wr (.slice VA ks.length vc) ks) := HV5.out.below hbl
      have HXR : Hid (SlT wr (.slice XA M.length xc) M) := HX5.out.below hbl
      clear hn
      go_wp2_with (at_builtin; refine wpList_append_any _ rfl _ _ 24 rfl wr.heap.size 30 i (.agg #[.int .i64 0, .int .i64 0, .string ⟨#[]⟩, .slice none 0 0]) 4 56 Try.underlying24 hi hz0 hz1 hz2 rfl (by decide) (.slice (some ⟨wr.heap.size, 0, none⟩) 0 0) 0 [] rfl ?own VA ks.length vc (rowOf ks) rfl ?src ?c3 ?c4 ?c5 ?_)
      case own => exact ⟨rfl, .inr ⟨wr.heap.size, 0, #[], rfl, Nat.le_refl _, heap_alloc_new wr _, Nat.le_refl _, Nat.zero_le _, rfl, rfl⟩⟩
      case src => exact (HVR.out.below (Below.alloc (Below.refl _ _) (Nat.le_refl _) (.cells #[] 30))).src rfl
      case c3 => unfold maxLen; omega
      case c4 => omega
      case c5 => simp
      intro v6 w6 hown6 hgrow6 hat6
      have hs6 := hgrow6.size
      simp only [World.heap_size_alloc'] at hs6
      have hb6 : Below wr.heap.size wr w6 := ⟨hgrow6.os, hgrow6.tape, hgrow6.output, by omega, fun q hq => by rw [hgrow6.block q (by simp; omega) (fun e => by simp [Value.ownBlock] at e; omega), Below.heap_alloc _ _ _ (by omega)]⟩
      have o6 : w6.ownsRow wr.heap.size 30 4 v6 ks.length (rowOf ks) := by simpa using hown6
      have hX6 : SlT w6 (.slice XA M.length xc) M := HXR.out.below hb6
      clear hown6
      go_wp2_with (at_builtin; refine wpList_append_any _ rfl _ _ 24 rfl wr.heap.size 30 i (.agg #[.int .i64 0, .int .i64 0, .string ⟨#[]⟩, .slice none 0 0]) 4 56 Try.underlying24 hi hz0 hz1 hz2 rfl (by decide) v6 ks.length (rowOf ks) rfl o6 XA M.length xc (rowOf M) rfl (hX6.src rfl) ?c3 ?c4 ?c5 ?_)
      case c3 => unfold maxLen; omega
      case c4 => omega
      case c5 => omega
      intro v7 w7 hown7 hgrow7 hat7
      have hb7 : Below wr.heap.size wr w7 := grown_belowT hb6 hgrow7 (fun q hq => (o6.lt q hq).1)
      have hsl7 : SlT w7 v7 (ks ++ M) := owns_sl (w := wr) (by rw [List.length_append, rowOf_append]; exact hown7) hb7 (fun k hk => by
        rcases List.mem_append.1 hk with h | h
        · exact HVR.out.oks k h
        · exact HXR.out.oks k h)
      have HS7 : Hid (SlT w7 v7 (ks ++ M)) := hsl7
      have HX7 : Hid (SlT w7 (.slice XA M.length xc) M) := HXR.out.below hb7
      clear hsl7 hown7 hgrow7 hat7 o6 hX6 hgrow6 hat6
      go_wp2_with fail
      refine (sortK HS7.out (fun k hk => by
        rcases List.mem_append.1 hk with h | h
        · exact HM.out k h
        · exact HMM.out k h) (by rw [List.length_append]; omega)).mono ?_
      rintro e w8 ⟨N, z, rfl, hslN, _, hriseN, hsameN, hcovN, hlN, ho8⟩
      have hun := sortOf_unique N M hriseN HRI.out (hsameN.covers.trans (fun k hk => by
        rcases List.mem_append.1 hk with h | h
        · exact HCO.out k h
        · exact ⟨k, h, ordK_self k⟩)) (fun k hk => hcovN k (List.mem_append.2 (.inr hk)))
      have HN : Hid (SlT w8 z N) := hslN
      have HUN : Hid _ := hun
      clear hslN hriseN hsameN hcovN hun
      go_wp2_with fail
      refine (refAll_any N M z _ w8 HN.out (HX7.out.below ho8) hlN HUN.out.1 HUN.out.2).mono ?_
      rintro e w9 ⟨rfl, ho9⟩
      have hbf : Below wr.heap.size wr w9 := (hb7.trans (ho8.mono hb7.size)).trans (ho9.mono (by have := hb7.size; have := ho8.size; omega))
      clear HUN
      go_wp2_with fail
      go_ret
      exact ⟨rfl, hb.trans ((hbl.trans (hbf.mono hbl.size)).mono hb.size)⟩

end Go.Proofs.Ytooffmmfacdjeaa
