import Derived.Test.YtldpnhlifgkmiaaDoorKF
namespace Go.Proofs.YtldpnhlifgkmiaaDoor
open Go.RowKit
set_option linter.unusedVariables false
set_option linter.unusedSimpArgs false

set_option maxRecDepth 100000 in
set_option maxHeartbeats 4000000 in
theorem knowAll_any (w : World) (B : Nat) (ns : List Int) (L1 : Option Addr) (c1 : Nat) (ms : List Int) (L2 : Option Addr) (c2 : Nat) (hB : B ≤ w.heap.size) (hns : NumsAt w B ns L1) (fn : NumsFit ns) (hms : NumsAt w B ms L2) (fm : NumsFit ms) (htab : Tab10 w.heap.size w) :
    Calls Tryd.prog 3 #[.slice L1 ns.length c1, .slice L2 ms.length c2] w fun e w' => e = .returned (.bool true) ∧ Below w.heap.size w w' := by
  have HTB : Hid (Tab10 w.heap.size w) := htab
  clear htab
  obtain ⟨i5, hi, hz0, hz1, hz2⟩ := info_get Tryd.infoTerm
  go_enter Tryd.func3, Tryd.ntmps3
  go_wp2_with fail
  refine (known3_any _ HTB.out).mono ?_
  rintro e w1 ⟨rfl, ho1⟩
  go_wp2_with fail
  have hs1 := ho1.size
  refine (terms_any ns L1 c1 B 12 12 rfl (by omega) w1 (by omega) (nums_below hns (ho1.mono hB)) fn fn.1).mono ?_
  rintro e w2 ⟨v, ks, rfl, hk2, ho2, hterms⟩
  obtain ⟨hsl, hmay⟩ := hterms.sl
  have hnk := nodesK_le ks hmay
  have hb2 : Below w.heap.size w w2 := ho1.trans (ho2.mono hs1)
  have HV : Hid (SlT w2 v ks) := hsl
  have HM : Hid (∀ k ∈ ks, may k.a k.l = true) := hmay
  clear hsl hmay ho1 ho2 hterms hns hs1
  go_wp2_with fail
  refine Calls.mono (open_any ks _ w2 HV.out (fun k hk => may_dmay (HM.out k hk)) (by omega) (by omega) (HTB.out.keep hb2)) ?_
  intro e w3 he
  obtain ⟨M, x, rfl, hslM, hmM, hri, hcl, hM1, _, ho3⟩ := he.clos HM.out
  have HVM : Hid (SlT w3 x M) := hslM
  have HRI : Hid (Rises M) := hri
  have HCL : Hid (Clos (tms ks) (tms M)) := hcl
  have HV3 : Hid (SlT w3 v ks) := HV.out.below ho3
  have hb3 : Below w.heap.size w w3 := hb2.trans (ho3.mono hb2.size)
  clear he hslM hmM hri hcl ho3 HV hb2
  go_wp2_with fail
  refine (refOpen_any ks v w3 HV3.out HM.out (by omega)).mono ?_
  rintro e w4 ⟨L, y, rfl, hslL, hmL, hriL, hclL, hLn, ho4⟩
  have hun := open_unique HRI.out hriL HCL.out hclL
  have HUN : Hid (M.length = L.length ∧ ∀ i, i < M.length → ordK (M.getD i kd0) (L.getD i kd0) = 0) := hun
  have HVL : Hid (SlT w4 y L) := hslL
  clear hslL hmL hriL hclL hun
  go_wp2_with fail
  refine (refAll_any M L x y w4 (HVM.out.below ho4) HVL.out (by omega) HUN.out.1 HUN.out.2).mono ?_
  rintro e w5 ⟨rfl, ho5⟩
  have hb35 : Below w3.heap.size w3 w5 := ho4.trans (ho5.mono ho4.size)
  have hb5 : Below w.heap.size w w5 := hb3.trans (hb35.mono hb3.size)
  have HV5 : Hid (SlT w5 v ks) := HV3.out.below hb35
  clear HUN HVL HVM HRI HCL HV3 ho4 ho5 hb35 hb3
  go_wp2_with fail
  have hs5 := hb5.size
  refine (terms_any ms L2 c2 B 8 8 rfl (by omega) w5 (by omega) (nums_below hms (hb5.mono hB)) fm fm.1).mono ?_
  rintro e w6 ⟨tv, js, rfl, hk6, ho6, hterms6⟩
  have HT6 : Hid (TermsAt w6 (w5.heap.size + 1) tv js) := hterms6
  have hs6 := ho6.size
  have hb6 : Below w.heap.size w w6 := hb5.trans (ho6.mono hs5)
  clear hterms6
  go_wp2_with fail
  refine (one_any ms L2 c2 B w6 (by omega) (nums_below hms (hb6.mono hB)) fm).mono ?_
  rintro e w7 ⟨u, rfl, ho7, hu⟩
  obtain ⟨kd, ka, kl, rfl, hkd⟩ := hu.kd
  have hmk : may kd.a kd.l = true := by rw [ka, kl]; exact one_may ms
  have HKD : Hid (kd.Ok w7 (fun b => w6.heap.size ≤ b ∧ b < w7.heap.size) ∧ may kd.a kd.l = true) := ⟨hkd, hmk⟩
  have hs7 := ho7.size
  have hvl := HT6.out.1.lt
  have HOB : Hid (∀ q, tv.ownBlock = some q → w5.heap.size + 1 ≤ q ∧ q < w6.heap.size) := hvl
  clear hu ka kl hkd hmk hms hvl
  go_wp2_with (at_builtin; refine wpList_append_any _ rfl _ _ 24 rfl (w5.heap.size + 1) 29 i5 (.agg #[.int .i64 0, .int .i64 0, .string ⟨#[]⟩, .slice none 0 0]) 4 56 Tryd.underlying24 hi hz0 hz1 hz2 rfl (by decide) tv js.length (rowOf js) rfl ?own (some ⟨w7.heap.size, 0, none⟩) 1 1 kd.cells rfl ?src ?c3 ?c4 ?c5 ?_)
  case own => exact (owns_below HT6.out.1 ho7).alloc _
  case src => exact .inr ⟨_, rfl, rfl, World.news_of_block (cs := #[.int .i64 kd.a.kind, .int .i64 kd.a.n, .string kd.a.s, .slice kd.A (flen kd.l) kd.cap]) (t := 29) (fr := (0, 0)) (heap_alloc_new w7 _), by simp [Kd.cells, Value.oneCell']⟩
  case c3 => unfold maxLen; omega
  case c4 => omega
  case c5 => simp; omega
  intro v8 w8 hown8 hgrow8 hat8
  obtain ⟨hsl8, hm8⟩ := sl_append HT6.out ho7 HKD.out.1 HKD.out.2 hown8 hgrow8
  have hb58 : Below w5.heap.size w5 w8 := grown_belowT ((ho6.trans (ho7.mono hs6)).trans ((Below.alloc (Below.refl _ _) (Nat.le_refl _) _).mono (by omega))) hgrow8 (fun q hq => by have := HOB.out q hq; omega)
  have hb8 : Below w.heap.size w w8 := hb5.trans (hb58.mono hs5)
  have HV8 : Hid (SlT w8 v ks) := HV5.out.below hb58
  have HJ8 : Hid (SlT w8 v8 (js ++ [kd])) := hsl8
  have HMJ : Hid (∀ k ∈ js ++ [kd], may k.a k.l = true) := hm8
  have hjl : (js ++ [kd]).length ≤ 9 := by simp; omega
  clear hown8 hgrow8 hat8 hsl8 hm8 HV5 HT6 HKD HOB ho6 ho7
  generalize js ++ [kd] = rs at *
  obtain ⟨A, c, rfl, hA⟩ := HJ8.out.len
  have HA : Hid (rs.length = 0 ∨ ∃ g, A = some ⟨g, 0, none⟩ ∧ RowT w8 g rs) := hA
  clear hA
  go_wp2_with fail
  go_loopw [25] (fun iv wr => ∃ n : Nat, iv = .int .i64 (n : Int) ∧ n ≤ rs.length ∧ Below w8.heap.size w8 wr) (fun iv _ => rs.length - (intOf iv).toNat)
  case atStart => exact ⟨0, rfl, by omega, Below.refl _ _⟩
  case round =>
    obtain ⟨n, rfl, hn, hbl⟩ := hrel
    by_cases hlt : n < rs.length
    · obtain ⟨g, rfl, hrow⟩ : ∃ g, A = some ⟨g, 0, none⟩ ∧ RowT w8 g rs := by rcases HA.out with h | h; omega; exact h
      obtain ⟨e0, e1, e2, e3⟩ := (hrow.below hbl).at n hlt
      have hok := (hrow.below hbl).ok n hlt
      have hmx := HMJ.out _ (getD_mem hlt)
      generalize rs.getD n kd0 = z at *
      have HZ : Hid (z.Ok wr (fun b => b < wr.heap.size) ∧ may z.a z.l = true) := ⟨hok.1, hmx⟩
      clear hok hmx hrow
      have hni : (n : Int) < (rs.length : Int) := by omega
      have hn0 : (0 : Int) ≤ (n : Int) := by omega
      go_wp2_with fail
      obtain ⟨W, hW⟩ : ∃ W : World, W = wr.alloc (.cells #[.int .i64 z.a.kind, .int .i64 z.a.n, .string z.a.s, .slice z.A (flen z.l) z.cap] 29) := ⟨_, rfl⟩
      have hbx : Box4 W wr.heap.size (.int .i64 z.a.kind) (.int .i64 z.a.n) (.string z.a.s) (.slice z.A (flen z.l) z.cap) := by rw [hW]; exact Box4.new wr _ _ _ _ _
      have hbA : Below wr.heap.size wr W := by rw [hW]; exact Below.alloc (Below.refl _ _) (Nat.le_refl _) _
      rw [← hW]
      clear hW e0 e1 e2 e3
      have HBX : Hid (Box4 W wr.heap.size (.int .i64 z.a.kind) (.int .i64 z.a.n) (.string z.a.s) (.slice z.A (flen z.l) z.cap)) := hbx
      clear hbx
      have hb8W : Below w8.heap.size w8 W := hbl.trans (hbA.mono hbl.size)
      have HC1 : Hid (∀ W', Below W.heap.size W W' → Calls Tryd.prog 15 #[v, z.val] W' fun e w' => ∃ b : Bool, e = .returned (.bool b) ∧ Hid (b = true ↔ Knows (tms ks) z.a z.l) ∧ Below W.heap.size W w') := fun W' hW' => by
        have hb' := hb8W.trans (hW'.mono hb8W.size)
        refine (knowCan_any ks v z.a z.l _ W'.heap.size W' (HV8.out.below hb') HM.out (by omega) (by omega) (Kd.rep ((HZ.out.1.below hbA).below hW')) (Nat.le_refl _) HZ.out.2 (HTB.out.keep (hb8.trans (hb'.mono hb8.size)))).mono ?_
        rintro e w' ⟨b, h1, h2, h3⟩
        exact ⟨b, h1, h2, hW'.trans (h3.mono hW'.size)⟩
      have HC2 : Hid (∀ W', Below W.heap.size W W' → Calls Tryd.prog 16 #[v, z.val] W' fun e w' => ∃ b : Bool, e = .returned (.bool b) ∧ Hid (b = true ↔ Knows (tms ks) z.a z.l) ∧ Below W.heap.size W w') := fun W' hW' => by
        have hb' := hb8W.trans (hW'.mono hb8W.size)
        refine (refCan_any ks v z.a z.l _ W'.heap.size W' (HV8.out.below hb') HM.out (by omega) (Kd.rep ((HZ.out.1.below hbA).below hW')) (Nat.le_refl _) HZ.out.2).mono ?_
        rintro e w' ⟨b, h1, h2, h3⟩
        exact ⟨b, h1, h2, hW'.trans (h3.mono hW'.size)⟩
      go_region_held3 (fun w' => Box4 w' wr.heap.size (.int .i64 z.a.kind) (.int .i64 z.a.n) (.string z.a.s) (.slice z.A (flen z.l) z.cap) ∧ Below W.heap.size W w')
        (first | exact ⟨HBX.out.below (Below.drew (Below.refl _ _)), Below.drew (Below.refl _ _)⟩ | exact ⟨HBX.out.below hb10, hb10⟩ | exact ⟨HBX.out.below hb9, hb9⟩ | assumption)
        (first
          | (go_at_call 15; refine (HC1.out _ (And.right (by assumption))).mono ?_; rintro e w9 ⟨b9, rfl, hk9, hb9⟩)
          | (go_at_call 16; refine (HC2.out _ (And.right (by assumption))).mono ?_; rintro e w10 ⟨b10, rfl, hk10, hb10⟩))
      obtain rfl : b9 = b10 := bool_same hk9.out hk10.out
      have hbe : Below w8.heap.size w8 w10 := hb8W.trans (hb10.mono hb8W.size)
      clear hk9 hk10 HC1 HC2
      cases b9 with
      | true =>
        go_wp2_with fail
        go_roundw
        case rel => exact ⟨n + 1, by go_num, hlt, hbe⟩
        case measure => simp [intOf]; omega
      | false =>
        go_wp2_with fail
        go_roundw
        case rel => exact ⟨n + 1, by go_num, hlt, hbe⟩
        case measure => simp [intOf]; omega
    · obtain rfl : n = rs.length := by omega
      have hni : decide ((rs.length : Int) < (rs.length : Int)) = false := by simp
      go_wp2_with fail
      go_ret
      exact ⟨rfl, hb8.trans (hbl.mono hb8.size)⟩

end Go.Proofs.YtldpnhlifgkmiaaDoor
