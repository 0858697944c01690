import Derived.Test.YtbjneijgbikcpaaDoorKJ
import Derived.Deep.Cut
import Derived.Test.YtbjneijgbikcpaaDoorW26
import Derived.Test.YtbjneijgbikcpaaDoorKT
namespace Go.Proofs.YtbjneijgbikcpaaDoor
open Go.RowKit
set_option linter.unusedVariables false
set_option linter.unusedSimpArgs false

theorem and_low (n : Int) : 0 ≤ bits .and .i64 n 65535 ∧ bits .and .i64 n 65535 ≤ 65535 := by
  have h2 : (BitVec.ofInt 64 65535).toNat = 65535 := by decide
  have e : bits .and .i64 n 65535 = IntKind.i64.wrap ((BitVec.ofInt 64 n &&& BitVec.ofInt 64 65535).toNat : Int) := rfl
  rw [e, BitVec.toNat_and, h2]
  have h : (BitVec.ofInt 64 n).toNat &&& 65535 ≤ 65535 := Nat.and_le_right
  rw [IntKind.wrap_i64]
  omega

/-- The value of the secret. -/
abbrev secV (x : Int) : Value := .agg #[.int .i64 2, .int .i64 x, .string ⟨#[]⟩, .slice none 0 0]

theorem rep_sec (w : World) (B : Nat) (x : Int) (h : 0 ≤ x ∧ x ≤ 1073741824) : RepV w B (secN x).1 (secN x).2 (.agg #[.int .i64 2, .int .i64 x, .string ⟨#[]⟩, .slice none 0 0]) :=
  ⟨⟨by simp [secN], by simp [secN], by simp [secN]; omega, by simp [secN]; omega, empty_small⟩, none, 0, 0, 0, rfl, by simp [flen, secN], .inl rfl, trivial⟩

set_option maxRecDepth 20000 in
set_option maxHeartbeats 4000000 in
theorem knowHidden_any (w : World) (B : Nat) (ns : List Int) (L1 : Option Addr) (c1 : Nat) (n : Int) (hB : B ≤ w.heap.size) (hns : NumsAt w B ns L1) (fn : NumsFit ns) (n1 : -9223372036854775808 ≤ n) (n2 : n ≤ 9223372036854775807) (htab : Tab10 w.heap.size w) :
    Calls Tryd.prog 3 #[.slice L1 ns.length c1, .int .i64 n] w fun e w' => e = .returned (.bool true) ∧ Below w.heap.size w w' := by
  have HTB : Hid (Tab10 w.heap.size w) := htab
  have HN : Hid (NumsAt w B ns L1 ∧ NumsFit ns) := ⟨hns, fn⟩
  clear htab hns fn
  go_enter Tryd.func3, Tryd.ntmps3
  go_wp2_with fail
  refine (known3_any _ HTB.out).mono ?_
  rintro e w1 ⟨rfl, ho1⟩
  have hand := and_low n
  go_wp2_with fail
  generalize bits BinOp.and IntKind.i64 n 65535 = b at *
  obtain ⟨x, hx, hx1, hx2⟩ : ∃ x : Int, 1000 + b = x ∧ 1000 ≤ x ∧ x ≤ 66535 := ⟨_, rfl, by omega, by omega⟩
  rw [hx]
  clear hx hand
  refine (refN_lit x _).mono ?_
  rintro e w2 ⟨rfl, ho2⟩
  have hb2 : Below w.heap.size w w2 := ho1.trans (ho2.mono ho1.size)
  have hal : Below w2.heap.size w2 (w2.alloc (.cells #[.int .i64 2, .int .i64 x, .string ⟨#[]⟩, .slice none 0 0] 26)) := Below.alloc (Below.refl _ _) (Nat.le_refl _) _
  have hb3 : Below w.heap.size w (w2.alloc (.cells #[.int .i64 2, .int .i64 x, .string ⟨#[]⟩, .slice none 0 0] 26)) := hb2.trans (hal.mono hb2.size)
  have hbx : Box4 (w2.alloc (.cells #[.int .i64 2, .int .i64 x, .string ⟨#[]⟩, .slice none 0 0] 26)) w2.heap.size (.int .i64 2) (.int .i64 x) (.string ⟨#[]⟩) (.slice none 0 0) := Box4.new _ _ _ _ _ _
  clear ho1 ho2 hal hb2
  go_wp2_with fail
  generalize w2.alloc (.cells #[.int .i64 2, .int .i64 x, .string ⟨#[]⟩, .slice none 0 0] 26) = w3 at *
  generalize w2.heap.size = q at *
  refine (terms_any ns L1 c1 B 6 6 rfl (by omega) _ (Nat.le_trans hB hb3.size) (nums_below HN.out.1 (hb3.mono hB)) HN.out.2 HN.out.2.1).mono ?_
  rintro e w4 ⟨v, ks, rfl, hk4, ho4, hterms⟩
  obtain ⟨hsl, hmay⟩ := hterms.sl
  obtain ⟨A, c, rfl, hA⟩ := hsl.len
  have HV : Hid (SlT w4 (.slice A ks.length c) ks) := hsl
  have HM : Hid (∀ k ∈ ks, may k.a k.l = true) := hmay
  have HA : Hid (ks.length = 0 ∨ ∃ g, A = some ⟨g, 0, none⟩ ∧ RowT w4 g ks) := hA
  have hb4 : Below w.heap.size w w4 := hb3.trans (ho4.mono hb3.size)
  have hbx4 := hbx.below ho4
  have HBX : Hid (∀ W, Below w4.heap.size w4 W → Box4 W q (.int .i64 2) (.int .i64 x) (.string ⟨#[]⟩) (.slice none 0 0)) := fun W hW => hbx4.below hW
  clear hsl hmay hA hterms hb3 ho4 hbx hbx4
  go_wp2_with fail
  go_loopw [7] (fun iv wr => ∃ m : Nat, iv = .int .i64 (m : Int) ∧ m ≤ ks.length ∧ Below w4.heap.size w4 wr ∧ ∀ i, i < m → missT (secN x).1 (secN x).2 (ks.getD i kd0).a (ks.getD i kd0).l = true) (fun iv _ => ks.length - (intOf iv).toNat)
  case atStart => exact ⟨0, rfl, by omega, Below.refl _ _, fun i hi => by omega⟩
  case round =>
    obtain ⟨m, rfl, hm, hbr, hmiss⟩ := hrel
    have HMS : Hid (∀ i, i < m → missT (secN x).1 (secN x).2 (ks.getD i kd0).a (ks.getD i kd0).l = true) := hmiss
    clear hmiss
    by_cases hlt : m < ks.length
    · obtain ⟨g, rfl, hrow⟩ : ∃ g, A = some ⟨g, 0, none⟩ ∧ RowT w4 g ks := by rcases HA.out with h | h; omega; exact h
      have hmz := HM.out _ (getD_mem hlt)
      have hok := (hrow.ok m hlt).1
      have HS : Hid (∀ W, Below w4.heap.size w4 W → (W.cell? ⟨g, m * 4, none⟩ = some (.int .i64 (ks.getD m kd0).a.kind) ∧ W.cell? ⟨g, m * 4 + 1, none⟩ = some (.int .i64 (ks.getD m kd0).a.n) ∧ W.cell? ⟨g, m * 4 + 2, none⟩ = some (.string (ks.getD m kd0).a.s) ∧ W.cell? ⟨g, m * 4 + 3, none⟩ = some (.slice (ks.getD m kd0).A (flen (ks.getD m kd0).l) (ks.getD m kd0).cap)) ∧ Box4 W q (.int .i64 2) (.int .i64 x) (.string ⟨#[]⟩) (.slice none 0 0) ∧ Below w4.heap.size w4 W) := fun W hW => ⟨(hrow.below hW).at m hlt, HBX.out W hW, hW⟩
      have HNX : ∀ i, i < m + 1 → missT (secN x).1 (secN x).2 (ks.getD m kd0).a (ks.getD m kd0).l = true → missT (secN x).1 (secN x).2 (ks.getD i kd0).a (ks.getD i kd0).l = true := fun i hi h => by
        rcases Nat.lt_or_ge i m with h1 | h1
        · exact HMS.out i h1
        · obtain rfl : i = m := by omega
          exact h
      have HNX : Hid (∀ i, i < m + 1 → missT (secN x).1 (secN x).2 (ks.getD m kd0).a (ks.getD m kd0).l = true → missT (secN x).1 (secN x).2 (ks.getD i kd0).a (ks.getD i kd0).l = true) := HNX
      generalize ks.getD m kd0 = z at HS HNX hmz hok
      have cH : Hid (∀ W, Below w4.heap.size w4 W → Calls Tryd.prog 7 #[.agg #[.int .i64 z.a.kind, .int .i64 z.a.n, .string z.a.s, .slice z.A (flen z.l) z.cap], .agg #[.int .i64 2, .int .i64 x, .string ⟨#[]⟩, .slice none 0 0]] W fun e w' => e = .returned (.bool (!missT (secN x).1 (secN x).2 z.a z.l)) ∧ Below w4.heap.size w4 w') := fun W hW =>
        (refHas_any (secN x).1 (secN x).2 z.a z.l _ _ W.heap.size W (Kd.rep (hok.below hW)) (rep_sec W _ x (by omega)) (Nat.le_refl _) (may_ar _ _ hmz).1 (by simp [secN, flen, kidsOf]) (may_ar _ _ hmz).2 trivial).mono fun e w' ⟨h, hb⟩ => ⟨h, hW.trans (hb.mono hW.size)⟩
      have hni : (m : Int) < (ks.length : Int) := by omega
      have hm0 : (0 : Int) ≤ (m : Int) := by omega
      clear hrow hmz hok HMS
      cases hmi : missT (secN x).1 (secN x).2 z.a z.l with
      | false =>
        rw [hmi] at cH
        clear hmi
        go_wp2_with fail
        go_region_held3 (fun W => (W.cell? ⟨g, m * 4, none⟩ = some (.int .i64 z.a.kind) ∧ W.cell? ⟨g, m * 4 + 1, none⟩ = some (.int .i64 z.a.n) ∧ W.cell? ⟨g, m * 4 + 2, none⟩ = some (.string z.a.s) ∧ W.cell? ⟨g, m * 4 + 3, none⟩ = some (.slice z.A (flen z.l) z.cap)) ∧ Box4 W q (.int .i64 2) (.int .i64 x) (.string ⟨#[]⟩) (.slice none 0 0) ∧ Below w4.heap.size w4 W)
          (first | exact HS.out _ (Below.drew hbr) | exact HS.out _ (by assumption))
          (first | (go_at_call 7; refine (cH.out _ ?_).mono ?_; exact (And.right (And.right (by assumption))); rintro e w5 ⟨rfl, ho5⟩))
        go_wp2_with fail
        go_ret
        exact ⟨rfl, hb4.trans (ho5.mono hb4.size)⟩
      | true =>
        have HMI : Hid (missT (secN x).1 (secN x).2 z.a z.l = true) := hmi
        rw [hmi] at cH
        clear hmi
        go_wp2_with fail
        go_region_held3 (fun W => (W.cell? ⟨g, m * 4, none⟩ = some (.int .i64 z.a.kind) ∧ W.cell? ⟨g, m * 4 + 1, none⟩ = some (.int .i64 z.a.n) ∧ W.cell? ⟨g, m * 4 + 2, none⟩ = some (.string z.a.s) ∧ W.cell? ⟨g, m * 4 + 3, none⟩ = some (.slice z.A (flen z.l) z.cap)) ∧ Box4 W q (.int .i64 2) (.int .i64 x) (.string ⟨#[]⟩) (.slice none 0 0) ∧ Below w4.heap.size w4 W)
          (first | exact HS.out _ (Below.drew hbr) | exact HS.out _ (by assumption))
          (first | (go_at_call 7; refine (cH.out _ ?_).mono ?_; exact (And.right (And.right (by assumption))); rintro e w5 ⟨rfl, ho5⟩))
        go_wp2_with fail
        go_roundw
        case rel => exact ⟨m + 1, by go_num, hlt, ho5, fun i hi => HNX.out i hi HMI.out⟩
        case measure => simp [intOf]; omega
    · obtain rfl : m = ks.length := by omega
      have hni : decide ((ks.length : Int) < (ks.length : Int)) = false := by simp
      have HUS : Hid (∀ u ∈ tms ks, missT (secN x).1 (secN x).2 u.1 u.2 = true) := fun u hu => by
        obtain ⟨k, hk, rfl⟩ := List.mem_map.1 hu
        obtain ⟨i, hi, rfl⟩ := List.mem_iff_getElem.1 hk
        have := HMS.out i hi
        simpa [List.getD, List.getElem?_eq_getElem hi] using this
      clear HMS HA
      have HQ : Hid (∀ W, Below w4.heap.size w4 W → Box4 W q (.int .i64 2) (.int .i64 x) (.string ⟨#[]⟩) (.slice none 0 0) ∧ Below w4.heap.size w4 W) := fun W hW => ⟨HBX.out W hW, hW⟩
      have hmt := one_may ns
      have hny := tape_noY ns
      have cO : ∀ W, Below w4.heap.size w4 W → Calls Tryd.prog 9 #[.slice L1 ns.length c1] W fun e w' => ∃ o : Kd, (o.a = (tapeT ns 4 0).1.1 ∧ o.l = (tapeT ns 4 0).1.2) ∧ e = .returned (.agg #[.int .i64 o.a.kind, .int .i64 o.a.n, .string o.a.s, .slice o.A (flen o.l) o.cap]) ∧ o.Ok w' (fun b => b < w'.heap.size) ∧ Below W.heap.size W w' := fun W hW => by
        have hWB : B ≤ W.heap.size := Nat.le_trans (Nat.le_trans hB hb4.size) hW.size
        refine (one_any ns L1 c1 B W hWB (nums_below HN.out.1 ((hb4.trans (hW.mono hb4.size)).mono hB)) HN.out.2).mono ?_
        rintro e w' ⟨v, rfl, hb, hv⟩
        obtain ⟨k, ka, kl, hvv, hk⟩ := hv.kd
        exact ⟨k, ⟨ka, kl⟩, by rw [hvv], hk.keep (fun b hb => hb.2) (fun _ _ _ => rfl), hb⟩
      have cO : Hid (∀ W, Below w4.heap.size w4 W → Calls Tryd.prog 9 #[.slice L1 ns.length c1] W fun e w' => ∃ o : Kd, (o.a = (tapeT ns 4 0).1.1 ∧ o.l = (tapeT ns 4 0).1.2) ∧ e = .returned (.agg #[.int .i64 o.a.kind, .int .i64 o.a.n, .string o.a.s, .slice o.A (flen o.l) o.cap]) ∧ o.Ok w' (fun b => b < w'.heap.size) ∧ Below W.heap.size W w') := cO
      clear hmt hny HBX
      go_wp2_with fail
      go_cut [8] from 30 (fun s8 wx => HidRow wx x (tapeT ns 4 0).1 s8 ∧ Below w4.heap.size w4 wx)
      case first =>
       go_region_held3 (fun W => Box4 W q (.int .i64 2) (.int .i64 x) (.string ⟨#[]⟩) (.slice none 0 0) ∧ Below w4.heap.size w4 W)
        (first
          | exact HQ.out _ (Below.drew hbr)
          | exact HQ.out _ (by assumption)
          | exact HQ.out _ (Below.trans (And.right (by assumption)) (Below.mono (by assumption) (Below.size (And.right (by assumption)))))
          | exact HQ.out _ (Below.alloc (And.right (by assumption)) (Below.size (And.right (by assumption))) _))
        (first
          | (go_at_call 8; have _h := hoT5; clear _h; refine (refT_lit _ _ _ _ _).mono ?_; rintro e wT6 ⟨rfl, hoT6⟩)
          | (go_at_call 8; have _h := hoT4; clear _h; refine (refT_lit _ _ _ _ _).mono ?_; rintro e wT5 ⟨rfl, hoT5⟩)
          | (go_at_call 8; have _h := hoA; clear _h; refine (refT_lit _ _ _ _ _).mono ?_; rintro e wT4 ⟨rfl, hoT4⟩)
          | (go_at_call 8; have _h := hoO1; clear _h; refine (refT_lit _ _ _ _ _).mono ?_; rintro e wT3 ⟨rfl, hoT3⟩)
          | (go_at_call 8; have _h := hoT1; clear _h; refine (refT_lit _ _ _ _ _).mono ?_; rintro e wT2 ⟨rfl, hoT2⟩)
          | (go_at_call 8; refine (refT_lit _ _ _ _ _).mono ?_; rintro e wT1 ⟨rfl, hoT1⟩)
          | (go_at_call 9; have _h := hoT4; clear _h; refine (cO.out _ ?_).mono ?_; exact (And.right (by assumption)); rintro e wO2 ⟨o2, hp2, rfl, hk2, hoO2⟩; have ho2 : Hid (o2.a = (tapeT ns 4 0).1.1 ∧ o2.l = (tapeT ns 4 0).1.2) := hp2; clear hp2)
          | (go_at_call 9; refine (cO.out _ ?_).mono ?_; exact (And.right (by assumption)); rintro e wO1 ⟨o1, hp1, rfl, hk1, hoO1⟩; have ho1 : Hid (o1.a = (tapeT ns 4 0).1.1 ∧ o1.l = (tapeT ns 4 0).1.2) := hp1; clear hp1)
          | (go_at_call 10; refine (refA_any _ _).mono ?_; rintro e wA ⟨rfl, hoA⟩))
       all_goals go_wp2_with fail
       all_goals go_meet
       case rel =>
        obtain ⟨s2, n2, k2⟩ := stepA hoT2
        have m1 := hoT1.size
        simp at m1
        have h4 : Below w4.heap.size w4 wT1 := hbr.trans (Below.mono (Below.trans (by exact (by repeat (first | exact Below.refl _ _ | assumption | refine below_drewN ?_ _ | refine Below.drew ?_ | refine Below.alloc ?_ (by simp <;> omega) _ | refine Below.setCell ?_ (by simp <;> omega) _))) (hoT1.mono (by simp))) hbr.size)
        have q1 : Sec4 wT1 wr.heap.size 0 x := ⟨by rw [hoT1.cell (by first | (simp; done) | (simp; omega))]; simp [go_sem], by rw [hoT1.cell (by first | (simp; done) | (simp; omega))]; simp [go_sem], by rw [hoT1.cell (by first | (simp; done) | (simp; omega))]; simp [go_sem], by rw [hoT1.cell (by first | (simp; done) | (simp; omega))]; simp [go_sem]⟩
        exact hid_tail (by omega) (h4.trans (s2.mono h4.size)) (by have := s2.size; omega) n2 (q1.below s2 (by omega)) ⟨k2 0 _ rfl, k2 1 _ rfl, k2 2 _ rfl, k2 3 _ rfl⟩ hoO1 ho1.out hk1 hoT3 hoA hoT4 hoO2 ho2.out hk2 hoT5 hoT6
       case rel =>
        have m1 := hoT1.size
        simp at m1
        have h4 : Below w4.heap.size w4 wT1 := hbr.trans (Below.mono (Below.trans (by exact (by repeat (first | exact Below.refl _ _ | assumption | refine below_drewN ?_ _ | refine Below.drew ?_ | refine Below.alloc ?_ (by simp <;> omega) _ | refine Below.setCell ?_ (by simp <;> omega) _))) (hoT1.mono (by simp; omega))) hbr.size)
        have q1 : Sec4 wT1 wr.heap.size 0 x := ⟨by rw [hoT1.cell (by first | (simp; done) | (simp; omega))]; simp [go_sem], by rw [hoT1.cell (by first | (simp; done) | (simp; omega))]; simp [go_sem], by rw [hoT1.cell (by first | (simp; done) | (simp; omega))]; simp [go_sem], by rw [hoT1.cell (by first | (simp; done) | (simp; omega))]; simp [go_sem]⟩
        have q2 : Sec4 wT1 (wr.heap.size + 1) 0 x := ⟨by rw [hoT1.cell (by first | (simp; done) | (simp; omega))]; simp [go_sem], by rw [hoT1.cell (by first | (simp; done) | (simp; omega))]; simp [go_sem], by rw [hoT1.cell (by first | (simp; done) | (simp; omega))]; simp [go_sem], by rw [hoT1.cell (by first | (simp; done) | (simp; omega))]; simp [go_sem]⟩
        exact hid_tail (by omega) (h4.trans (hoT2.mono h4.size)) (by have := hoT2.size; omega) (by have := hoT2.size; omega) (q1.below hoT2 (by omega)) (q2.below hoT2 (by omega)) hoO1 ho1.out hk1 hoT3 hoA hoT4 hoO2 ho2.out hk2 hoT5 hoT6
       case rel =>
        have m1 := hoT1.size
        simp at m1
        have h4 : Below w4.heap.size w4 wT1 := hbr.trans (Below.mono (Below.trans (by exact (by repeat (first | exact Below.refl _ _ | assumption | refine below_drewN ?_ _ | refine Below.drew ?_ | refine Below.alloc ?_ (by simp <;> omega) _ | refine Below.setCell ?_ (by simp <;> omega) _))) (hoT1.mono (by simp; omega))) hbr.size)
        have q1 : Sec4 wT1 wr.heap.size 0 x := ⟨by rw [hoT1.cell (by first | (simp; done) | (simp; omega))]; simp [go_sem], by rw [hoT1.cell (by first | (simp; done) | (simp; omega))]; simp [go_sem], by rw [hoT1.cell (by first | (simp; done) | (simp; omega))]; simp [go_sem], by rw [hoT1.cell (by first | (simp; done) | (simp; omega))]; simp [go_sem]⟩
        have q2 : Sec4 wT1 (wr.heap.size + 1) 0 x := ⟨by rw [hoT1.cell (by first | (simp; done) | (simp; omega))]; simp [go_sem], by rw [hoT1.cell (by first | (simp; done) | (simp; omega))]; simp [go_sem], by rw [hoT1.cell (by first | (simp; done) | (simp; omega))]; simp [go_sem], by rw [hoT1.cell (by first | (simp; done) | (simp; omega))]; simp [go_sem]⟩
        exact hid_tail (by omega) (h4.trans (hoT2.mono h4.size)) (by have := hoT2.size; omega) (by have := hoT2.size; omega) (q2.below hoT2 (by omega)) (q1.below hoT2 (by omega)) hoO1 ho1.out hk1 hoT3 hoA hoT4 hoO2 ho2.out hk2 hoT5 hoT6
      case rest =>
        obtain ⟨⟨g, hs, rfl, hhl, hrow, hth⟩, hbc⟩ := hcut
        have hmh : ∀ k ∈ hs, may k.a k.l = true := fun k hk => may_hides x (by omega) ns (k.a, k.l) (by rw [← hth]; exact List.mem_map_of_mem hk)
        have hslh : SlT wc (.slice (some ⟨g, 0, none⟩) 5 5) hs := .inr ⟨g, 5, by rw [hhl], hrow⟩
        have hslk := HV.out.below hbc
        have HSH : Hid (SlT wc (.slice (some ⟨g, 0, none⟩) 5 5) hs) := hslh
        have HSK : Hid (SlT wc (.slice A ks.length c) ks) := hslk
        have HMH : Hid (∀ k ∈ ks ++ hs, may k.a k.l = true) := fun k hk => by
          rcases List.mem_append.1 hk with h | h
          · exact HM.out k h
          · exact hmh k h
        have HROW : Hid (RowT wc g hs) := hrow
        have HTH : Hid (tms hs = hides (secN x) (tapeT ns 4 0).1 ∧ hs.length = 5) := ⟨hth, hhl⟩
        have hsec := HQ.out wc hbc
        have hbx := hsec.1
        have hbw : Below w.heap.size w wc := hb4.trans (hbc.mono hb4.size)
        clear hmh hslh hslk hrow hth hhl hsec HV HM cO hbr hbc HQ
        obtain ⟨i5, hi, hz0, hz1, hz2⟩ := info_get Tryd.infoTerm
        go_wp2_with (at_builtin; refine wpList_append_any _ rfl _ _ 24 rfl wc.heap.size 26 i5 (.agg #[.int .i64 0, .int .i64 0, .string ⟨#[]⟩, .slice none 0 0]) 4 56 Tryd.underlying24 hi hz0 hz1 hz2 rfl (by decide) (.slice (some ⟨wc.heap.size, 0, none⟩) 0 0) 0 [] rfl ?own A ks.length c (rowOf ks) rfl ?src ?c3 ?c4 ?c5 ?_)
        case own => exact ⟨rfl, .inr ⟨wc.heap.size, 0, #[], rfl, Nat.le_refl _, heap_alloc_new wc _, Nat.le_refl _, Nat.zero_le _, rfl, rfl⟩⟩
        case src => exact (HSK.out.below (Below.alloc (Below.refl _ _) (Nat.le_refl _) _)).src rfl
        case c3 => unfold maxLen; omega
        case c4 => omega
        case c5 => simp
        intro v7 w7 hown7 hgrow7 hat7
        have hb7 : Below wc.heap.size wc w7 := grown_belowT (Below.alloc (Below.refl _ _) (Nat.le_refl _) _) hgrow7 (fun q hq => by simp [Value.ownBlock] at hq; omega)
        have HOW7 : Hid (w7.ownsRow wc.heap.size 26 4 v7 ks.length (rowOf ks)) := hown7
        clear hown7 hgrow7 hat7
        go_wp2_with (at_builtin; refine wpList_append_any _ rfl _ _ 24 rfl wc.heap.size 26 i5 (.agg #[.int .i64 0, .int .i64 0, .string ⟨#[]⟩, .slice none 0 0]) 4 56 Tryd.underlying24 hi hz0 hz1 hz2 rfl (by decide) v7 ks.length (rowOf ks) rfl ?own (some ⟨g, 0, none⟩) 5 5 (rowOf hs) rfl ?src ?c3 ?c4 ?c5 ?_)
        case own => exact HOW7.out
        case src => have h := (HSH.out.below hb7).src HTH.out.2.symm; rw [HTH.out.2] at h; exact h
        case c3 => unfold maxLen; omega
        case c4 => omega
        case c5 => exact hb7.size
        intro v9 w9 hown9 hgrow9 hat9
        have hb9 : Below wc.heap.size wc w9 := grown_belowT hb7 hgrow9 (fun q hq => (HOW7.out.lt q hq).1)
        obtain ⟨g9, cap9, rfl, hg9, hg9'⟩ : ∃ g9 cap9, v9 = .slice (some ⟨g9, 0, none⟩) (ks.length + 5) cap9 ∧ wc.heap.size ≤ g9 ∧ g9 < w9.heap.size := by
          rcases hown9.2 with ⟨_, h0⟩ | ⟨g, c, cur, h1, h2, _⟩
          · omega
          · exact ⟨g, c, h1, h2, (hown9.lt g (by rw [h1]; rfl)).2⟩
        have HOW9 : Hid (w9.ownsRow wc.heap.size 26 4 (.slice (some ⟨g9, 0, none⟩) (ks.length + 5) cap9) (ks.length + 5) (rowOf ks ++ rowOf hs)) := hown9
        have HOKS : Hid (∀ k ∈ ks ++ hs, k.Ok wc (fun b => b < wc.heap.size) ∧ k.Ar) := fun k hk => by
          rcases List.mem_append.1 hk with h | h
          · exact HSK.out.oks k h
          · exact HSH.out.oks k h
        have hlen : (ks ++ hs).length = ks.length + 5 := by rw [List.length_append, HTH.out.2]
        have hsl9 : SlT w9 (.slice (some ⟨g9, 0, none⟩) (ks.length + 5) cap9) (ks ++ hs) := owns_sl (by rw [hlen, rowOf_append]; exact hown9) hb9 HOKS.out
        have HSL9 : Hid (SlT w9 (.slice (some ⟨g9, 0, none⟩) (ks.length + 5) cap9) (ks ++ hs)) := hsl9
        have HLEN : Hid ((ks ++ hs).length = ks.length + 5) := hlen
        have hb9w : Below w.heap.size w w9 := hbw.trans (hb9.mono hbw.size)
        have HUS2 : Hid (tms (ks ++ hs) = tms ks ++ hides (secN x) (tapeT ns 4 0).1) := by
          show tms (ks ++ hs) = _
          rw [← HTH.out.1]; simp [tms]
        have HCAN : Hid (∀ (W : World) (a : Nd) (l : Fo) (v : Value), Below w9.heap.size w9 W → RepV W W.heap.size a l v → may a l = true → Calls Tryd.prog 11 #[.slice (some ⟨g9, 0, none⟩) (ks.length + 5) cap9, v] W fun e w' => CanEnd W (tms (ks ++ hs)) a l e w') := fun W a l v hW hv hm =>
          knowCan_any (ks ++ hs) _ a l v W.heap.size W (HSL9.out.below hW) HMH.out (by have := nodesK_le _ HMH.out; rw [HLEN.out] at this; omega) (by rw [HLEN.out]; omega) hv (Nat.le_refl _) hm (HTB.out.keep (hb9w.trans (hW.mono hb9w.size)))
        have hxr : 0 ≤ x ∧ x ≤ 1073741824 := by omega
        have HXR : Hid (0 ≤ x ∧ x ≤ 1073741824) := hxr
        have h05 : 0 < hs.length := by rw [HTH.out.2]; omega
        obtain ⟨e0, e1, e2, e3⟩ := HROW.out.at 0 h05
        have h0k := HROW.out.ok 0 h05
        have h0t : ((hs.getD 0 kd0).a, (hs.getD 0 kd0).l) = kid1 3 (secN x) := by
          have h1 : (tms hs)[0]? = some (kid1 3 (secN x)) := by rw [HTH.out.1]; rfl
          have h2 : (tms hs)[0]? = some ((hs.getD 0 kd0).a, (hs.getD 0 kd0).l) := by simp [tms, List.getD, List.getElem?_eq_getElem h05]
          rw [h1] at h2; injection h2 with h2; exact h2.symm
        simp only [Nat.zero_mul, Nat.zero_add] at e0 e1 e2 e3
        generalize hs.getD 0 kd0 = h0 at *
        have hg := HROW.out.1
        have hbxc : Box4 wc q (.int .i64 2) (.int .i64 x) (.string ⟨#[]⟩) (.slice none 0 0) := hbx
        have HS : Hid (∀ W, Below wc.heap.size wc W → Box4 W q (.int .i64 2) (.int .i64 x) (.string ⟨#[]⟩) (.slice none 0 0) ∧ (W.cell? ⟨g, 0, none⟩ = some (.int .i64 h0.a.kind) ∧ W.cell? ⟨g, 1, none⟩ = some (.int .i64 h0.a.n) ∧ W.cell? ⟨g, 2, none⟩ = some (.string h0.a.s) ∧ W.cell? ⟨g, 3, none⟩ = some (.slice h0.A (flen h0.l) h0.cap)) ∧ Below wc.heap.size wc W) := fun W hW => ⟨hbxc.below hW, ⟨(hW.cell hg).trans e0, (hW.cell hg).trans e1, (hW.cell hg).trans e2, (hW.cell hg).trans e3⟩, hW⟩
        have H0K : Hid (h0.Ok wc (fun b => b < wc.heap.size) ∧ (h0.a, h0.l) = kid1 3 (secN x)) := ⟨h0k.1, h0t⟩
        have cF1 : Hid (∀ W, Below w9.heap.size w9 W → Calls Tryd.prog 11 #[.slice (some ⟨g9, 0, none⟩) (ks.length + 5) cap9, .agg #[.int .i64 2, .int .i64 x, .string ⟨#[]⟩, .slice none 0 0]] W fun e w' => e = .returned (.bool false) ∧ Below w9.heap.size w9 w') := fun W hW => by
          refine (HCAN.out W (secN x).1 (secN x).2 _ hW (rep_sec W _ x HXR.out) (may_sec x HXR.out)).mono fun e w' h => ?_
          have := canEnd_false (by rw [HUS2.out]; exact hid_secret HUS.out) h
          exact ⟨this.1, Below.go hW this.2⟩
        have cT2 : Hid (∀ W, Below w9.heap.size w9 W → Calls Tryd.prog 11 #[.slice (some ⟨g9, 0, none⟩) (ks.length + 5) cap9, .agg #[.int .i64 h0.a.kind, .int .i64 h0.a.n, .string h0.a.s, .slice h0.A (flen h0.l) h0.cap]] W fun e w' => e = .returned (.bool true) ∧ Below w9.heap.size w9 w') := fun W hW => by
          have hm : may h0.a h0.l = true := by have := may_hides x HXR.out ns (h0.a, h0.l) (by rw [H0K.out.2]; simp [hides]); exact this
          have hk : Knows (tms (ks ++ hs)) h0.a h0.l := by
            have h := hid_first (tms ks) (secN x) (tapeT ns 4 0).1
            rw [← H0K.out.2] at h; rw [HUS2.out]; exact h
          refine (HCAN.out W h0.a h0.l _ hW (Kd.rep ((H0K.out.1.below hb9).below hW)) hm).mono fun e w' h => ?_
          have := canEnd_true hk h
          exact ⟨this.1, Below.go hW this.2⟩
        have cF3 : Hid (∀ W b, Below w9.heap.size w9 W → TwoIn w9.heap.size W b x → Calls Tryd.prog 11 #[.slice (some ⟨g9, 0, none⟩) (ks.length + 5) cap9, .agg #[.int .i64 5, .int .i64 0, .string ⟨#[]⟩, .slice (some ⟨b, 0, none⟩) 2 2]] W fun e w' => e = .returned (.bool false) ∧ Below w9.heap.size w9 w') := fun W b hW h2 => by
          refine (HCAN.out W _ _ _ hW (h2.rep HXR.out 5 (by omega)) (may_told x HXR.out 5 (by omega) 121)).mono fun e w' h => ?_
          have := canEnd_false (by rw [HUS2.out]; exact hid_two HUS.out 5 (by omega) (tape_noY ns)) h
          exact ⟨this.1, Below.go hW this.2⟩
        have cF4 : Hid (∀ W b, Below w9.heap.size w9 W → TwoIn w9.heap.size W b x → Calls Tryd.prog 11 #[.slice (some ⟨g9, 0, none⟩) (ks.length + 5) cap9, .agg #[.int .i64 6, .int .i64 0, .string ⟨#[]⟩, .slice (some ⟨b, 0, none⟩) 2 2]] W fun e w' => e = .returned (.bool false) ∧ Below w9.heap.size w9 w') := fun W b hW h2 => by
          refine (HCAN.out W _ _ _ hW (h2.rep HXR.out 6 (by omega)) (may_told x HXR.out 6 (by omega) 121)).mono fun e w' h => ?_
          have := canEnd_false (by rw [HUS2.out]; exact hid_two HUS.out 6 (by omega) (tape_noY ns)) h
          exact ⟨this.1, Below.go hW this.2⟩
        have HMS : Hid (∀ k ∈ ks ++ hs ++ [⟨0, 0, (secN x).1, (secN x).2, none, 0, 0, 0⟩], may k.a k.l = true) := fun k hk => by
          rcases List.mem_append.1 hk with h | h
          · exact HMH.out k h
          · simp only [List.mem_singleton] at h; rw [h]; exact may_sec x HXR.out
        have HLS : Hid ((ks ++ hs ++ [(⟨0, 0, (secN x).1, (secN x).2, none, 0, 0, 0⟩ : Kd)]).length = ks.length + 6) := by show _ = _; rw [List.length_append, HLEN.out]; rfl
        have cT5 : Hid (∀ W b v, Below wc.heap.size wc W → SlT W v (ks ++ hs ++ [⟨0, 0, (secN x).1, (secN x).2, none, 0, 0, 0⟩]) → TwoIn w9.heap.size W b x → Calls Tryd.prog 11 #[v, .agg #[.int .i64 6, .int .i64 0, .string ⟨#[]⟩, .slice (some ⟨b, 0, none⟩) 2 2]] W fun e w' => e = .returned (.bool true) ∧ Below W.heap.size W w') := fun W b v hW hv h2 => by
          refine (knowCan_any _ v _ _ _ W.heap.size W hv HMS.out (by have := nodesK_le _ HMS.out; rw [HLS.out] at this; omega) (by rw [HLS.out]; omega) (h2.rep HXR.out 6 (by omega)) (Nat.le_refl _) (may_told x HXR.out 6 (by omega) 121) (HTB.out.keep (Below.go hbw hW))).mono fun e w' h => ?_
          refine canEnd_true ?_ h
          have e : tms (ks ++ hs ++ [(⟨0, 0, (secN x).1, (secN x).2, none, 0, 0, 0⟩ : Kd)]) = tms (ks ++ hs) ++ [secN x] := by simp [tms]
          rw [e]; exact hid_told _ x
        have HS11 : Hid (∀ (w11 : World) (v11 : Value), w11.ownsRow wc.heap.size 26 4 v11 (ks.length + 5 + 1) (rowOf ks ++ rowOf hs ++ [.int .i64 2, .int .i64 x, .string ⟨#[]⟩, .slice none 0 0]) → Below wc.heap.size wc w11 → SlT w11 v11 (ks ++ hs ++ [⟨0, 0, (secN x).1, (secN x).2, none, 0, 0, 0⟩])) := fun w11 v11 hown hb => by
          refine owns_sl (w := wc) (by rw [HLS.out, rowOf_append, rowOf_append]; exact hown) hb (fun k hk => ?_)
          rcases List.mem_append.1 hk with h | h
          · exact HOKS.out k h
          · simp only [List.mem_singleton] at h; rw [h]
            exact ⟨⟨fit_sec x HXR.out, by simp [secN, flen], .inl rfl, trivial⟩, may_ar _ _ (may_sec x HXR.out)⟩
        have HOWN : Hid (∀ W, Below w9.heap.size w9 W → W.ownsRow wc.heap.size 26 4 (.slice (some ⟨g9, 0, none⟩) (ks.length + 5) cap9) (ks.length + 5) (rowOf ks ++ rowOf hs)) := fun W hW => owns_below HOW9.out hW
        have HG9 : Hid (wc.heap.size ≤ g9 ∧ g9 < w9.heap.size) := ⟨hg9, hg9'⟩
        clear hsl9 hlen hown9 hgrow9 hat9 HSL9 HSK HSH h0k h0t e0 e1 e2 e3 hbx hbxc hxr HMS HLS HMH HOKS HROW HTH HOW9 H0K HCAN HUS2 HLEN hg9 hg9' hb7 HOW7 h05 hg
        have hk60 : ks.length ≤ 6 := hk4
        go_wp2_with fail
        go_region_held3 (fun W => Box4 W q (.int .i64 2) (.int .i64 x) (.string ⟨#[]⟩) (.slice none 0 0) ∧ (W.cell? ⟨g, 0, none⟩ = some (.int .i64 h0.a.kind) ∧ W.cell? ⟨g, 1, none⟩ = some (.int .i64 h0.a.n) ∧ W.cell? ⟨g, 2, none⟩ = some (.string h0.a.s) ∧ W.cell? ⟨g, 3, none⟩ = some (.slice h0.A (flen h0.l) h0.cap)) ∧ Below wc.heap.size wc W)
          (first
            | with_reducible exact HS.out _ (Below.drew hb9)
            | with_reducible exact HS.out _ hb11
            | with_reducible exact HS.out _ (Below.go hb9 (by with_reducible assumption))
            | with_reducible exact HS.out _ (Below.go (And.right (And.right (by with_reducible assumption))) (by with_reducible assumption))
            | with_reducible exact HS.out _ (Below.goAlloc (And.right (And.right (by with_reducible assumption)))))
          (first
            | (go_at_call 11; have _h := hoC4; clear _h; refine (cT5.out _ _ _ ?_ ?_ ?_).mono ?_; with_reducible exact (And.right (And.right (by with_reducible assumption))); (case refine_2 => (repeat (first | with_reducible exact hsl11.out | with_reducible refine SlT.below ?_ hoT3 | with_reducible refine SlT.below ?_ hoA3 | with_reducible refine SlT.below ?_ (Below.alloc (Below.refl _ _) (Nat.le_refl _) _))); done); (case refine_3 => (repeat (first | (with_reducible refine TwoIn.new _ _ _ ?_; (first | (with_reducible refine Below.size (w := w9) (B := w9.heap.size) ?_; (repeat (first | with_reducible exact hoC4 | with_reducible refine Below.goAlloc ?_ | with_reducible refine Below.go ?_ hoA3 | with_reducible refine Below.go ?_ hoT3)); done) | (refine Nat.le_trans hsz11 (Below.size (w := w11) (B := w11.heap.size) ?_); (repeat (first | with_reducible exact Below.refl _ _ | with_reducible refine Below.goAlloc ?_ | with_reducible refine Below.go ?_ hoA3 | with_reducible refine Below.go ?_ hoT3)); done)); done) | (with_reducible refine TwoIn.newS _ _ _ _ ?_; (first | (with_reducible refine Below.size (w := w9) (B := w9.heap.size) ?_; (repeat (first | with_reducible exact hoC4 | with_reducible refine Below.goAlloc ?_ | with_reducible refine Below.go ?_ hoA3 | with_reducible refine Below.go ?_ hoT3)); done) | (refine Nat.le_trans hsz11 (Below.size (w := w11) (B := w11.heap.size) ?_); (repeat (first | with_reducible exact Below.refl _ _ | with_reducible refine Below.goAlloc ?_ | with_reducible refine Below.go ?_ hoA3 | with_reducible refine Below.go ?_ hoT3)); done)); done) | with_reducible refine TwoIn.goAlloc ?_ | with_reducible refine TwoIn.go ?_ hoT3 | with_reducible refine TwoIn.go ?_ hoA3 | with_reducible refine TwoIn.grown ?_ hgrow11 HG9.out.2)); done); rintro e wC5 ⟨rfl, hoC5⟩)
            | (go_at_call 11; have _h := hoC3; clear _h; refine (cF4.out _ _ (Below.go (Below.goAlloc (Below.go hoC3 hoA2)) hoT2) ((TwoIn.new _ x _ (Below.size (Below.go hoC3 hoA2))).go hoT2)).mono ?_; rintro e wC4 ⟨rfl, hoC4⟩)
            | (go_at_call 11; have _h := hoC2; clear _h; refine (cF3.out _ _ (Below.go (Below.goAlloc (Below.go hoC2 hoA1)) hoT1) ((TwoIn.new _ x _ (Below.size (Below.go hoC2 hoA1))).go hoT1)).mono ?_; rintro e wC3 ⟨rfl, hoC3⟩)
            | (go_at_call 11; have _h := hoC1; clear _h; refine (cT2.out _ hoC1).mono ?_; rintro e wC2 ⟨rfl, hoC2⟩)
            | (go_at_call 11; refine (cF1.out _ ?_).mono ?_; exact (Below.drew (Below.refl _ _)); rintro e wC1 ⟨rfl, hoC1⟩)
            | (go_at_call 10; have _h := hoC4; clear _h; refine (refA_any _ _).mono ?_; rintro e wA3 ⟨rfl, hoA3⟩)
            | (go_at_call 10; have _h := hoC3; clear _h; refine (refA_any _ _).mono ?_; rintro e wA2 ⟨rfl, hoA2⟩)
            | (go_at_call 10; refine (refA_any _ _).mono ?_; rintro e wA1 ⟨rfl, hoA1⟩)
            | (go_at_call 8; have _h := hoC4; clear _h; refine (refT_lit _ _ _ _ _).mono ?_; rintro e wT3 ⟨rfl, hoT3⟩)
            | (go_at_call 8; have _h := hoC3; clear _h; refine (refT_lit _ _ _ _ _).mono ?_; rintro e wT2 ⟨rfl, hoT2⟩)
            | (go_at_call 8; refine (refT_lit _ _ _ _ _).mono ?_; rintro e wT1 ⟨rfl, hoT1⟩)
            | (have _h := hoC4; clear _h; refine step_append_anyG _ (by rfl) _ _ 24 (by rfl) wc.heap.size 26 i5 (.agg #[.int .i64 0, .int .i64 0, .string ⟨#[]⟩, .slice none 0 0]) 4 56 Tryd.underlying24 hi hz0 hz1 hz2 rfl (by decide) (.slice (some ⟨g9, 0, none⟩) (ks.length + 5) cap9) (ks.length + 5) (rowOf ks ++ rowOf hs) (by rfl) (HOWN.out _ ?_) _ 1 1 [.int .i64 2, .int .i64 x, .string ⟨#[]⟩, .slice none 0 0] (by rfl) (SecIn.src ?_) (by unfold maxLen; omega) (by omega) (Below.size (And.right (And.right (by with_reducible assumption)))) ?_; (case refine_1 => (repeat (first | with_reducible exact hoC4 | with_reducible refine Below.goAlloc ?_ | with_reducible refine Below.go ?_ hoA3 | with_reducible refine Below.go ?_ hoT3)); done); (repeat (first | with_reducible exact SecIn.new _ _ _ | with_reducible exact SecIn.newS _ _ _ _ | with_reducible refine SecIn.goAlloc ?_ | with_reducible refine SecIn.go ?_ hoA3 | with_reducible refine SecIn.go ?_ hoT3)); intro v11 w11 hown11 hgrow11' hat11; have hgrow11 : World.grownBy _ w11 (some g9) := hgrow11'; have hsz11 : w9.heap.size ≤ w11.heap.size := Nat.le_trans (Below.size (w := w9) (B := w9.heap.size) (by (repeat (first | with_reducible exact hoC4 | with_reducible refine Below.goAlloc ?_ | with_reducible refine Below.go ?_ hoA3 | with_reducible refine Below.go ?_ hoT3)))) hgrow11.size; have hb11 : Below wc.heap.size wc w11 := grown_belowT (And.right (And.right (by with_reducible assumption))) hgrow11 (fun q hq => by injection hq with hq; have := HG9.out.1; omega); have hsl11 : Hid (SlT w11 v11 _) := HS11.out w11 v11 hown11 hb11; clear hgrow11' hat11 hown11))
        go_wp2_with fail
        go_ret
        exact ⟨rfl, Below.go hbw (And.right (And.right (by with_reducible assumption)))⟩

end Go.Proofs.YtbjneijgbikcpaaDoor
