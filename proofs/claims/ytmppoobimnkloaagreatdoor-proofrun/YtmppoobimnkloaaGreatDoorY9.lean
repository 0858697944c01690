import Derived.Test.YtmppoobimnkloaaGreatDoorY8
import Derived.Test.YtmppoobimnkloaaGreatDoorKT
namespace Go.Proofs.YtmppoobimnkloaaGreatDoor
open Go.RowKit
set_option linter.unusedVariables false
set_option linter.unusedSimpArgs false

/-- One round's moves: what stands in the row of lots. -/
def LotAt (w : World) (G i : Nat) (xs : List Mv) (XA : Option Addr) (xc : Nat) : Prop :=
  w.cell? ⟨G, i, none⟩ = some (.slice XA xs.length xc) ∧ MvsAt w w.heap.size xs XA ∧ xs.length ≤ 60 ∧ ∀ m ∈ xs, m.s.size ≤ maxLen

theorem LotAt.below {w w' : World} {G i : Nat} {xs : List Mv} {XA : Option Addr} {xc : Nat} (h : LotAt w G i xs XA xc) (hG : G < w.heap.size) (hb : Below w.heap.size w w') : LotAt w' G i xs XA xc :=
  ⟨by rw [hb.cell hG]; exact h.1, by
    rcases h.2.1 with h | ⟨mb, mo, h1, h2, h3⟩
    · exact .inl h
    · exact .inr ⟨mb, mo, h1, Nat.lt_of_lt_of_le h2 hb.size, fun i hi => by rw [hb.cell h2, hb.cell h2, hb.cell h2, hb.cell h2]; exact h3 i hi⟩, h.2.2⟩

theorem MvsAt.up {w : World} {B B' : Nat} {ms : List Mv} {A : Option Addr} (h : MvsAt w B ms A) (hb : B ≤ B') : MvsAt w B' ms A := by
  rcases h with h | ⟨mb, mo, h1, h2, h3⟩
  · exact .inl h
  · exact .inr ⟨mb, mo, h1, Nat.lt_of_lt_of_le h2 hb, h3⟩

def RunLaw (w : World) (G : Nat) (lv : Value) (ks : List Kd) (xs ys : List Mv) (XA YA : Option Addr) (xc yc : Nat) (kn : List Int) (LK : Option Addr) (B : Nat) : Prop :=
  G < w.heap.size ∧ SlT w lv ks ∧ ks.length ≤ 8 ∧ (∀ k ∈ ks, may k.a k.l = true) ∧ LotAt w G 0 xs XA xc ∧ LotAt w G 1 ys YA yc ∧ NumsAt w B kn LK ∧ B ≤ w.heap.size

theorem tms_ord {is js : List Kd} (h : tms is = tms js) (i : Nat) : ordK (is.getD i kd0) (js.getD i kd0) = 0 := by
  have e : (tms is)[i]? = (tms js)[i]? := by rw [h]
  have hx : ((is.getD i kd0).a, (is.getD i kd0).l) = ((js.getD i kd0).a, (js.getD i kd0).l) := by
    simp only [tms, List.getElem?_map] at e
    simp only [List.getD]
    cases h1 : is[i]? with
    | none => cases h2 : js[i]? with
      | none => rfl
      | some k => rw [h1, h2] at e; cases e
    | some j => cases h2 : js[i]? with
      | none => rw [h1, h2] at e; cases e
      | some k => rw [h1, h2] at e; injection e
  injection hx with h1 h2
  unfold ordK
  rw [h1, h2]; exact ordT_self _ _

set_option maxRecDepth 20000 in
set_option maxHeartbeats 4000000 in
theorem proofRun_any (ns ms kn : List Int) (raw : List Mv) (LN LM LK RA : Option Addr) (cn cm ck cr B : Nat) (w : World) (hB : B ≤ w.heap.size) (hns : NumsAt w B ns LN) (hms : NumsAt w B ms LM) (hkn : NumsAt w B kn LK) (fn : NumsFit ns) (fm : NumsFit ms) (fk : NumsFit kn) (hraw : MvsAt w B raw RA) (hrl : raw.length ≤ 9223372036854775807) (hrs : ∀ m ∈ raw, m.s.size ≤ maxLen) (htab : Tab10 w.heap.size w) :
    Calls Tryz.prog 3 #[.slice LN ns.length cn, .slice LM ms.length cm, .slice RA raw.length cr, .slice LK kn.length ck] w fun e w' => e = .returned (.bool true) ∧ Below w.heap.size w w' := by
  have HN : Hid (NumsAt w B ns LN ∧ NumsFit ns) := ⟨hns, fn⟩
  have HM : Hid (NumsAt w B ms LM ∧ NumsFit ms) := ⟨hms, fm⟩
  have HK : Hid (NumsAt w B kn LK ∧ NumsFit kn) := ⟨hkn, fk⟩
  have HR : Hid (MvsAt w B raw RA ∧ ∀ m ∈ raw, m.s.size ≤ maxLen) := ⟨hraw, hrs⟩
  have HTB : Hid (Tab10 w.heap.size w) := htab
  clear hns hms hkn hraw hrs htab fn fm fk
  by_cases hbig : (raw.length : Int) > 60
  · go_enter Tryz.func3, Tryz.ntmps3
    go_wp2_with fail
    refine (known4_any _ HTB.out).mono ?_
    rintro e w1 ⟨rfl, ho1⟩
    go_wp2_with fail
    go_ret
    exact ⟨rfl, ho1⟩
  have hr60 : raw.length ≤ 60 := by omega
  go_enter Tryz.func3, Tryz.ntmps3
  go_wp2_with fail
  refine (known4_any _ HTB.out).mono ?_
  rintro e w1 ⟨rfl, ho1⟩
  go_wp2_with fail
  go_loopw [9] (fun iv wr => ∃ n : Nat, iv = .int .i64 (n : Int) ∧ n ≤ raw.length ∧ Below w.heap.size w wr) (fun iv _ => raw.length - (intOf iv).toNat)
  case atStart => exact ⟨0, rfl, Nat.zero_le _, ho1⟩
  case round =>
    clear ho1
    obtain ⟨n, rfl, hn, ho1⟩ := hrel
    by_cases hlt : n < raw.length
    · obtain ⟨mb, mo, rfl, hmb, hcm⟩ : ∃ mb mo, RA = some ⟨mb, mo, none⟩ ∧ mb < B ∧ ∀ i, i < raw.length → w.cell? ⟨mb, mo + i * 4, none⟩ = some (.int .i64 (raw.getD i mv0).kind) ∧ w.cell? ⟨mb, mo + i * 4 + 1, none⟩ = some (.int .i64 (raw.getD i mv0).a) ∧ w.cell? ⟨mb, mo + i * 4 + 2, none⟩ = some (.int .i64 (raw.getD i mv0).b) ∧ w.cell? ⟨mb, mo + i * 4 + 3, none⟩ = some (.string (raw.getD i mv0).s) := by
        rcases HR.out.1 with h | h
        · rw [h] at hlt; simp at hlt
        · exact h
      obtain ⟨_, _, _, c3⟩ := hcm n hlt
      have c3 : wr.cell? ⟨mb, mo + n * 4 + 3, none⟩ = some (.string (raw.getD n mv0).s) := (ho1.cell (show mb < _ by omega)).trans c3
      have hss := HR.out.2 (raw.getD n mv0) (by simp [List.getD, List.getElem?_eq_getElem hlt])
      generalize raw.getD n mv0 = m at *
      have hmm : m.s.size ≤ 9223372036854775807 := hss
      clear hcm
      have hni : (n : Int) < (raw.length : Int) := by omega
      have hn0 : (0 : Int) ≤ (n : Int) := by omega
      by_cases hsz : (m.s.size : Int) > 2000
      · go_wp2_with fail
        go_ret
        exact ⟨rfl, by exact (by repeat (first | exact Below.refl _ _ | assumption | refine below_drewN ?_ _ | refine Below.drew ?_ | refine Below.alloc ?_ (by simp <;> omega) _ | refine Below.setCell ?_ (by simp <;> omega) _))⟩
      · go_wp2_with fail
        go_roundw
        case rel => exact ⟨n + 1, by go_num, hlt, by exact (by repeat (first | exact Below.refl _ _ | assumption | refine below_drewN ?_ _ | refine Below.drew ?_ | refine Below.alloc ?_ (by simp <;> omega) _ | refine Below.setCell ?_ (by simp <;> omega) _))⟩
        case measure => simp [intOf]; omega
    · obtain rfl : n = raw.length := by omega
      have hni : decide ((raw.length : Int) < (raw.length : Int)) = false := by simp
      go_wp2_with fail
      refine (terms_any ns LN cn B 8 8 rfl (by omega) _ (Nat.le_trans hB ho1.size) (nums_below HN.out.1 (ho1.mono hB)) HN.out.2 HN.out.2.1).mono ?_
      rintro e w2 ⟨lv, ks, rfl, hkl, ho2, hta⟩
      have hb2 : Below w.heap.size w w2 := ho1.trans (ho2.mono ho1.size)
      obtain ⟨hsl, hmay⟩ := hta.sl
      obtain ⟨LA, lc, rfl, _⟩ := hsl.len
      have HSL : Hid (SlT w2 (.slice LA ks.length lc) ks ∧ ∀ k ∈ ks, may k.a k.l = true) := ⟨hsl, hmay⟩
      clear hsl hmay hta ho1 ho2
      go_wp2_with fail
      refine (moves_any ms LM cm B 30 30 rfl (by omega) _ (Nat.le_trans hB hb2.size) (nums_below HM.out.1 (hb2.mono hB)) HM.out.2 HM.out.2.1).mono ?_
      rintro e w3 ⟨YA, yc, ys, rfl, hyl, ho3, hmy, hys, hyc⟩
      have hb3 : Below w.heap.size w w3 := hb2.trans (ho3.mono hb2.size)
      have hal : Below w3.heap.size w3 (w3.alloc (.cells #[.slice RA raw.length cr, .slice YA ys.length yc] 23)) := Below.alloc (Below.refl _ _) (Nat.le_refl _) _
      have HL : RunLaw (w3.alloc (.cells #[.slice RA raw.length cr, .slice YA ys.length yc] 23)) w3.heap.size (.slice LA ks.length lc) ks raw ys RA YA cr yc kn LK B := by
        refine ⟨by simp, (HSL.out.1.below ho3).below hal, hkl, HSL.out.2, ⟨by simp [go_sem], ?_, hr60, HR.out.2⟩, ⟨by simp [go_sem], (hmy.below8 hal).up hal.size, by omega, hys⟩, nums_below HK.out.1 ((hb3.trans (hal.mono hb3.size)).mono hB), by have := hb3.size; have := hal.size; omega⟩
        exact (HR.out.1.below8 ((hb3.trans (hal.mono hb3.size)).mono hB)).up (by have := hb3.size; have := hal.size; omega)
      have HL5 : Hid (RunLaw (w3.alloc (.cells #[.slice RA raw.length cr, .slice YA ys.length yc] 23)) w3.heap.size (.slice LA ks.length lc) ks raw ys RA YA cr yc kn LK B) := HL
      have hb4 : Below w.heap.size w (w3.alloc (.cells #[.slice RA raw.length cr, .slice YA ys.length yc] 23)) := hb3.trans (hal.mono hb3.size)
      clear HL hal hmy hys hb2 hb3 ho3
      go_wp2_with fail
      generalize w3.alloc (.cells #[.slice RA raw.length cr, .slice YA ys.length yc] 23) = w4 at *
      generalize w3.heap.size = G at *
      go_loopw [12] (fun iv wr => ∃ n : Nat, iv = .int .i64 (n : Int) ∧ n ≤ 2 ∧ Below w4.heap.size w4 wr) (fun iv _ => 2 - (intOf iv).toNat)
      case atStart => exact ⟨0, rfl, by omega, Below.refl _ _⟩
      case round =>
        obtain ⟨n, rfl, hn2, hbr⟩ := hrel
        by_cases hlt : n < 2
        · obtain ⟨xs, XA, xc, hlot⟩ : ∃ xs XA xc, LotAt w4 G n xs XA xc := by
            obtain rfl | rfl : n = 0 ∨ n = 1 := by omega
            · exact ⟨_, _, _, HL5.out.2.2.2.2.1⟩
            · exact ⟨_, _, _, HL5.out.2.2.2.2.2.1⟩
          have HLOT : Hid (LotAt w4 G n xs XA xc) := hlot
          have hG := HL5.out.1
          have HC : Hid (∀ W, Below w4.heap.size w4 W → W.cell? ⟨G, n, none⟩ = some (.slice XA xs.length xc)) := fun W hW => (hW.cell hG).trans HLOT.out.1
          have cRun : Hid (∀ W, Below w4.heap.size w4 W → Calls Tryz.prog 8 #[.slice LA ks.length lc, .slice XA xs.length xc] W fun e w' => RunEnd W (tms ks) xs e w') := fun W hW => run_any ks _ xs XA xc W.heap.size W (HL5.out.2.1.below hW) (by have := HL5.out.2.2.1; omega) HL5.out.2.2.2.1 (Nat.le_refl _) (HLOT.out.below hG hW).2.1 (by have := HLOT.out.2.2.1; omega) HLOT.out.2.2.2
          have cRef : Hid (∀ W, Below w4.heap.size w4 W → Calls Tryz.prog 9 #[.slice LA ks.length lc, .slice XA xs.length xc] W fun e w' => RefEnd W (tms ks) xs e w') := fun W hW => refRun_any ks _ xs XA xc W.heap.size W (HL5.out.2.1.below hW) (by have := HL5.out.2.2.1; omega) HL5.out.2.2.2.1 (Nat.le_refl _) (HLOT.out.below hG hW).2.1 (by have := HLOT.out.2.2.1; omega) HLOT.out.2.2.2
          have cPr : Hid (∀ W a l v, Below w4.heap.size w4 W → RepV W W.heap.size a l v → may a l = true → Calls Tryz.prog 12 #[.slice LA ks.length lc, .slice XA xs.length xc, v] W fun e w' => e = .returned (.bool (provB (tms ks) xs (a, l))) ∧ Below W.heap.size W w') := fun W a l v hW hv hm => proves_any ks _ xs XA xc W.heap.size W.heap.size a l v W (HL5.out.2.1.below hW) (by have := HL5.out.2.2.1; omega) HL5.out.2.2.2.1 (Nat.le_refl _) (HLOT.out.below hG hW).2.1 (by have := HLOT.out.2.2.1; omega) HLOT.out.2.2.2 hv (Nat.le_refl _) hm
          have cQr : Hid (∀ W a l v, Below w4.heap.size w4 W → RepV W W.heap.size a l v → may a l = true → Calls Tryz.prog 13 #[.slice LA ks.length lc, .slice XA xs.length xc, v] W fun e w' => e = .returned (.bool (provB (tms ks) xs (a, l))) ∧ Below W.heap.size W w') := fun W a l v hW hv hm => refProves_any ks _ xs XA xc W.heap.size W.heap.size a l v W (HL5.out.2.1.below hW) (by have := HL5.out.2.2.1; omega) HL5.out.2.2.2.1 (Nat.le_refl _) (HLOT.out.below hG hW).2.1 (by have := HLOT.out.2.2.1; omega) HLOT.out.2.2.2 hv (Nat.le_refl _) hm
          have MAYT := one_may kn
          have cOne : ∀ W, Below w4.heap.size w4 W → Calls Tryz.prog 10 #[.slice LK kn.length ck] W fun e w' => (∃ A c, e = .returned (.agg #[.int .i64 (tapeT kn 4 0).1.1.kind, .int .i64 (tapeT kn 4 0).1.1.n, .string (tapeT kn 4 0).1.1.s, .slice A (flen (tapeT kn 4 0).1.2) c]) ∧ RepV w' w'.heap.size (tapeT kn 4 0).1.1 (tapeT kn 4 0).1.2 (.agg #[.int .i64 (tapeT kn 4 0).1.1.kind, .int .i64 (tapeT kn 4 0).1.1.n, .string (tapeT kn 4 0).1.1.s, .slice A (flen (tapeT kn 4 0).1.2) c])) ∧ Below W.heap.size W w' := fun W hW => by
            refine (one_any kn LK ck B W (Nat.le_trans HL5.out.2.2.2.2.2.2.2 hW.size) (nums_below HL5.out.2.2.2.2.2.2.1 (hW.mono HL5.out.2.2.2.2.2.2.2)) HK.out.2).mono ?_
            rintro e w' ⟨v, rfl, hb, hf, A, c, b, o, rfl, h1, h2, h3⟩
            exact ⟨⟨A, c, rfl, hf, A, c, b, o, rfl, h1, h2, RepG.toF (fun q hq => hq.2) h3⟩, hb⟩
          generalize (tapeT kn 4 0).1.1 = ta at *
          generalize (tapeT kn 4 0).1.2 = tl at *
          have MAYT : Hid (may ta tl = true) := MAYT
          have cOne : Hid (∀ W, Below w4.heap.size w4 W → Calls Tryz.prog 10 #[.slice LK kn.length ck] W fun e w' => (∃ A c, e = .returned (.agg #[.int .i64 ta.kind, .int .i64 ta.n, .string ta.s, .slice A (flen tl) c]) ∧ RepV w' w'.heap.size ta tl (.agg #[.int .i64 ta.kind, .int .i64 ta.n, .string ta.s, .slice A (flen tl) c])) ∧ Below W.heap.size W w') := cOne
          have HX60 : Hid (xs.length ≤ 60) := HLOT.out.2.2.1
          clear hlot HL5 HLOT HSL HN HM HR HTB
          have hni : (n : Int) < 2 := by omega
          have hn0 : (0 : Int) ≤ (n : Int) := by omega
          have hcr := HC.out wr hbr
          go_wp2_with fail
          refine (cRun.out wr hbr).mono ?_
          rintro e w6 ⟨hb6, h6⟩
          have b46 : Below w4.heap.size w4 w6 := hbr.trans (hb6.mono hbr.size)
          have hc6 := HC.out w6 b46
          obtain ⟨z, x, rfl, h6'⟩ : ∃ (z : Int) (x : Value), e = .returned (.tuple #[x, .int .i64 z]) ∧ ((runP (tms ks) xs = .error z ∧ x = .slice none 0 0) ∨ (z = 0 ∧ ∃ js : List Kd, runP (tms ks) xs = .ok (tms js) ∧ SlT w6 x js ∧ js.length = xs.length)) := by
            rcases h6 with ⟨z, h1, _, h3⟩ | ⟨js, v, h1, h2, h3, h4⟩
            · exact ⟨z, _, h3, .inl ⟨h1, rfl⟩⟩
            · exact ⟨0, v, h2, .inr ⟨rfl, js, h1, h3.sl.1, h4⟩⟩
          have H6 : Hid ((runP (tms ks) xs = .error z ∧ x = .slice none 0 0) ∨ (z = 0 ∧ ∃ js : List Kd, runP (tms ks) xs = .ok (tms js) ∧ SlT w6 x js ∧ js.length = xs.length)) := h6'
          clear h6 h6' hb6 hcr
          go_wp2_with fail
          refine (cRef.out w6 b46).mono ?_
          rintro e w7 ⟨hb7, h7⟩
          have b47 : Below w4.heap.size w4 w7 := b46.trans (hb7.mono b46.size)
          have hc7 := HC.out w7 b47
          obtain ⟨y, js, rfl, hsx, hsy, hmy, hjy⟩ : ∃ (y : Value) (js : List Kd), e = .returned (.tuple #[y, .int .i64 z]) ∧ (∃ is : List Kd, SlT w7 x is ∧ tms is = tms js) ∧ SlT w7 y js ∧ (∀ k ∈ js, may k.a k.l = true) ∧ js.length ≤ 60 := by
            rcases H6.out with ⟨h1, h2⟩ | ⟨rfl, is, h1, h2, h3⟩
            · rcases h7 with ⟨z', g1, _, g3⟩ | ⟨js, v, g1, _⟩
              · rw [h1] at g1; injection g1 with g1
                exact ⟨_, [], by rw [g3, g1], ⟨[], .inl ⟨rfl, h2⟩, rfl⟩, .inl ⟨rfl, rfl⟩, (by simp), by simp⟩
              · rw [h1] at g1; cases g1
            · rcases h7 with ⟨z', g1, _⟩ | ⟨js, v, g1, g2, g3, g4, g5⟩
              · rw [h1] at g1; cases g1
              · rw [h1] at g1; injection g1 with g1
                exact ⟨v, js, g2, ⟨is, h2.below hb7, g1⟩, g3, g4, by rw [g5]; exact HX60.out⟩
          rcases Nat.eq_zero_or_pos js.length with hj0 | hj0
          · obtain rfl : js = [] := List.eq_nil_of_length_eq_zero hj0
            obtain ⟨is, hsx, hti⟩ := hsx
            obtain rfl : is = [] := by cases is with | nil => rfl | cons => simp [tms] at hti
            obtain ⟨X1, xc1, rfl, _⟩ := hsx.len
            obtain ⟨Y1, yc1, rfl, _⟩ := hsy.len
            have HSX : Hid (SlT w7 (.slice X1 0 xc1) []) := hsx
            have HSY : Hid (SlT w7 (.slice Y1 0 yc1) []) := hsy
            clear hsx hsy hti hmy hjy hj0 h7 H6 hc6 hb7
            simp only [List.length_nil]
            go_wp2_with fail
            refine (cOne.out w7 b47).mono ?_
            rintro e w8 ⟨⟨A8, c8, rfl, hv8⟩, ho8⟩
            have b48 : Below w4.heap.size w4 w8 := b47.trans (ho8.mono b47.size)
            have hal : Below w8.heap.size w8 (w8.alloc (.cells #[.int .i64 ta.kind, .int .i64 ta.n, .string ta.s, .slice A8 (flen tl) c8] 35)) := Below.alloc (Below.refl _ _) (Nat.le_refl _) _
            have b49 : Below w4.heap.size w4 (w8.alloc (.cells #[.int .i64 ta.kind, .int .i64 ta.n, .string ta.s, .slice A8 (flen tl) c8] 35)) := b48.trans (hal.mono b48.size)
            have b79 : Below w7.heap.size w7 (w8.alloc (.cells #[.int .i64 ta.kind, .int .i64 ta.n, .string ta.s, .slice A8 (flen tl) c8] 35)) := ho8.trans (hal.mono ho8.size)
            have hb9 : Box4 (w8.alloc (.cells #[.int .i64 ta.kind, .int .i64 ta.n, .string ta.s, .slice A8 (flen tl) c8] 35)) w8.heap.size (.int .i64 ta.kind) (.int .i64 ta.n) (.string ta.s) (.slice A8 (flen tl) c8) := Box4.new _ _ _ _ _ _
            have hv9 : RepV (w8.alloc (.cells #[.int .i64 ta.kind, .int .i64 ta.n, .string ta.s, .slice A8 (flen tl) c8] 35)) (w8.alloc (.cells #[.int .i64 ta.kind, .int .i64 ta.n, .string ta.s, .slice A8 (flen tl) c8] 35)).heap.size ta tl (.agg #[.int .i64 ta.kind, .int .i64 ta.n, .string ta.s, .slice A8 (flen tl) c8]) := RepV.keep hal.size (fun q o hq => hal.cell hq) hv8
            clear hal hv8 ho8 hc7
            have hc8 := HC.out w8 b48
            go_wp2_with fail
            generalize (w8.alloc (.cells #[.int .i64 ta.kind, .int .i64 ta.n, .string ta.s, .slice A8 (flen tl) c8] 35)) = w9 at *
            have HS9 : Hid (∀ W, Below w9.heap.size w9 W → Box4 W w8.heap.size (.int .i64 ta.kind) (.int .i64 ta.n) (.string ta.s) (.slice A8 (flen tl) c8) ∧ W.cell? ⟨G, n, none⟩ = some (.slice XA xs.length xc) ∧ Below w9.heap.size w9 W) := fun W hW => ⟨hb9.below hW, HC.out W (b49.trans (hW.mono b49.size)), hW⟩
            have HT9 : Hid (∀ W, Below w9.heap.size w9 W → RepV W W.heap.size ta tl (.agg #[.int .i64 ta.kind, .int .i64 ta.n, .string ta.s, .slice A8 (flen tl) c8])) := fun W hW => RepV.keep hW.size (fun q o hq => hW.cell hq) hv9
            have HMT : Hid (may ta tl = true) := MAYT
            have cAll : Hid (∀ W, Below w9.heap.size w9 W → Calls Tryz.prog 11 #[.slice X1 0 xc1, .slice Y1 0 yc1] W fun e w' => e = .returned (.bool true) ∧ Below w9.heap.size w9 w') := fun W hW =>
              (refAll_any [] [] _ _ W ((HSX.out.below b79).below hW) ((HSY.out.below b79).below hW) (by simp) rfl (fun i hi => by simp at hi)).mono fun e w' ⟨h, hb⟩ => ⟨h, hW.trans (hb.mono hW.size)⟩
            clear hb9 hv9 b79 HSX HSY hc8
            have cP1 : Hid (∀ W, Below w9.heap.size w9 W → Calls Tryz.prog 12 #[(.slice LA ks.length lc), (.slice XA xs.length xc), (.agg #[.int .i64 ta.kind, .int .i64 ta.n, .string ta.s, .slice A8 (flen tl) c8])] W fun e w' => e = .returned (.bool (provB (tms ks) xs (ta, tl))) ∧ Below w9.heap.size w9 w') := fun W hW =>
              (cPr.out W _ _ _ (b49.trans (hW.mono b49.size)) (HT9.out W hW) HMT.out).mono fun e w' ⟨h, hb⟩ => ⟨h, hW.trans (hb.mono hW.size)⟩
            have cQ1 : Hid (∀ W, Below w9.heap.size w9 W → Calls Tryz.prog 13 #[(.slice LA ks.length lc), (.slice XA xs.length xc), (.agg #[.int .i64 ta.kind, .int .i64 ta.n, .string ta.s, .slice A8 (flen tl) c8])] W fun e w' => e = .returned (.bool (provB (tms ks) xs (ta, tl))) ∧ Below w9.heap.size w9 w') := fun W hW =>
              (cQr.out W _ _ _ (b49.trans (hW.mono b49.size)) (HT9.out W hW) HMT.out).mono fun e w' ⟨h, hb⟩ => ⟨h, hW.trans (hb.mono hW.size)⟩
            have cP2 : Hid (∀ W A c, Below w9.heap.size w9 W → RepV W W.heap.size ta tl (.agg #[.int .i64 ta.kind, .int .i64 ta.n, .string ta.s, .slice A (flen tl) c]) → Calls Tryz.prog 12 #[(.slice LA ks.length lc), (.slice XA xs.length xc), (.agg #[.int .i64 ta.kind, .int .i64 ta.n, .string ta.s, .slice A (flen tl) c])] W fun e w' => e = .returned (.bool (provB (tms ks) xs (ta, tl))) ∧ Below w9.heap.size w9 w') := fun W A c hW hv =>
              (cPr.out W _ _ _ (b49.trans (hW.mono b49.size)) hv MAYT.out).mono fun e w' ⟨h, hb⟩ => ⟨h, hW.trans (hb.mono hW.size)⟩
            have cQ2 : Hid (∀ W A c, Below w9.heap.size w9 W → RepV W W.heap.size ta tl (.agg #[.int .i64 ta.kind, .int .i64 ta.n, .string ta.s, .slice A (flen tl) c]) → Calls Tryz.prog 13 #[(.slice LA ks.length lc), (.slice XA xs.length xc), (.agg #[.int .i64 ta.kind, .int .i64 ta.n, .string ta.s, .slice A (flen tl) c])] W fun e w' => e = .returned (.bool (provB (tms ks) xs (ta, tl))) ∧ Below w9.heap.size w9 w') := fun W A c hW hv =>
              (cQr.out W _ _ _ (b49.trans (hW.mono b49.size)) hv MAYT.out).mono fun e w' ⟨h, hb⟩ => ⟨h, hW.trans (hb.mono hW.size)⟩
            have cO : Hid (∀ W, Below w9.heap.size w9 W → Calls Tryz.prog 10 #[.slice LK kn.length ck] W fun e w' => (∃ A c, e = .returned (.agg #[.int .i64 ta.kind, .int .i64 ta.n, .string ta.s, .slice A (flen tl) c]) ∧ RepV w' w'.heap.size ta tl (.agg #[.int .i64 ta.kind, .int .i64 ta.n, .string ta.s, .slice A (flen tl) c])) ∧ Below w9.heap.size w9 w') := fun W hW =>
              (cOne.out W (b49.trans (hW.mono b49.size))).mono fun e w' ⟨h, hb⟩ => ⟨h, hW.trans (hb.mono hW.size)⟩
            generalize provB (tms ks) xs (ta, tl) = p1 at cP1 cQ1
            generalize provB (tms ks) xs (ta, tl) = p2 at cP2 cQ2
            clear cPr cQr cOne HT9 HMT MAYT
            go_region_held3 (fun W => Box4 W w8.heap.size (.int .i64 ta.kind) (.int .i64 ta.n) (.string ta.s) (.slice A8 (flen tl) c8) ∧ W.cell? ⟨G, n, none⟩ = some (.slice XA xs.length xc) ∧ Below w9.heap.size w9 W)
              (first | exact HS9.out _ (Below.drew (Below.refl _ _)) | exact HS9.out _ (by assumption))
              (first
                | (go_at_call 11; refine (cAll.out _ ?_).mono ?_; exact (And.right (And.right (by assumption))); rintro e wA ⟨rfl, hoA⟩)
                | (go_at_call_of 12 (Value.slice A8 (flen tl) c8); refine (cP1.out _ ?_).mono ?_; exact (And.right (And.right (by assumption))); rintro e wB ⟨rfl, hoB⟩)
                | (go_at_call_of 13 (Value.slice A8 (flen tl) c8); refine (cQ1.out _ ?_).mono ?_; exact (And.right (And.right (by assumption))); rintro e wC ⟨rfl, hoC⟩)
                | (go_at_call 10; refine (cO.out _ ?_).mono ?_; exact (And.right (And.right (by assumption))); rintro e wD ⟨⟨AD, cD, rfl, hvD⟩, hoD⟩)
                | (go_at_call 12; refine (cP2.out _ _ _ ?_ ?_).mono ?_; exact (And.right (And.right (by assumption))); assumption; rintro e wE ⟨rfl, hoE⟩)
                | (go_at_call 13; refine (cQ2.out _ _ _ ?_ ?_).mono ?_; exact (And.right (And.right (by assumption))); assumption; rintro e wF ⟨rfl, hoF⟩))
            have hfin : Below w4.heap.size w4 wF := b49.trans (hoF.mono b49.size)
            go_wp2_with fail
            go_roundw
            case rel => exact ⟨n + 1, by go_num, by omega, hfin⟩
            case measure => simp [intOf]; omega
          · obtain ⟨is, hsx, hti⟩ := hsx
            have hil : is.length = js.length := by have := congrArg List.length hti; simpa [tms] using this
            obtain ⟨X1, xc1, rfl, _⟩ := hsx.len
            obtain ⟨Y1, yc1, rfl, hY⟩ := hsy.len
            obtain ⟨g, rfl, hrow⟩ : ∃ g, Y1 = some ⟨g, 0, none⟩ ∧ RowT w7 g js := by rcases hY with h | h; omega; exact h
            obtain ⟨m, hm⟩ : ∃ m, js.length = m + 1 := ⟨js.length - 1, by omega⟩
            have HSX : Hid (SlT w7 (.slice X1 is.length xc1) is) := hsx
            have HSY : Hid (SlT w7 (.slice (some ⟨g, 0, none⟩) js.length yc1) js) := hsy
            have HTI : Hid (tms is = tms js ∧ is.length = js.length ∧ js.length ≤ 60) := ⟨hti, hil, hjy⟩
            obtain ⟨c0, c1, c2, c3⟩ := hrow.at m (by omega)
            have hg := hrow.1
            have hok := (hrow.ok m (by omega)).1
            have HMK : Hid (may (js.getD m kd0).a (js.getD m kd0).l = true) := hmy _ (by have : m < js.length := by omega
                                                                                         simp [List.getD, List.getElem?_eq_getElem this])
            have hm60 : m + 1 ≤ 60 := by omega
            clear hsx hsy hti hmy hjy h7 H6 hc6 hb7 hY hrow hj0
            rw [hil] at HSX
            rw [hil]
            clear hil
            generalize js.getD m kd0 = k at *
            have HOK : Hid (k.Ok w7 (fun b => b < w7.heap.size)) := hok
            clear hok
            have HLEN : Hid (js.length = m + 1) := hm
            rw [hm] at HSX HSY
            rw [hm]
            clear hm
            go_wp2_with fail
            refine (cOne.out w7 b47).mono ?_
            rintro e w8 ⟨⟨A8, c8, rfl, _⟩, ho8⟩
            have b48 : Below w4.heap.size w4 w8 := b47.trans (ho8.mono b47.size)
            rw [← ho8.cell hg] at c0 c1 c2 c3
            have hg8 : g < w8.heap.size := Nat.lt_of_lt_of_le hg ho8.size
            have hv8 : RepV w8 w8.heap.size k.a k.l (.agg #[.int .i64 k.a.kind, .int .i64 k.a.n, .string k.a.s, .slice k.A (flen k.l) k.cap]) := Kd.rep (HOK.out.below ho8)
            have i0 : (0 : Int) ≤ (m : Int) := by omega
            have i1 : (m : Int) < (m : Int) + 1 := by omega
            have i4 : (0 : Int) < (m : Int) + 1 := by omega
            have hal : Below w8.heap.size w8 (w8.alloc (.cells #[.int .i64 k.a.kind, .int .i64 k.a.n, .string k.a.s, .slice k.A (flen k.l) k.cap] 35)) := Below.alloc (Below.refl _ _) (Nat.le_refl _) _
            have b49 : Below w4.heap.size w4 (w8.alloc (.cells #[.int .i64 k.a.kind, .int .i64 k.a.n, .string k.a.s, .slice k.A (flen k.l) k.cap] 35)) := b48.trans (hal.mono b48.size)
            have b79 : Below w7.heap.size w7 (w8.alloc (.cells #[.int .i64 k.a.kind, .int .i64 k.a.n, .string k.a.s, .slice k.A (flen k.l) k.cap] 35)) := ho8.trans (hal.mono ho8.size)
            have hb9 : Box4 (w8.alloc (.cells #[.int .i64 k.a.kind, .int .i64 k.a.n, .string k.a.s, .slice k.A (flen k.l) k.cap] 35)) w8.heap.size (.int .i64 k.a.kind) (.int .i64 k.a.n) (.string k.a.s) (.slice k.A (flen k.l) k.cap) := Box4.new _ _ _ _ _ _
            have hv9 : RepV (w8.alloc (.cells #[.int .i64 k.a.kind, .int .i64 k.a.n, .string k.a.s, .slice k.A (flen k.l) k.cap] 35)) (w8.alloc (.cells #[.int .i64 k.a.kind, .int .i64 k.a.n, .string k.a.s, .slice k.A (flen k.l) k.cap] 35)).heap.size k.a k.l (.agg #[.int .i64 k.a.kind, .int .i64 k.a.n, .string k.a.s, .slice k.A (flen k.l) k.cap]) := RepV.keep hal.size (fun q o hq => hal.cell hq) hv8
            clear hal hv8 ho8 hc7
            have hc8 := HC.out w8 b48
            go_wp2_with fail
            generalize (w8.alloc (.cells #[.int .i64 k.a.kind, .int .i64 k.a.n, .string k.a.s, .slice k.A (flen k.l) k.cap] 35)) = w9 at *
            have HS9 : Hid (∀ W, Below w9.heap.size w9 W → Box4 W w8.heap.size (.int .i64 k.a.kind) (.int .i64 k.a.n) (.string k.a.s) (.slice k.A (flen k.l) k.cap) ∧ W.cell? ⟨G, n, none⟩ = some (.slice XA xs.length xc) ∧ Below w9.heap.size w9 W) := fun W hW => ⟨hb9.below hW, HC.out W (b49.trans (hW.mono b49.size)), hW⟩
            have HT9 : Hid (∀ W, Below w9.heap.size w9 W → RepV W W.heap.size k.a k.l (.agg #[.int .i64 k.a.kind, .int .i64 k.a.n, .string k.a.s, .slice k.A (flen k.l) k.cap])) := fun W hW => RepV.keep hW.size (fun q o hq => hW.cell hq) hv9
            have HMT : Hid (may k.a k.l = true) := HMK
            have cAll : Hid (∀ W, Below w9.heap.size w9 W → Calls Tryz.prog 11 #[.slice X1 (m + 1) xc1, .slice (some ⟨g, 0, none⟩) (m + 1) yc1] W fun e w' => e = .returned (.bool true) ∧ Below w9.heap.size w9 w') := fun W hW =>
              (refAll_any is js _ _ W ((HSX.out.below b79).below hW) ((HSY.out.below b79).below hW) (by have := HTI.out.2.1; have := HTI.out.2.2; omega) HTI.out.2.1 (fun i hi => tms_ord HTI.out.1 i)).mono fun e w' ⟨h, hb⟩ => ⟨h, hW.trans (hb.mono hW.size)⟩
            clear hb9 hv9 b79 HSX HSY hc8 c0 c1 c2 c3 i0 i1 i4 hg hg8
            have cP1 : Hid (∀ W, Below w9.heap.size w9 W → Calls Tryz.prog 12 #[(.slice LA ks.length lc), (.slice XA xs.length xc), (.agg #[.int .i64 k.a.kind, .int .i64 k.a.n, .string k.a.s, .slice k.A (flen k.l) k.cap])] W fun e w' => e = .returned (.bool (provB (tms ks) xs (k.a, k.l))) ∧ Below w9.heap.size w9 w') := fun W hW =>
              (cPr.out W _ _ _ (b49.trans (hW.mono b49.size)) (HT9.out W hW) HMT.out).mono fun e w' ⟨h, hb⟩ => ⟨h, hW.trans (hb.mono hW.size)⟩
            have cQ1 : Hid (∀ W, Below w9.heap.size w9 W → Calls Tryz.prog 13 #[(.slice LA ks.length lc), (.slice XA xs.length xc), (.agg #[.int .i64 k.a.kind, .int .i64 k.a.n, .string k.a.s, .slice k.A (flen k.l) k.cap])] W fun e w' => e = .returned (.bool (provB (tms ks) xs (k.a, k.l))) ∧ Below w9.heap.size w9 w') := fun W hW =>
              (cQr.out W _ _ _ (b49.trans (hW.mono b49.size)) (HT9.out W hW) HMT.out).mono fun e w' ⟨h, hb⟩ => ⟨h, hW.trans (hb.mono hW.size)⟩
            have cP2 : Hid (∀ W A c, Below w9.heap.size w9 W → RepV W W.heap.size ta tl (.agg #[.int .i64 ta.kind, .int .i64 ta.n, .string ta.s, .slice A (flen tl) c]) → Calls Tryz.prog 12 #[(.slice LA ks.length lc), (.slice XA xs.length xc), (.agg #[.int .i64 ta.kind, .int .i64 ta.n, .string ta.s, .slice A (flen tl) c])] W fun e w' => e = .returned (.bool (provB (tms ks) xs (ta, tl))) ∧ Below w9.heap.size w9 w') := fun W A c hW hv =>
              (cPr.out W _ _ _ (b49.trans (hW.mono b49.size)) hv MAYT.out).mono fun e w' ⟨h, hb⟩ => ⟨h, hW.trans (hb.mono hW.size)⟩
            have cQ2 : Hid (∀ W A c, Below w9.heap.size w9 W → RepV W W.heap.size ta tl (.agg #[.int .i64 ta.kind, .int .i64 ta.n, .string ta.s, .slice A (flen tl) c]) → Calls Tryz.prog 13 #[(.slice LA ks.length lc), (.slice XA xs.length xc), (.agg #[.int .i64 ta.kind, .int .i64 ta.n, .string ta.s, .slice A (flen tl) c])] W fun e w' => e = .returned (.bool (provB (tms ks) xs (ta, tl))) ∧ Below w9.heap.size w9 w') := fun W A c hW hv =>
              (cQr.out W _ _ _ (b49.trans (hW.mono b49.size)) hv MAYT.out).mono fun e w' ⟨h, hb⟩ => ⟨h, hW.trans (hb.mono hW.size)⟩
            have cO : Hid (∀ W, Below w9.heap.size w9 W → Calls Tryz.prog 10 #[.slice LK kn.length ck] W fun e w' => (∃ A c, e = .returned (.agg #[.int .i64 ta.kind, .int .i64 ta.n, .string ta.s, .slice A (flen tl) c]) ∧ RepV w' w'.heap.size ta tl (.agg #[.int .i64 ta.kind, .int .i64 ta.n, .string ta.s, .slice A (flen tl) c])) ∧ Below w9.heap.size w9 w') := fun W hW =>
              (cOne.out W (b49.trans (hW.mono b49.size))).mono fun e w' ⟨h, hb⟩ => ⟨h, hW.trans (hb.mono hW.size)⟩
            generalize provB (tms ks) xs (k.a, k.l) = p1 at cP1 cQ1
            generalize provB (tms ks) xs (ta, tl) = p2 at cP2 cQ2
            clear cPr cQr cOne HT9 HMT MAYT
            go_region_held3 (fun W => Box4 W w8.heap.size (.int .i64 k.a.kind) (.int .i64 k.a.n) (.string k.a.s) (.slice k.A (flen k.l) k.cap) ∧ W.cell? ⟨G, n, none⟩ = some (.slice XA xs.length xc) ∧ Below w9.heap.size w9 W)
              (first | exact HS9.out _ (Below.drew (Below.refl _ _)) | exact HS9.out _ (by assumption))
              (first
                | (go_at_call 11; refine (cAll.out _ ?_).mono ?_; exact (And.right (And.right (by assumption))); rintro e wA ⟨rfl, hoA⟩)
                | (go_at_call_of 12 (Value.slice k.A (flen k.l) k.cap); refine (cP1.out _ ?_).mono ?_; exact (And.right (And.right (by assumption))); rintro e wB ⟨rfl, hoB⟩)
                | (go_at_call_of 13 (Value.slice k.A (flen k.l) k.cap); refine (cQ1.out _ ?_).mono ?_; exact (And.right (And.right (by assumption))); rintro e wC ⟨rfl, hoC⟩)
                | (go_at_call 10; refine (cO.out _ ?_).mono ?_; exact (And.right (And.right (by assumption))); rintro e wD ⟨⟨AD, cD, rfl, hvD⟩, hoD⟩)
                | (go_at_call 12; refine (cP2.out _ _ _ ?_ ?_).mono ?_; exact (And.right (And.right (by assumption))); assumption; rintro e wE ⟨rfl, hoE⟩)
                | (go_at_call 13; refine (cQ2.out _ _ _ ?_ ?_).mono ?_; exact (And.right (And.right (by assumption))); assumption; rintro e wF ⟨rfl, hoF⟩))
            have hfin : Below w4.heap.size w4 wF := b49.trans (hoF.mono b49.size)
            go_wp2_with fail
            go_roundw
            case rel => exact ⟨n + 1, by go_num, by omega, hfin⟩
            case measure => simp [intOf]; omega
        · obtain rfl : n = 2 := by omega
          go_wp2_with fail
          go_ret
          exact ⟨rfl, hb4.trans (hbr.mono hb4.size)⟩

end Go.Proofs.YtmppoobimnkloaaGreatDoor
