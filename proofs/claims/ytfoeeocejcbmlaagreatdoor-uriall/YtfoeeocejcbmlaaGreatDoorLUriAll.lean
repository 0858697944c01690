import Derived.Test.YtfoeeocejcbmlaaGreatDoorUJ
namespace Go.Proofs.YtfoeeocejcbmlaaGreatDoor
open Go.RowKit
set_option linter.unusedVariables false
set_option linter.unusedSimpArgs false

set_option maxRecDepth 100000 in
set_option maxHeartbeats 4000000 in
theorem uriAll_any (ns : List Int) (LA : Option Addr) (cap : Nat) (raw : ByteArray) (w : World) (hns : NumsAt w w.heap.size ns LA) (hf : NumsFit ns) (ht : Tab16 w.heap.size w) :
    Calls Tryz.prog 3 #[.slice LA ns.length cap, .string raw] w fun e w' => e = .returned (.bool true) ∧ Below w.heap.size w w' := by
  have hk := known11_any w ht
  have HT : Hid (Tab16 w.heap.size w) := ht
  have HNS : Hid (NumsAt w w.heap.size ns LA) := hns
  clear ht hns
  go_enter Tryz.func3, Tryz.ntmps3
  go_wp2_with fail
  refine hk.mono ?_
  rintro e w1 ⟨rfl, h1⟩
  have HB1 : Hid (Below w.heap.size w w1) := h1
  clear h1 hk
  by_cases ha : raw.size ≤ 300
  · have ha' : ¬ (raw.size : Int) > 300 := by omega
    have kt := texts11_any ns LA cap w.heap.size raw ha w1 HB1.out.size (HNS.out.below HB1.out) hf
    go_wp2_with fail
    refine kt.mono ?_
    rintro e w2 ⟨v, ps, rfl, hrow, hlen, hsm, hb2⟩
    have HB2 : Hid (Below w.heap.size w w2) := HB1.out.trans (hb2.mono HB1.out.size)
    have HSM : Hid (∀ p ∈ ps, p.size ≤ 5000) := hsm
    have HROW : Hid (RowS w2 v ps) := hrow
    obtain ⟨A, cp, rfl, _⟩ := hrow
    rw [hlen] at HROW ⊢
    clear kt hb2 hsm HB1
    go_wp2_with fail
    go_loopw [6] (fun iv wr => ∃ i : Nat, iv = .int .i64 (i : Int) ∧ i ≤ 13 ∧ Below w2.heap.size w2 wr) (fun iv _ => 13 - (intOf iv).toNat)
    case atStart => exact ⟨0, rfl, Nat.zero_le _, Below.refl _ _⟩
    case round =>
      obtain ⟨i, rfl, hi, hb⟩ := hrel
      have HBR : Hid (Below w2.heap.size w2 wr) := hb
      have hwr : Below w.heap.size w wr := HB2.out.trans (hb.mono HB2.out.size)
      have HWR : Hid (Below w.heap.size w wr) := hwr
      have hrw := HROW.out.below hb
      clear hb
      by_cases hp : i < 13
      · have hp' : (i : Int) < 13 := by omega
        obtain ⟨b, o, rfl, hbl, hc⟩ := hrw.hold (by omega)
        have hci := hc i (by omega)
        have hts : (ps.getD i ⟨#[]⟩).size ≤ 5000 := HSM.out _ (by simp [List.getD, List.getElem?_eq_getElem (show i < ps.length by omega)])
        have kp := fun W hW => uparse_any HT.out (ps.getD i ⟨#[]⟩) (by omega) W hW
        have kr := fun W => rparse11_any (ps.getD i ⟨#[]⟩) (by omega) W
        have ks := fun W hW => usplit_any HT.out (ps.getD i ⟨#[]⟩) (by omega) W hW
        have kq := fun W => rsplit_any (ps.getD i ⟨#[]⟩) (by omega) W
        unfold ParseAt at kp kr
        unfold SplitAt at ks kq
        have hln : (prsF (ps.getD i ⟨#[]⟩)).2.2.2.length ≤ 100000 := by
          by_cases h0 : (prsF (ps.getD i ⟨#[]⟩)).1 = 0
          · have := ((mayU_is _).1 (prs_ok h0).1).2.2.1; omega
          · rw [prs_er _ h0]; exact Nat.zero_le _
        have hlm : (splF (ps.getD i ⟨#[]⟩)).2.2.length ≤ 100000 := by
          by_cases h0 : (splF (ps.getD i ⟨#[]⟩)).1 = 0
          · unfold splF at h0 ⊢
            split at h0
            · cases h0
            · next hz => rw [if_neg hz]; have := (tgt_ok h0 ⟨#[]⟩).2.1; omega
          · rw [spl_er _ h0]; exact Nat.zero_le _
        generalize (prsF (ps.getD i ⟨#[]⟩)).1 = n at *
        generalize (prsF (ps.getD i ⟨#[]⟩)).2 = u at *
        generalize (splF (ps.getD i ⟨#[]⟩)).1 = m at *
        generalize (splF (ps.getD i ⟨#[]⟩)).2 = x at *
        generalize ps.getD i ⟨#[]⟩ = t at *
        have HC : Hid (∀ W, Below wr.heap.size wr W → W.cell? ⟨b, o + i, none⟩ = some (.string t)) := fun W hW => (hW.cell (p := ⟨b, o + i, none⟩) hbl).trans hci
        clear hc hrw HROW hts
        go_wp2_with fail
        refine (kp _ hwr).mono ?_
        rintro e w3 ⟨q3, rfl, ho3, hb3⟩
        obtain ⟨A3, cp3, rfl⟩ := slice_ofF ho3
        have HO3 : Hid (OwnF w3 wr.heap.size (.slice A3 u.2.2.length cp3) u.2.2) := ho3
        have HB3 : Hid (Below wr.heap.size wr w3) := hb3
        have c3 := HC.out _ hb3
        have hbl3 : b < w3.heap.size := Nat.lt_of_lt_of_le hbl hb3.size
        clear ho3 hb3 kp hci hwr
        go_wp2_with fail
        have x4 := BoxU.new w3 (.string u.1) (.string u.2.1) (.slice A3 u.2.2.length cp3) 28
        have b4 := (Below.refl w3.heap.size w3).alloc (Nat.le_refl _) (.cells #[.string u.1, .string u.2.1, .slice A3 u.2.2.length cp3] 28)
        generalize w3.alloc (.cells #[.string u.1, .string u.2.1, .slice A3 u.2.2.length cp3] 28) = w4 at *
        refine (kr w4).mono ?_
        rintro e w5 ⟨q5, rfl, ho5, hb5⟩
        obtain ⟨A5, cp5, rfl⟩ := slice_ofF ho5
        have HO5 : Hid (OwnF w5 w4.heap.size (.slice A5 u.2.2.length cp5) u.2.2) := ho5
        have b5 := b4.trans (hb5.mono b4.size)
        have HB5 : Hid (Below wr.heap.size wr w5) := HB3.out.trans (b5.mono HB3.out.size)
        have HX5 : Hid (BoxU w5 w3.heap.size (.string u.1) (.string u.2.1) (.slice A3 u.2.2.length cp3)) := x4.below hb5
        have HP5 : Hid (OwnF w5 wr.heap.size (.slice A3 u.2.2.length cp3) u.2.2) := HO3.out.below b5
        have c5 := HC.out _ HB5.out
        have hbl5 : b < w5.heap.size := Nat.lt_of_lt_of_le hbl HB5.out.size
        clear ho5 hb5 kr x4 b4 b5 c3 HO3
        go_wp2_with fail
        have x6 := BoxU.new w5 (.string u.1) (.string u.2.1) (.slice A5 u.2.2.length cp5) 28
        have b6 := (Below.refl w5.heap.size w5).alloc (Nat.le_refl _) (.cells #[.string u.1, .string u.2.1, .slice A5 u.2.2.length cp5] 28)
        generalize w5.alloc (.cells #[.string u.1, .string u.2.1, .slice A5 u.2.2.length cp5] 28) = w6 at *
        have bw6 := HWR.out.trans ((HB5.out.trans (b6.mono HB5.out.size)).mono HWR.out.size)
        refine (ks w6 bw6).mono ?_
        rintro e w7 ⟨q7, rfl, ho7, hb7⟩
        obtain ⟨A7, cp7, rfl⟩ := slice_ofF ho7
        have HO7 : Hid (OwnF w7 w6.heap.size (.slice A7 x.2.length cp7) x.2) := ho7
        have b7 := b6.trans (hb7.mono b6.size)
        have HB7 : Hid (Below wr.heap.size wr w7) := HB5.out.trans (b7.mono HB5.out.size)
        have HX7 : Hid (BoxU w7 w3.heap.size (.string u.1) (.string u.2.1) (.slice A3 u.2.2.length cp3)) := HX5.out.below b7
        have HY7 : Hid (BoxU w7 w5.heap.size (.string u.1) (.string u.2.1) (.slice A5 u.2.2.length cp5)) := x6.below hb7
        have HP7 : Hid (OwnF w7 wr.heap.size (.slice A3 u.2.2.length cp3) u.2.2) := HP5.out.below b7
        have HR7 : Hid (OwnF w7 w4.heap.size (.slice A5 u.2.2.length cp5) u.2.2) := HO5.out.below b7
        have c7 := HC.out _ HB7.out
        clear ho7 hb7 ks x6 b6 b7 bw6 c5 HX5 HP5 HO5
        go_wp2_with fail
        refine (kq w7).mono ?_
        rintro e w8 ⟨q8, rfl, ho8, hb8⟩
        obtain ⟨A8, cp8, rfl⟩ := slice_ofF ho8
        have HO8 : Hid (OwnF w8 w7.heap.size (.slice A8 x.2.length cp8) x.2) := ho8
        have HB8 : Hid (Below wr.heap.size wr w8) := HB7.out.trans (hb8.mono HB7.out.size)
        obtain ⟨_, d0, d1, d2⟩ := HX7.out.below hb8
        obtain ⟨_, e0, e1, e2⟩ := HY7.out.below hb8
        have ksm := rsame11_any u (.slice A3 u.2.2.length cp3) (.slice A5 u.2.2.length cp5) w8 hln (OwnF.below HP7.out hb8).row (OwnF.below HR7.out hb8).row
        have HS8 : Hid (RowF w8 (.slice A7 x.2.length cp7) x.2 ∧ RowF w8 (.slice A8 x.2.length cp8) x.2) := ⟨(HO7.out.below hb8).row, HO8.out.row⟩
        clear ho8 hb8 kq c7 HX7 HY7 HP7 HR7 HO7
        go_wp2_with fail
        refine ksm.mono ?_
        rintro e w9 ⟨rfl, hb9⟩
        have HB9 : Hid (Below wr.heap.size wr w9) := HB8.out.trans (hb9.mono HB8.out.size)
        have kls := lsame_any x.2 (.slice A7 x.2.length cp7) (.slice A8 x.2.length cp8) w9 hlm (HS8.out.1.below hb9) (HS8.out.2.below hb9)
        clear hb9 ksm d0 d1 d2 e0 e1 e2
        go_wp2_with fail
        refine kls.mono ?_
        rintro e w10 ⟨rfl, hb10⟩
        have HB10 : Hid (Below wr.heap.size wr w10) := HB9.out.trans (hb10.mono HB9.out.size)
        clear hb10 kls
        go_wp2_with fail
        go_roundw
        case rel => exact ⟨i + 1, by go_num, by omega, HBR.out.trans (HB10.out.mono HBR.out.size)⟩
        case measure => simp [intOf]; omega
      · have hp' : ¬ (i : Int) < 13 := by omega
        go_wp2_with fail
        go_ret
        exact ⟨rfl, hwr⟩
  · have ha' : (raw.size : Int) > 300 := by omega
    go_wp2_with fail
    go_ret
    exact ⟨rfl, HB1.out⟩

end Go.Proofs.YtfoeeocejcbmlaaGreatDoor
