import Derived.Test.YtfoeeocejcbmlaaGreatDoorUJ
import Derived.BigRegion
namespace Go.Proofs.YtfoeeocejcbmlaaGreatDoor
open Go.RowKit
set_option linter.unusedVariables false
set_option linter.unusedSimpArgs false

theorem spl_back {u : Ur} (h : mayU u = true) : splF (tgtS u) = (0, u.2) := by
  obtain ⟨h1, h2, h3, h4, h5⟩ := (mayU_is u).1 h
  have e : (uriS u).size = (httpsS ++ u.1 : ByteArray).size + (tgtS u).size := ByteArray.size_append
  unfold splF
  rw [if_neg (by omega), tgt_back h2 h3 h4]

theorem s9_call {w W W' : World} {g b o : Nat} {a0 a1 a2 t : Value} {l : List Fd} (h : BoxU W g a0 a1 a2 ∧ (b < W.heap.size ∧ W.cell? ⟨b, o, none⟩ = some t) ∧ RowF W a2 l ∧ Below w.heap.size w W) (hb : Below W.heap.size W W') :
    BoxU W' g a0 a1 a2 ∧ (b < W'.heap.size ∧ W'.cell? ⟨b, o, none⟩ = some t) ∧ RowF W' a2 l ∧ Below w.heap.size w W' := by
  obtain ⟨h1, ⟨h2, h3⟩, h4, h5⟩ := h
  exact ⟨BoxU.below h1 hb, ⟨Nat.lt_of_lt_of_le h2 hb.size, (hb.cell (by simpa using h2)).trans h3⟩, h4.below hb, h5.trans (hb.mono h5.size)⟩

set_option maxRecDepth 100000 in
set_option maxHeartbeats 4000000 in
theorem uriBack_any (ns : List Int) (LA : Option Addr) (cap : Nat) (raw : ByteArray) (w : World) (hns : NumsAt w w.heap.size ns LA) (hf : NumsFit ns) (ht : Tab16 w.heap.size w) :
    Calls Tryz.prog 4 #[.slice LA ns.length cap, .string raw] w fun e w' => e = .returned (.bool true) ∧ Below w.heap.size w w' := by
  have hk := known11_any w ht
  have HT : Hid (Tab16 w.heap.size w) := ht
  have HNS : Hid (NumsAt w w.heap.size ns LA) := hns
  clear ht hns
  go_enter Tryz.func4, Tryz.ntmps4
  go_wp2_with fail
  refine hk.mono ?_
  rintro e w1 ⟨rfl, h1⟩
  have HB1 : Hid (Below w.heap.size w w1) := h1
  clear h1 hk
  by_cases ha : raw.size ≤ 300
  · have ha' : ¬ (raw.size : Int) > 300 := by omega
    have kuri := uri_any ns LA cap w.heap.size w1 HB1.out.size (HNS.out.below HB1.out) hf
    have ktex := fun (W : World) (hW : Below w.heap.size w W) => texts11_any ns LA cap w.heap.size raw ha W hW.size (HNS.out.below hW) hf
    obtain ⟨a1, a2, a3, a4, _⟩ := uriU_small ns
    have hkm := uriU_may ns
    have hmost := uri_most (uriU ns)
    have e1 : printS (uriU ns) = uriS (uriU ns) := by unfold printS; rw [if_pos hkm]
    have e2 : targetS (uriU ns) = tgtS (uriU ns) := by unfold targetS; rw [if_pos hkm]
    have e3 := prs_back hkm
    have e4 := spl_back hkm
    have e5 : (uriS (uriU ns)).size = (httpsS ++ (uriU ns).1 : ByteArray).size + (tgtS (uriU ns)).size := ByteArray.size_append
    have kP := fun q W hW hr => uprint_any HT.out (uriU ns) q W hW hr (by omega) (by omega) (by omega) (by omega)
    have kT := fun q W hW hr => utgt_any HT.out (uriU ns) q W hW hr (by omega) (by omega) (by omega) (by omega)
    have kR := fun W hW => uparse_any HT.out (uriS (uriU ns)) (by omega) W hW
    have kS := fun W hW => usplit_any HT.out (tgtS (uriU ns)) (by omega) W hW
    unfold ParseAt at kR
    unfold SplitAt at kS
    rw [e1] at kP
    rw [e2] at kT
    rw [e3] at kR
    rw [e4] at kS
    have hl : (uriU ns).2.2.length ≤ 100000 := by omega
    clear e1 e2 e3 e4 e5 hmost hkm a1 a2 a3 a4
    generalize uriS (uriU ns) = su at *
    generalize tgtS (uriU ns) = tu at *
    generalize uriU ns = u at *
    dsimp only at kR kS
    go_wp2_with fail
    refine kuri.mono ?_
    rintro e w2 ⟨q2, rfl, ho2, hb2⟩
    obtain ⟨A2, cp2, rfl⟩ := slice_ofF ho2
    have B2 := HB1.out.trans (hb2.mono HB1.out.size)
    clear kuri hb2
    go_wp2_with fail
    have x3 := BoxU.new w2 (.string u.1) (.string u.2.1) (.slice A2 u.2.2.length cp2) 28
    have b3 := (Below.refl w2.heap.size w2).alloc (Nat.le_refl _) (.cells #[.string u.1, .string u.2.1, .slice A2 u.2.2.length cp2] 28)
    generalize w2.alloc (.cells #[.string u.1, .string u.2.1, .slice A2 u.2.2.length cp2] 28) = w3 at *
    have B3 := B2.trans (b3.mono B2.size)
    have O3 := OwnF.below ho2 b3
    refine (kP (.slice A2 u.2.2.length cp2) w3 B3 O3.row).mono ?_
    rintro e w4 ⟨rfl, hb4⟩
    have X4 := BoxU.below x3 hb4
    have O4 := OwnF.below O3 hb4
    have B4 := B3.trans (hb4.mono B3.size)
    clear x3 b3 B2 B3 O3 ho2 hb4 kP
    go_wp2_with fail
    refine (kR w4 B4).mono ?_
    rintro e w5 ⟨q5, rfl, ho5, hb5⟩
    obtain ⟨A5, cp5, rfl⟩ := slice_ofF ho5
    have X5 := BoxU.below X4 hb5
    have O5 := OwnF.below O4 hb5
    have B5 := B4.trans (hb5.mono B4.size)
    obtain ⟨l5, c0, c1, c2⟩ := id X5
    clear X4 B4 O4 hb5 kR
    go_wp2_with fail
    have x6 := BoxU.new w5 (.string u.1) (.string u.2.1) (.slice A5 u.2.2.length cp5) 28
    have b6 := (Below.refl w5.heap.size w5).alloc (Nat.le_refl _) (.cells #[.string u.1, .string u.2.1, .slice A5 u.2.2.length cp5] 28)
    generalize w5.alloc (.cells #[.string u.1, .string u.2.1, .slice A5 u.2.2.length cp5] 28) = w6 at *
    have X6 := BoxU.below X5 b6
    have O6 := OwnF.below O5 b6
    have P6 := OwnF.below ho5 b6
    have B6 := B5.trans (b6.mono B5.size)
    clear X5 O5 B5 b6 ho5 l5 c0 c1 c2
    refine (kT (.slice A2 u.2.2.length cp2) w6 B6 O6.row).mono ?_
    rintro e w7 ⟨rfl, hb7⟩
    have X7 := BoxU.below X6 hb7
    have Y7 := BoxU.below x6 hb7
    have O7 := OwnF.below O6 hb7
    have P7 := OwnF.below P6 hb7
    have B7 := B6.trans (hb7.mono B6.size)
    clear X6 x6 O6 P6 B6 hb7 kT
    go_wp2_with fail
    refine (kS w7 B7).mono ?_
    rintro e w8 ⟨q8, rfl, ho8, hb8⟩
    obtain ⟨A8, cp8, rfl⟩ := slice_ofF ho8
    have HX8 : Hid (BoxU w8 w2.heap.size (.string u.1) (.string u.2.1) (.slice A2 u.2.2.length cp2)) := BoxU.below X7 hb8
    obtain ⟨l8, c0, c1, c2⟩ := HX8.out
    obtain ⟨m8, d0, d1, d2⟩ := BoxU.below Y7 hb8
    have O8 := OwnF.below O7 hb8
    have P8 := OwnF.below P7 hb8
    have HO8 : Hid (RowF w8 (.slice A2 u.2.2.length cp2) u.2.2 ∧ RowF w8 (.slice A8 u.2.2.length cp8) u.2.2) := ⟨O8.row, ho8.row⟩
    have HB8 : Hid (Below w.heap.size w w8) := B7.trans (hb8.mono B7.size)
    have ksm := rsame11_any u (.slice A2 u.2.2.length cp2) (.slice A5 u.2.2.length cp5) w8 hl O8.row P8.row
    clear X7 Y7 O7 P7 B7 O8 P8 hb8 ho8 kS
    go_wp2_with fail
    refine ksm.mono ?_
    rintro e w9 ⟨rfl, hb9⟩
    obtain ⟨l9, e0, e1, e2⟩ := HX8.out.below hb9
    have HB9 : Hid (Below w.heap.size w w9) := HB8.out.trans (hb9.mono HB8.out.size)
    have kls := lsame_any u.2.2 (.slice A8 u.2.2.length cp8) (.slice A2 u.2.2.length cp2) w9 hl (HO8.out.2.below hb9) (HO8.out.1.below hb9)
    clear hb9 ksm c0 c1 c2 d0 d1 d2 l8 m8
    go_wp2_with fail
    refine kls.mono ?_
    rintro e w10 ⟨rfl, hb10⟩
    have HB10 : Hid (Below w.heap.size w w10) := HB9.out.trans (hb10.mono HB9.out.size)
    have kt := ktex w10 HB10.out
    clear hb10 kls e0 e1 e2 l9 ktex
    go_wp2_with fail
    refine kt.mono ?_
    rintro e w11 ⟨v, ps, rfl, hrow, hlen, hsm, hb11⟩
    have HB11 : Hid (Below w.heap.size w w11) := HB10.out.trans (hb11.mono HB10.out.size)
    have HSM : Hid (∀ p ∈ ps, p.size ≤ 5000) := hsm
    have HROW : Hid (RowS w11 v ps) := hrow
    obtain ⟨A, cp, rfl, _⟩ := hrow
    rw [hlen] at HROW ⊢
    clear kt hb11 hsm
    go_wp2_with fail
    go_loopw [12] (fun iv wr => ∃ i : Nat, iv = .int .i64 (i : Int) ∧ i ≤ 13 ∧ Below w11.heap.size w11 wr) (fun iv _ => 13 - (intOf iv).toNat)
    case atStart => exact ⟨0, rfl, Nat.zero_le _, Below.refl _ _⟩
    case round =>
      obtain ⟨i, rfl, hi, hb⟩ := hrel
      have HBR : Hid (Below w11.heap.size w11 wr) := hb
      have hwr : Below w.heap.size w wr := HB11.out.trans (hb.mono HB11.out.size)
      have HWR : Hid (Below w.heap.size w wr) := hwr
      have hrw := HROW.out.below hb
      clear hb
      by_cases hp : i < 13
      · have hp' : (i : Int) < 13 := by omega
        obtain ⟨b, o, rfl, hbl, hc⟩ := hrw.hold (by omega)
        have hci := hc i (by omega)
        have hts : (ps.getD i ⟨#[]⟩).size ≤ 5000 := HSM.out _ (by simp [List.getD, List.getElem?_eq_getElem (show i < ps.length by omega)])
        have kp := fun W hW => uparse_any HT.out (ps.getD i ⟨#[]⟩) (by omega) W hW
        unfold ParseAt at kp
        have hok := prs_ok (s := ps.getD i ⟨#[]⟩)
        generalize hpr : (prsF (ps.getD i ⟨#[]⟩)).1 = n at *
        generalize (prsF (ps.getD i ⟨#[]⟩)).2 = x at *
        generalize ps.getD i ⟨#[]⟩ = t at *
        have HOK : Hid (n = 0 → mayU x = true ∧ uriS x = t) := hok
        clear hc hrw HROW hpr hok
        go_wp2_with fail
        refine (kp _ hwr).mono ?_
        rintro e w12 ⟨q12, rfl, ho12, hb12⟩
        obtain ⟨A12, cp12, rfl⟩ := slice_ofF ho12
        have c12 := (hb12.cell (p := ⟨b, o + i, none⟩) hbl).trans hci
        have bl12 : b < w12.heap.size := Nat.lt_of_lt_of_le hbl hb12.size
        have x13 := BoxU.new w12 (.string x.1) (.string x.2.1) (.slice A12 x.2.2.length cp12) 28
        have b13 := (Below.refl w12.heap.size w12).alloc (Nat.le_refl _) (.cells #[.string x.1, .string x.2.1, .slice A12 x.2.2.length cp12] 28)
        have HS : Hid (BoxU (w12.alloc (.cells #[.string x.1, .string x.2.1, .slice A12 x.2.2.length cp12] 28)) w12.heap.size (.string x.1) (.string x.2.1) (.slice A12 x.2.2.length cp12) ∧ (b < (w12.alloc (.cells #[.string x.1, .string x.2.1, .slice A12 x.2.2.length cp12] 28)).heap.size ∧ (w12.alloc (.cells #[.string x.1, .string x.2.1, .slice A12 x.2.2.length cp12] 28)).cell? ⟨b, o + i, none⟩ = some (.string t)) ∧ RowF (w12.alloc (.cells #[.string x.1, .string x.2.1, .slice A12 x.2.2.length cp12] 28)) (.slice A12 x.2.2.length cp12) x.2.2 ∧ Below wr.heap.size wr (w12.alloc (.cells #[.string x.1, .string x.2.1, .slice A12 x.2.2.length cp12] 28))) :=
          ⟨x13, ⟨Nat.lt_of_lt_of_le bl12 b13.size, (b13.cell (p := ⟨b, o + i, none⟩) bl12).trans c12⟩, (ho12.below b13).row, hb12.trans (b13.mono hb12.size)⟩
        clear x13 b13 c12 bl12 ho12 hb12 kp hci hwr
        by_cases hn : n = 0
        · have hn' : (n == 0) = true := by simpa using hn
          obtain ⟨hmx, htx⟩ := HOK.out hn
          obtain ⟨_, _, s3, s4, s5⟩ := (mayU_is x).1 hmx
          have sl := uri_len x
          unfold lenU at sl
          have kP := fun W hW hr => uprint_any HT.out x (.slice A12 x.2.2.length cp12) W hW hr (by omega) (by omega) (by omega) (by omega)
          have kM := fun W hW hr => umay_any HT.out x (.slice A12 x.2.2.length cp12) W hW hr (by omega) (by omega) (by omega) (by omega)
          have epr : printS x = t := by unfold printS; rw [if_pos hmx, htx]
          rw [epr] at kP
          rw [hmx] at kM
          have HUP : Hid (∀ W, Below wr.heap.size wr W → Below w.heap.size w W) := fun W hW => HWR.out.trans (hW.mono HWR.out.size)
          clear hmx htx s3 s4 s5 sl epr HOK
          subst hn
          go_wp2_with fail
          generalize w12.alloc (.cells #[.string x.1, .string x.2.1, .slice A12 x.2.2.length cp12] 28) = w13 at *
          go_region_held3 (fun W => BoxU W w12.heap.size (.string x.1) (.string x.2.1) (.slice A12 x.2.2.length cp12) ∧ (b < W.heap.size ∧ W.cell? ⟨b, o + i, none⟩ = some (.string t)) ∧ RowF W (.slice A12 x.2.2.length cp12) x.2.2 ∧ Below wr.heap.size wr W)
            (first | with_reducible assumption | exact s9_call HS.out (Below.drew (Below.refl _ _)) | exact HS.out)
            (first
              | (go_at_call 14; refine (kP _ ?_ ?_).mono ?_; exact HUP.out _ (And.right (And.right (And.right (by with_reducible assumption)))); exact And.left (And.right (And.right (by with_reducible assumption))); rintro e y1 ⟨rfl, hy1⟩; have t1 := s9_call (w := wr) (by with_reducible assumption) hy1)
              | (go_at_call 16; refine (kM _ ?_ ?_).mono ?_; exact HUP.out _ (And.right (And.right (And.right (by with_reducible assumption)))); exact And.left (And.right (And.right (by with_reducible assumption))); rintro e y2 ⟨rfl, hy2⟩; have t2 := s9_call (w := wr) (by with_reducible assumption) hy2; have b2 := t2.2.2.2))
          go_wp2_with fail
          go_roundw
          case rel => exact ⟨i + 1, by go_num, by omega, HBR.out.trans (b2.mono HBR.out.size)⟩
          case measure => simp [intOf]; omega
        · have hn' : (n == 0) = false := by simpa using hn
          go_wp2_with fail
          generalize w12.alloc (.cells #[.string x.1, .string x.2.1, .slice A12 x.2.2.length cp12] 28) = w13 at *
          go_quiet (fail)
          go_wp2_with fail
          go_roundw
          case rel => exact ⟨i + 1, by go_num, by omega, below_drewN (HBR.out.trans (HS.out.2.2.2.mono HBR.out.size)) _⟩
          case measure => simp [intOf]; omega
      · have hp' : ¬ (i : Int) < 13 := by omega
        go_wp2_with fail
        go_ret
        exact ⟨rfl, hwr⟩
  · have ha' : (raw.size : Int) > 300 := by omega
    go_wp2_with fail
    go_ret
    exact ⟨rfl, HB1.out⟩

end Go.Proofs.YtfoeeocejcbmlaaGreatDoor
