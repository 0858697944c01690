import Derived.Test.YtdjkmcielbppaaaDoorQM
namespace Go.Proofs.YtdjkmcielbppaaaDoor
open Go.RowKit
set_option linter.unusedVariables false
set_option linter.unusedSimpArgs false

theorem size_text10 (ns : List Int) : (textF ns 20 0 ByteArray.empty).size ≤ 80 := by
  have := textF_small ns 20 0 ByteArray.empty
  rw [show ByteArray.empty.size = 0 from rfl] at this; omega

/-- Four texts stand in block g. -/
def Row4F (g : Nat) (a b c d : ByteArray) (w : World) : Prop :=
  w.cell? ⟨g, 0, none⟩ = some (.string a) ∧ w.cell? ⟨g, 1, none⟩ = some (.string b) ∧ w.cell? ⟨g, 2, none⟩ = some (.string c) ∧ w.cell? ⟨g, 3, none⟩ = some (.string d)

theorem Row4F.below {g : Nat} {a b c d : ByteArray} {w w' : World} (h : Row4F g a b c d w) (hg : g < w.heap.size) (hb : Below w.heap.size w w') : Row4F g a b c d w' := by
  obtain ⟨h0, h1, h2, h3⟩ := h
  exact ⟨by rw [hb.cell (by simpa using hg)]; exact h0, by rw [hb.cell (by simpa using hg)]; exact h1, by rw [hb.cell (by simpa using hg)]; exact h2, by rw [hb.cell (by simpa using hg)]; exact h3⟩

theorem Row4F.at {g : Nat} {a b c d : ByteArray} {w : World} (h : Row4F g a b c d w) (N : Nat) (ha : a.size ≤ N) (hb : b.size ≤ N) (hc : c.size ≤ N) (hd : d.size ≤ N) (i : Nat) (hi : i < 4) : ∃ x : ByteArray, x.size ≤ N ∧ w.cell? ⟨g, i, none⟩ = some (.string x) := by
  obtain ⟨h0, h1, h2, h3⟩ := h
  rcases (show i = 0 ∨ i = 1 ∨ i = 2 ∨ i = 3 by omega) with rfl | rfl | rfl | rfl
  · exact ⟨a, ha, h0⟩
  · exact ⟨b, hb, h1⟩
  · exact ⟨c, hc, h2⟩
  · exact ⟨d, hd, h3⟩

/-- What the law counts. -/
def cntF (l : List Fd) : Nat := (l.map fun f => min f.1.size 4000 + min f.2.size 4000).sum
theorem cntF_step (l : List Fd) (i : Nat) (h : i < l.length) : cntF (l.take (i + 1)) = cntF (l.take i) + (min (l.getD i fd0).1.size 4000 + min (l.getD i fd0).2.size 4000) := by
  rw [List.take_succ_eq_append_getElem h]
  unfold cntF
  rw [List.map_append, List.sum_append]
  simp [List.getD, List.getElem?_eq_getElem h]
theorem cntF_sum (l : List Fd) (h : cntF l ≤ 2000) : sumF l ≤ 2000 ∧ ∀ f ∈ l, f.2.size ≤ 1000000 := by
  have key : sumF l = cntF l := by
    induction l with
    | nil => rfl
    | cons f l ih =>
      have e : cntF (f :: l) = min f.1.size 4000 + min f.2.size 4000 + cntF l := by simp [cntF]
      rw [e] at h ⊢
      rw [sumF_cons, ih (by omega)]
      omega
  refine ⟨by omega, fun f hf => ?_⟩
  have := sumF_mem hf
  omega

set_option maxRecDepth 100000 in
set_option maxHeartbeats 4000000 in
theorem formAll_any (raw : ByteArray) (ns : List Int) (LA : Option Addr) (cap : Nat) (l : List Fd) (FA : Option Addr) (cap2 : Nat) (name : ByteArray) (w : World) (hns : NumsAt w w.heap.size ns LA) (hf : NumsFit ns)
    (hl : RowF w (.slice FA l.length cap2) l) (hll : l.length ≤ 9223372036854775807) (ht : Tab16 w.heap.size w) :
    Calls Tryd.prog 3 #[.string raw, .slice LA ns.length cap, .slice FA l.length cap2, .string name] w fun e w' => e = .returned (.bool true) ∧ Below w.heap.size w w' := by
  have hk := known10_any w ht
  have HT : Hid (Tab16 w.heap.size w) := ht
  have HV : Hid (RowF w (.slice FA l.length cap2) l) := hl
  have HNS : Hid (NumsAt w w.heap.size ns LA) := hns
  clear ht hl hns
  go_enter Tryd.func3, Tryd.ntmps3
  go_wp2_with fail
  refine hk.mono ?_
  rintro e w1 ⟨rfl, h1⟩
  have HB1 : Hid (Below w.heap.size w w1) := h1
  have s1 := h1.size
  clear h1 hk
  by_cases ha : raw.size ≤ 300
  · have ha' : ¬ (raw.size : Int) > 300 := by omega
    by_cases hc : l.length ≤ 40
    · have hc' : ¬ (l.length : Int) > 40 := by omega
      go_wp2_with fail
      go_loopw [9, 10] (fun nv iv wr => ∃ (i n : Nat), nv = .int .i64 (n : Int) ∧ iv = .int .i64 (i : Int) ∧ i ≤ l.length ∧ n ≤ 2000 ∧ cntF (l.take i) = n ∧ Below w.heap.size w wr) (fun _ iv _ => l.length - (intOf iv).toNat)
      case atStart => exact ⟨0, 0, rfl, rfl, Nat.zero_le _, Nat.zero_le _, rfl, HB1.out⟩
      case round =>
        obtain ⟨i, n, rfl, rfl, hi, hn, hcn, hb⟩ := hrel
        have HB : Hid (Below w.heap.size w wr) := hb
        have hwr := hb.size
        have HCN : Hid (cntF (l.take i) = n) := hcn
        have HVR : Hid (RowF wr (.slice FA l.length cap2) l) := HV.out.below hb
        clear hb hcn
        by_cases hp : i < l.length
        · have hp' : (i : Int) < (l.length : Int) := by omega
          obtain ⟨b, o, rfl, hbl, hcc⟩ := HVR.out.hold (by omega)
          obtain ⟨c0, c1⟩ := hcc i hp
          have hst := cntF_step l i hp
          rw [HCN.out] at hst
          clear hcc
          generalize l.getD i fd0 = f at *
          obtain ⟨x, y⟩ := f
          simp only at c0 c1 hst
          have HST : Hid (cntF (l.take (i + 1)) = n + (min x.size 4000 + min y.size 4000)) := hst
          clear hst
          obtain ⟨p, hpx, hp4⟩ : ∃ p : Nat, min (x.size : Int) 4000 = (p : Int) ∧ min x.size 4000 = p := ⟨min x.size 4000, by omega, rfl⟩
          obtain ⟨q, hqx, hq4⟩ : ∃ q : Nat, min (y.size : Int) 4000 = (q : Int) ∧ min y.size 4000 = q := ⟨min y.size 4000, by omega, rfl⟩
          have hp5 : p ≤ 4000 := by omega
          have hq5 : q ≤ 4000 := by omega
          rw [hp4, hq4] at HST
          clear hp4 hq4
          go_wp2_with fail
          go_region
          by_cases h2 : n + p + q ≤ 2000
          · have h2' : ¬ (n : Int) + p + q > 2000 := by omega
            go_wp2_with fail
            go_roundw
            case rel => exact ⟨i + 1, n + p + q, by go_num, by go_num, by omega, by omega, by rw [HST.out]; omega, below_drewN HB.out 1⟩
            case measure => simp [intOf]; omega
          · have h2' : (n : Int) + p + q > 2000 := by omega
            go_wp2_with fail
            go_ret
            exact ⟨rfl, below_drewN HB.out 1⟩
        · have hp' : ¬ (i : Int) < (l.length : Int) := by omega
          have HSUM : Hid (sumF l ≤ 2000 ∧ ∀ f ∈ l, f.2.size ≤ 1000000) := cntF_sum l (by
            have := HCN.out
            rw [List.take_of_length_le (by omega)] at this; omega)
          obtain ⟨hsum, hsz⟩ := HSUM.out
          have HSZ : Hid (∀ f ∈ l, f.2.size ≤ 1000000) := hsz
          have hn0 : NumsAt wr w.heap.size ns LA := HNS.out.below HB.out
          have kT := text_any ns LA cap w.heap.size 20 (by decide) wr hwr hn0 hf
          have hts := size_text10 ns
          have hp1 := (prL_len l).1
          rw [← prS_size] at hp1
          have kP := fun W hW => rprint_any l (.slice FA l.length cap2) W (by omega) (by omega) (HV.out.below hW)
          have kQ := fun W hv hW => qprint_at HT.out l (.slice FA l.length cap2) (by omega) (by omega) (prS l) rfl W hv hW
          have kF := fun W hW hN => fields10_any ns LA cap w.heap.size 6 (by decide) W hW hN hf
          have hfk := fldF_ok ns 6 0 [] FOk.nil
          have hfl := fldF_len ns 6 0 []
          generalize textF ns 20 0 ByteArray.empty = tx at *
          generalize fldF ns 6 0 [] = m at *
          generalize prS l = pl at *
          have hm6 : m.length ≤ 6 := by simpa using hfl
          have hms := FOk.sum hfk.2
          have hp2 := (prL_len m).1
          rw [← prS_size] at hp2
          clear hsz hn0 hfl hfk HSUM HCN HVR hn hi hp
          go_wp2_with fail
          refine kT.mono ?_
          rintro e w2 ⟨rfl, h2⟩
          have B2 : Hid (Below w.heap.size w w2) := HB.out.trans (h2.mono hwr)
          clear h2 kT
          go_wp2_with fail
          refine (kP w2 B2.out).mono ?_
          rintro e w3 ⟨rfl, h3⟩
          have B3 : Hid (Below w.heap.size w w3) := B2.out.trans (h3.mono B2.out.size)
          clear h3
          go_wp2_with fail
          refine (kF w3 B3.out.size (HNS.out.below B3.out)).mono ?_
          rintro e w4 ⟨v4, rfl, o4, h4⟩
          have B4 : Hid (Below w.heap.size w w4) := B3.out.trans (h4.mono B3.out.size)
          have kP2 := rprint_any m v4 w4 (by omega) (by omega) o4.row
          clear h4 kF o4
          generalize prS m = pm at *
          go_wp2_with fail
          refine kP2.mono ?_
          rintro e w5 ⟨rfl, h5⟩
          have B5 : Hid (Below w.heap.size w w5) := B4.out.trans (h5.mono B4.out.size)
          have s5 := B5.out.size
          have hpr : pm.size + raw.size ≤ 9223372036854775807 := by omega
          clear h5 kP2
          have la : (pm ++ raw).size ≤ 10000 := by rw [ByteArray.size_append]; omega
          go_wp2_with fail
          have hrow : Row4F w5.heap.size raw tx pl (pm ++ raw) (w5.alloc (.cells #[.string raw, .string tx, .string pl, .string (pm ++ raw)] 9)) := ⟨by simp [go_sem], by simp [go_sem], by simp [go_sem], by simp [go_sem]⟩
          have hb6 : Below w.heap.size w (w5.alloc (.cells #[.string raw, .string tx, .string pl, .string (pm ++ raw)] 9)) := B5.out.alloc s5 _
          have hsz6 : w5.heap.size < (w5.alloc (.cells #[.string raw, .string tx, .string pl, .string (pm ++ raw)] 9)).heap.size := by simp
          generalize hxx : pm ++ raw = xx at *
          generalize w5.alloc (.cells #[.string raw, .string tx, .string pl, .string xx] 9) = w6 at *
          generalize w5.heap.size = g at *
          have B6 : Hid (Below w.heap.size w w6) := hb6
          have s6 := hb6.size
          clear hxx hb6 hpr
          go_loopw [12] (fun iv wq => ∃ j : Nat, iv = .int .i64 (j : Int) ∧ j ≤ 4 ∧ Below w6.heap.size w6 wq) (fun iv _ => 4 - (intOf iv).toNat)
          case atStart => exact ⟨0, rfl, by omega, Below.refl _ _⟩
          case round =>
            obtain ⟨j, rfl, hj, hbq⟩ := hrel
            have HBQ : Hid (Below w6.heap.size w6 wr) := hbq
            have B7 : Hid (Below w.heap.size w wr) := B6.out.trans (hbq.mono s6)
            have s7 := hbq.size
            have hrq := hrow.below hsz6 hbq
            clear hbq
            by_cases hq : j < 4
            · have hq' : (j : Int) < 4 := by omega
              obtain ⟨x, hx, hcell⟩ := hrq.at 10000 (by omega) (by omega) (by omega) la j hq
              have kp := qparse_at HT.out x (by omega) (parF x).1 (parF x).2 rfl wr B7.out
              have kr := fun W => rparse_any x (by omega) W
              have hpl := par_len x
              unfold ParseEnd at kr
              generalize (parF x).1 = er at *
              generalize (parF x).2 = lx at *
              clear hrq
              go_wp2_with fail
              refine kp.mono ?_
              rintro e w7 ⟨v7, rfl, r7, _, h7⟩
              have c7 := (h7.cell (p := ⟨g, j, none⟩) (by show g < _; omega)).trans hcell
              have R7 : Hid (RowF w7 v7 lx) := r7
              have B8 : Hid (Below w6.heap.size w6 w7) := HBQ.out.trans (h7.mono s7)
              clear h7 kp hcell r7
              go_wp2_with fail
              refine (kr w7).mono ?_
              rintro e w8 ⟨v8, rfl, o8, h8⟩
              have B9 : Hid (Below w6.heap.size w6 w8) := B8.out.trans (h8.mono B8.out.size)
              have ks := same_any lx v7 v8 w8 (by omega) (R7.out.below h8) o8.row
              clear h8 kr o8 c7
              go_wp2_with fail
              refine ks.mono ?_
              rintro e w9 ⟨rfl, q9, h9⟩
              have B10 : Hid (Below w6.heap.size w6 w9) := by show Below _ _ _; rw [h9]; exact below_drewN B9.out q9
              clear h9 ks
              go_wp2_with fail
              go_roundw
              case rel => exact ⟨j + 1, by go_num, by omega, B10.out⟩
              case measure => simp [intOf]; omega
            · have hq' : ¬ (j : Int) < 4 := by omega
              have kg := qget_any l (.slice FA l.length cap2) name wr (by omega) (HV.out.below B7.out) HSZ.out
              have kh := fun W hW => rget_any l (.slice FA l.length cap2) name W (by omega) (HV.out.below (w' := W) hW)
              generalize getF l name = gv at *
              generalize hasF l name = gb at *
              go_wp2_with fail
              refine kg.mono ?_
              rintro e w7 ⟨rfl, h7⟩
              have B8 : Hid (Below w.heap.size w w7) := B7.out.trans (h7.mono B7.out.size)
              clear h7 kg
              go_wp2_with (go_at_call 15; refine (kh w7 B8.out).mono ?_; rintro e w8 ⟨rfl, hw8⟩; rw [hw8]; clear hw8 w8)
              refine (kQ w7 (HV.out.below B8.out) B8.out).mono ?_
              rintro e w8 ⟨rfl, h8⟩
              have B9 : Hid (Below w.heap.size w w8) := B8.out.trans (h8.mono B8.out.size)
              clear h8
              go_wp2_with fail
              refine (kP w8 B9.out).mono ?_
              rintro e w9 ⟨rfl, h9⟩
              have B10 : Hid (Below w.heap.size w w9) := B9.out.trans (h9.mono B9.out.size)
              clear h9
              go_wp2_with fail
              go_ret
              exact ⟨rfl, B10.out⟩
    · have hc' : (l.length : Int) > 40 := by omega
      go_wp2_with fail
      go_ret
      exact ⟨rfl, HB1.out⟩
  · have ha' : (raw.size : Int) > 300 := by omega
    go_wp2_with fail
    go_ret
    exact ⟨rfl, HB1.out⟩

end Go.Proofs.YtdjkmcielbppaaaDoor
