import Derived.Test.YtfoeeocejcbmlaaDoorUI
import Derived.BigRegion
namespace Go.Proofs.YtfoeeocejcbmlaaDoor
open Go.RowKit
set_option linter.unusedVariables false
set_option linter.unusedSimpArgs false

/-- The bytes of some fields, each text as 4000 at most. -/
def cntV (l : List Fd) : Nat := (l.map fun f => min f.1.size 4000 + min f.2.size 4000).sum
theorem cntV_step (l : List Fd) (i : Nat) (h : i < l.length) : cntV (l.take (i + 1)) = cntV (l.take i) + (min (l.getD i fd0).1.size 4000 + min (l.getD i fd0).2.size 4000) := by
  unfold cntV
  rw [List.take_add_one, List.getElem?_eq_getElem h, List.map_append, List.sum_append]
  simp [List.getD, List.getElem?_eq_getElem h]
theorem cntV_sum : ∀ l : List Fd, cntV l ≤ 3999 → sumF l ≤ 3999
  | [], _ => by simp [sumF]
  | f :: l, h => by
    have e : cntV (f :: l) = min f.1.size 4000 + min f.2.size 4000 + cntV l := by simp [cntV]
    have ih := cntV_sum l (by omega)
    rw [sumF_cons]
    have e2 : cntV l = sumF l := by
      clear ih e
      have : ∀ l : List Fd, cntV l ≤ 3999 → cntV l = sumF l := by
        intro l
        induction l with
        | nil => intro _; simp [cntV, sumF]
        | cons g l ih =>
          intro h
          have e : cntV (g :: l) = min g.1.size 4000 + min g.2.size 4000 + cntV l := by simp [cntV]
          rw [sumF_cons, e, ih (by omega)]
          omega
      exact this l (by have e : cntV (f :: l) = min f.1.size 4000 + min f.2.size 4000 + cntV l := by simp [cntV]
                       omega)
    omega

/-- Three cells of a row. -/
abbrev BoxO (w : World) (b o : Nat) (v0 v1 v2 : Value) : Prop :=
  b < w.heap.size ∧ w.cell? ⟨b, o, none⟩ = some v0 ∧ w.cell? ⟨b, o + 1, none⟩ = some v1 ∧ w.cell? ⟨b, o + 2, none⟩ = some v2
theorem BoxO.below {w w' : World} {b o : Nat} {v0 v1 v2 : Value} (h : BoxO w b o v0 v1 v2) (hb : Below w.heap.size w w') : BoxO w' b o v0 v1 v2 := by
  obtain ⟨h0, h1, h2, h3⟩ := h
  exact ⟨Nat.lt_of_lt_of_le h0 hb.size, (hb.cell (by simpa using h0)).trans h1, (hb.cell (by simpa using h0)).trans h2, (hb.cell (by simpa using h0)).trans h3⟩

/-- A row of addresses. -/
def RowU (w : World) (b o : Nat) (us : List Ur) (q : Nat → Value) : Prop :=
  ∀ i, i < us.length → BoxO w b (o + i * 3) (.string (us.getD i u0).1) (.string (us.getD i u0).2.1) (q i) ∧ RowF w (q i) (us.getD i u0).2.2
theorem RowU.below {w w' : World} {b o : Nat} {us : List Ur} {q : Nat → Value} (h : RowU w b o us q) (hb : Below w.heap.size w w') : RowU w' b o us q :=
  fun i hi => ⟨BoxO.below (h i hi).1 hb, (h i hi).2.below hb⟩

theorem RowU.five (W : World) (T : TypeId) (h0 p0 h1 p1 h2 p2 h3 p3 h4 p4 : ByteArray) (q0 q1 q2 q3 q4 : Value) (l0 l1 l2 l3 l4 : List Fd) (r0 : RowF W q0 l0) (r1 : RowF W q1 l1) (r2 : RowF W q2 l2) (r3 : RowF W q3 l3) (r4 : RowF W q4 l4) :
    RowU (W.alloc (.cells #[.string h0, .string p0, q0, .string h1, .string p1, q1, .string h2, .string p2, q2, .string h3, .string p3, q3, .string h4, .string p4, q4] T)) W.heap.size 0 [(h0, p0, l0), (h1, p1, l1), (h2, p2, l2), (h3, p3, l3), (h4, p4, l4)] (fun i => [q0, q1, q2, q3, q4].getD i q0) := by
  have hb : Below W.heap.size W (W.alloc (.cells #[.string h0, .string p0, q0, .string h1, .string p1, q1, .string h2, .string p2, q2, .string h3, .string p3, q3, .string h4, .string p4, q4] T)) := (Below.refl _ _).alloc (Nat.le_refl _) _
  intro i hi
  have hi : i < 5 := hi
  rcases (show i = 0 ∨ i = 1 ∨ i = 2 ∨ i = 3 ∨ i = 4 by omega) with rfl | rfl | rfl | rfl | rfl
  · exact ⟨⟨by simp, by simp [go_sem], by simp [go_sem], by simp [go_sem]⟩, r0.below hb⟩
  · exact ⟨⟨by simp, by simp [go_sem], by simp [go_sem], by simp [go_sem]⟩, r1.below hb⟩
  · exact ⟨⟨by simp, by simp [go_sem], by simp [go_sem], by simp [go_sem]⟩, r2.below hb⟩
  · exact ⟨⟨by simp, by simp [go_sem], by simp [go_sem], by simp [go_sem]⟩, r3.below hb⟩
  · exact ⟨⟨by simp, by simp [go_sem], by simp [go_sem], by simp [go_sem]⟩, r4.below hb⟩

def SmallU (u : Ur) : Prop := u.1.size ≤ 100000 ∧ u.2.1.size ≤ 100000 ∧ u.2.2.length ≤ 100000 ∧ sumF u.2.2 ≤ 100000

theorem s7_call {w W W' : World} {b o : Nat} {v0 v1 v2 : Value} {l : List Fd} (h : BoxO W b o v0 v1 v2 ∧ RowF W v2 l ∧ Below w.heap.size w W) (hb : Below W.heap.size W W') : BoxO W' b o v0 v1 v2 ∧ RowF W' v2 l ∧ Below w.heap.size w W' :=
  ⟨BoxO.below h.1 hb, h.2.1.below hb, h.2.2.trans (hb.mono h.2.2.size)⟩

theorem s8_call {w W W' : World} {g1 g2 g3 g4 : Nat} {a1 b1 c1 a2 b2 c2 a3 b3 c3 a4 b4 c4 v5 v7 : Value} {l5 l7 : List Fd}
    (h : BoxU W g1 a1 b1 c1 ∧ BoxU W g2 a2 b2 c2 ∧ BoxU W g3 a3 b3 c3 ∧ BoxU W g4 a4 b4 c4 ∧ RowF W v5 l5 ∧ RowF W v7 l7 ∧ Below w.heap.size w W) (hb : Below W.heap.size W W') :
    BoxU W' g1 a1 b1 c1 ∧ BoxU W' g2 a2 b2 c2 ∧ BoxU W' g3 a3 b3 c3 ∧ BoxU W' g4 a4 b4 c4 ∧ RowF W' v5 l5 ∧ RowF W' v7 l7 ∧ Below w.heap.size w W' := by
  obtain ⟨h1, h2, h3, h4, h5, h6, h7⟩ := h
  exact ⟨BoxU.below h1 hb, BoxU.below h2 hb, BoxU.below h3 hb, BoxU.below h4 hb, h5.below hb, h6.below hb, h7.trans (hb.mono h7.size)⟩

set_option maxRecDepth 100000 in
set_option maxHeartbeats 4000000 in
theorem uriMay_any (u : Ur) (q : Value) (ns : List Int) (LA : Option Addr) (cap : Nat) (w : World) (hq : RowF w q u.2.2) (hql : u.2.2.length ≤ 9223372036854775807) (hns : NumsAt w w.heap.size ns LA) (hf : NumsFit ns) (ht : Tab16 w.heap.size w) :
    Calls Tryd.prog 3 #[.agg #[.string u.1, .string u.2.1, q], .slice LA ns.length cap] w fun e w' => e = .returned (.bool true) ∧ Below w.heap.size w w' := by
  have HT : Hid (Tab16 w.heap.size w) := ht
  have HNS : Hid (NumsAt w w.heap.size ns LA) := hns
  have HV : Hid (RowF w q u.2.2) := hq
  obtain ⟨A, cp, rfl, hcp, _⟩ := hq
  obtain ⟨h, p, l⟩ := u
  dsimp only at *
  have b1 : Below w.heap.size w (w.alloc (.cells #[.string h, .string p, .slice A l.length cp] 24)) := (Below.refl _ _).alloc (Nat.le_refl _) _
  have x1 := BoxU.new w (.string h) (.string p) (.slice A l.length cp) 24
  have hk := known11_any _ (tab_up ht b1)
  clear hns ht
  obtain ⟨mh, mhx, mh4⟩ : ∃ m : Nat, min (h.size : Int) 4000 = (m : Int) ∧ min h.size 4000 = m := ⟨min h.size 4000, by omega, rfl⟩
  obtain ⟨mp, mpx, mp4⟩ : ∃ m : Nat, min (p.size : Int) 4000 = (m : Int) ∧ min p.size 4000 = m := ⟨min p.size 4000, by omega, rfl⟩
  have HM : Hid (min h.size 4000 = mh ∧ min p.size 4000 = mp) := ⟨mh4, mp4⟩
  have mh5 : mh ≤ 4000 := by omega
  have mp5 : mp ≤ 4000 := by omega
  clear mh4 mp4
  go_enter Tryd.func3, Tryd.ntmps3
  go_wp2_with fail
  generalize w.alloc (.cells #[.string h, .string p, .slice A l.length cp] 24) = w1 at *
  refine hk.mono ?_
  rintro e w2 ⟨rfl, h2⟩
  have B2 : Hid (Below w.heap.size w w2) := b1.trans (h2.mono b1.size)
  have X2 : Hid (BoxU w2 w.heap.size (.string h) (.string p) (.slice A l.length cp)) := x1.below h2
  obtain ⟨l2, c0, c1, c2⟩ := X2.out
  clear h2 hk b1 x1
  go_wp2_with fail
  go_loopw [5, 6] (fun nv iv wr => ∃ (i n : Nat), nv = .int .i64 (n : Int) ∧ iv = .int .i64 (i : Int) ∧ i ≤ l.length ∧ n ≤ 20000 ∧ n = mh + mp + i + cntV (l.take i) ∧ Below w2.heap.size w2 wr) (fun _ iv _ => l.length - (intOf iv).toNat)
  case atStart => exact ⟨0, mh + mp, by go_num, rfl, Nat.zero_le _, by omega, by simp [cntV], Below.refl _ _⟩
  case round =>
    obtain ⟨i, n, rfl, rfl, hi, hn, hcn, hb⟩ := hrel
    have HBR : Hid (Below w2.heap.size w2 wr) := hb
    have HCN : Hid (n = mh + mp + i + cntV (l.take i)) := hcn
    have hww : Below w.heap.size w wr := B2.out.trans (hb.mono B2.out.size)
    have HWW : Hid (Below w.heap.size w wr) := hww
    have XR := X2.out.below hb
    have HXR : Hid (BoxU wr w.heap.size (.string h) (.string p) (.slice A l.length cp)) := XR
    obtain ⟨lr, d0, d1, d2⟩ := XR
    have HVR : Hid (RowF wr (.slice A l.length cp) l) := HV.out.below hww
    clear hb hcn c0 c1 c2
    by_cases hp : i < l.length
    · have hp' : (i : Int) < (l.length : Int) := by omega
      by_cases h3 : n ≤ 3000
      · have h3' : (n : Int) ≤ 3000 := by omega
        obtain ⟨b, o, rfl, hbl, hc⟩ := HVR.out.hold (by omega)
        obtain ⟨e0, e1⟩ := hc i hp
        have hst := cntV_step l i hp
        clear hc
        generalize l.getD i fd0 = f at *
        obtain ⟨x, y⟩ := f
        dsimp only at e0 e1 hst
        obtain ⟨mx, mxx, mx4⟩ : ∃ m : Nat, min (x.size : Int) 4000 = (m : Int) ∧ min x.size 4000 = m := ⟨min x.size 4000, by omega, rfl⟩
        obtain ⟨my, myx, my4⟩ : ∃ m : Nat, min (y.size : Int) 4000 = (m : Int) ∧ min y.size 4000 = m := ⟨min y.size 4000, by omega, rfl⟩
        have mx5 : mx ≤ 4000 := by omega
        have my5 : my ≤ 4000 := by omega
        rw [mx4, my4] at hst
        have HST : Hid (cntV (l.take (i + 1)) = cntV (l.take i) + (mx + my)) := hst
        clear hst mx4 my4 hww
        go_wp2_with fail
        go_region
        go_wp2_with fail
        go_roundw
        case rel => exact ⟨i + 1, n + 1 + mx + my, by go_num, by go_num, by omega, by omega, by rw [HST.out]; have := HCN.out; omega, below_drewN HBR.out 1⟩
        case measure => simp [intOf]; omega
      · have h3' : ¬ (n : Int) ≤ 3000 := by omega
        have h3'' : (n : Int) > 3000 := by omega
        go_wp2_with fail
        go_ret
        exact ⟨rfl, HWW.out⟩
    · have hp' : ¬ (i : Int) < (l.length : Int) := by omega
      by_cases h3 : n ≤ 3000
      · have h3' : ¬ (n : Int) > 3000 := by omega
        have hsm : SmallU (h, p, l) := by
          have hc := HCN.out
          have hm := HM.out
          rw [List.take_of_length_le (by omega)] at hc
          have hs := cntV_sum l (by omega)
          exact ⟨by show h.size ≤ _; omega, by show p.size ≤ _; omega, by show l.length ≤ _; omega, by show sumF l ≤ _; omega⟩
        have kuri := fun (W : World) (hW : Below w.heap.size w W) => uri_any ns LA cap w.heap.size W hW.size (HNS.out.below hW) hf
        have hsk : SmallU (uriU ns) := by
          obtain ⟨a1, a2, a3, a4, _⟩ := uriU_small ns
          exact ⟨by omega, by omega, by omega, by omega⟩
        have hkm := uriU_may ns
        generalize uriU ns = k at *
        obtain ⟨kh, kp, kl⟩ := k
        dsimp only at kuri
        have HKM : Hid (mayU (kh, kp, kl) = true) := hkm
        have HSM : Hid (SmallU (h, p, l) ∧ SmallU (kh, kp, kl)) := ⟨hsm, hsk⟩
        clear hkm hsk hsm hww
        go_wp2_with fail
        refine (kuri wr HWW.out).mono ?_
        rintro e w3 ⟨q3, rfl, ho3, hb3⟩
        obtain ⟨A3, cp3, rfl⟩ := slice_ofF ho3
        have X3 := HXR.out.below hb3
        have B3 : Below w.heap.size w w3 := HWW.out.trans (hb3.mono HWW.out.size)
        obtain ⟨l3, f0, f1, f2⟩ := id X3
        clear d0 d1 d2 hb3 ho3
        go_wp2_with fail
        have x4 := BoxU.new w3 (.string kh) (.string kp) (.slice A l.length cp) 24
        have b4 := (Below.refl w3.heap.size w3).alloc (Nat.le_refl _) (.cells #[.string kh, .string kp, .slice A l.length cp] 24)
        generalize w3.alloc (.cells #[.string kh, .string kp, .slice A l.length cp] 24) = w4 at *
        have B4 := B3.trans (b4.mono B3.size)
        have X4 := BoxU.below X3 b4
        clear X3 l3 f0 f1 f2
        refine (kuri w4 B4).mono ?_
        rintro e w5 ⟨q5, rfl, ho5, hb5⟩
        obtain ⟨A5, cp5, rfl⟩ := slice_ofF ho5
        have X5 := BoxU.below X4 hb5
        have U5 := BoxU.below x4 hb5
        have B5 := B4.trans (hb5.mono B4.size)
        have HO5 : Hid (OwnF w5 w4.heap.size (.slice A5 kl.length cp5) kl) := ho5
        obtain ⟨l5, f0, f1, f2⟩ := id X5
        clear X4 x4 b4 B4 B3 hb5 ho5
        go_wp2_with fail
        have x6 := BoxU.new w5 (.string kh) (.string p) (.slice A5 kl.length cp5) 24
        have b6 := (Below.refl w5.heap.size w5).alloc (Nat.le_refl _) (.cells #[.string kh, .string p, .slice A5 kl.length cp5] 24)
        generalize w5.alloc (.cells #[.string kh, .string p, .slice A5 kl.length cp5] 24) = w6 at *
        have B6 := B5.trans (b6.mono B5.size)
        have X6 := BoxU.below X5 b6
        have U6 := BoxU.below U5 b6
        have HO6 : Hid (OwnF w6 w4.heap.size (.slice A5 kl.length cp5) kl) := OwnF.below HO5.out b6
        clear X5 U5 l5 f0 f1 f2 HO5
        refine (kuri w6 B6).mono ?_
        rintro e w7 ⟨q7, rfl, ho7, hb7⟩
        obtain ⟨A7, cp7, rfl⟩ := slice_ofF ho7
        have X7 := BoxU.below X6 hb7
        have U7 := BoxU.below U6 hb7
        have V7 := BoxU.below x6 hb7
        have B7 := B6.trans (hb7.mono B6.size)
        have HP7 : Hid (OwnF w7 w6.heap.size (.slice A7 kl.length cp7) kl) := ho7
        have HO7 : Hid (OwnF w7 w4.heap.size (.slice A5 kl.length cp5) kl) := OwnF.below HO6.out hb7
        obtain ⟨l7, f0, f1, f2⟩ := id X7
        clear X6 U6 x6 b6 B6 B5 hb7 ho7 HO6
        go_wp2_with fail
        have x8 := BoxU.new w7 (.string h) (.string kp) (.slice A7 kl.length cp7) 24
        have b8 := (Below.refl w7.heap.size w7).alloc (Nat.le_refl _) (.cells #[.string h, .string kp, .slice A7 kl.length cp7] 24)
        generalize w7.alloc (.cells #[.string h, .string kp, .slice A7 kl.length cp7] 24) = w8 at *
        have HS8 : Hid (BoxU w8 w.heap.size (.string h) (.string p) (.slice A l.length cp) ∧ BoxU w8 w3.heap.size (.string kh) (.string kp) (.slice A l.length cp) ∧ BoxU w8 w5.heap.size (.string kh) (.string p) (.slice A5 kl.length cp5) ∧ BoxU w8 w7.heap.size (.string h) (.string kp) (.slice A7 kl.length cp7) ∧ RowF w8 (.slice A5 kl.length cp5) kl ∧ RowF w8 (.slice A7 kl.length cp7) kl ∧ Below w.heap.size w w8) :=
          ⟨BoxU.below X7 b8, BoxU.below U7 b8, BoxU.below V7 b8, x8, (OwnF.below HO7.out b8).row, (OwnF.below HP7.out b8).row, B7.trans (b8.mono B7.size)⟩
        clear X7 U7 V7 x8 b8 B7 l7 f0 f1 f2 HO7 HP7
        go_region_held3 (fun W => BoxU W w.heap.size (.string h) (.string p) (.slice A l.length cp) ∧ BoxU W w3.heap.size (.string kh) (.string kp) (.slice A l.length cp) ∧ BoxU W w5.heap.size (.string kh) (.string p) (.slice A5 kl.length cp5) ∧ BoxU W w7.heap.size (.string h) (.string kp) (.slice A7 kl.length cp7) ∧ RowF W (.slice A5 kl.length cp5) kl ∧ RowF W (.slice A7 kl.length cp7) kl ∧ Below w.heap.size w W)
          (first | with_reducible assumption | exact s8_call HS8.out (Below.drew (Below.refl _ _)) | exact HS8.out | exact s8_call (w := w) (by with_reducible assumption) ((Below.refl _ _).alloc (Nat.le_refl _) _))
          (first
            | (go_at_call 6; refine (kuri _ ?_).mono ?_; exact And.right (And.right (And.right (And.right (And.right (And.right (by with_reducible assumption)))))); rintro e w9 ⟨q9, rfl, ho9, hb9⟩; obtain ⟨A9, cp9, rfl⟩ := slice_ofF ho9; have s9 := s8_call (w := w) (by with_reducible assumption) hb9))
        obtain ⟨_, _, _, _, r5, r7, B9⟩ := s9
        have hrow := RowU.five w9 24 h p kh kp kh p h kp kh kp (.slice A l.length cp) (.slice A l.length cp) (.slice A5 kl.length cp5) (.slice A7 kl.length cp7) (.slice A9 kl.length cp9) l l kl kl kl (HV.out.below B9) (HV.out.below B9) r5 r7 ho9.row
        have b10 := B9.alloc B9.size (.cells #[.string h, .string p, .slice A l.length cp, .string kh, .string kp, .slice A l.length cp, .string kh, .string p, .slice A5 kl.length cp5, .string h, .string kp, .slice A7 kl.length cp7, .string kh, .string kp, .slice A9 kl.length cp9] 24)
        have hsmall : ∀ i, i < 5 → SmallU ([(h, p, l), (kh, kp, l), (kh, p, kl), (h, kp, kl), (kh, kp, kl)].getD i u0) := by
          obtain ⟨⟨s1, s2, s3, s4⟩, t1, t2, t3, t4⟩ := HSM.out
          intro i hi
          rcases (show i = 0 ∨ i = 1 ∨ i = 2 ∨ i = 3 ∨ i = 4 by omega) with rfl | rfl | rfl | rfl | rfl
          · exact ⟨s1, s2, s3, s4⟩
          · exact ⟨t1, t2, s3, s4⟩
          · exact ⟨t1, s2, t3, t4⟩
          · exact ⟨s1, t2, t3, t4⟩
          · exact ⟨t1, t2, t3, t4⟩
        have HSL : Hid (∀ i, i < 5 → SmallU ([(h, p, l), (kh, kp, l), (kh, p, kl), (h, kp, kl), (kh, kp, kl)].getD i u0)) := hsmall
        clear hsmall r5 r7 HS8 ho9 hb9
        generalize w9.alloc (.cells #[.string h, .string p, .slice A l.length cp, .string kh, .string kp, .slice A l.length cp, .string kh, .string p, .slice A5 kl.length cp5, .string h, .string kp, .slice A7 kl.length cp7, .string kh, .string kp, .slice A9 kl.length cp9] 24) = w10 at hrow b10 ⊢
        have HRW : Hid (RowU w10 w9.heap.size 0 [(h, p, l), (kh, kp, l), (kh, p, kl), (h, kp, kl), (kh, kp, kl)] (fun i => [.slice A l.length cp, .slice A l.length cp, .slice A5 kl.length cp5, .slice A7 kl.length cp7, .slice A9 kl.length cp9].getD i (.slice A l.length cp))) := hrow
        have HB10 : Hid (Below w.heap.size w w10) := b10
        clear hrow b10 B9
        generalize w9.heap.size = bb at *
        generalize (fun i : Nat => [Value.slice A l.length cp, .slice A l.length cp, .slice A5 kl.length cp5, .slice A7 kl.length cp7, .slice A9 kl.length cp9].getD i (.slice A l.length cp)) = qf at *
        have HUS : Hid (5 = [(h, p, l), (kh, kp, l), (kh, p, kl), (h, kp, kl), (kh, kp, kl)].length) := rfl
        generalize [(h, p, l), (kh, kp, l), (kh, p, kl), (h, kp, kl), (kh, kp, kl)] = us at *
        go_wp2_with fail
        go_loopw [11] (fun iv wx => ∃ i : Nat, iv = .int .i64 (i : Int) ∧ i ≤ 5 ∧ Below w10.heap.size w10 wx) (fun iv _ => 5 - (intOf iv).toNat)
        case atStart => exact ⟨0, rfl, Nat.zero_le _, Below.refl _ _⟩
        case round =>
          obtain ⟨i, rfl, hi, hb⟩ := hrel
          have HBX : Hid (Below w10.heap.size w10 wr) := hb
          have hwx : Below w.heap.size w wr := HB10.out.trans (hb.mono HB10.out.size)
          have HWX : Hid (Below w.heap.size w wr) := hwx
          have hrw := HRW.out.below hb
          clear hb
          by_cases hp : i < 5
          · have hp' : (i : Int) < 5 := by omega
            obtain ⟨hbx, hrf⟩ := hrw i (by rw [← HUS.out]; exact hp)
            rw [Nat.zero_add] at hbx
            obtain ⟨s1, s2, s3, s4⟩ := HSL.out i hp
            generalize us.getD i u0 = x at *
            generalize qf i = v at *
            have HRF : Hid (RowF wr v x.2.2) := hrf
            obtain ⟨A', cap', rfl, _, _⟩ := hrf
            have kM1 := fun W hW hr => umay_any HT.out x (.slice A' x.2.2.length cap') W hW hr s3 s4 s1 s2
            have kM2 := fun W hr => rmay_any x (.slice A' x.2.2.length cap') W hr s3 s4 s1 s2
            have kP1 := fun W hW hr => uprint_any HT.out x (.slice A' x.2.2.length cap') W hW hr s3 s4 s1 s2
            have kP2 := fun W hr => rprint11_any x (.slice A' x.2.2.length cap') W hr s3 s4 s1 s2
            have kT1 := fun W hW hr => utgt_any HT.out x (.slice A' x.2.2.length cap') W hW hr s3 s4 s1 s2
            have kT2 := fun W hr => rtgt11_any x (.slice A' x.2.2.length cap') W hr s3 s4 s1 s2
            generalize mayU x = bm at *
            generalize printS x = pt at *
            generalize targetS x = tt at *
            have HS : Hid (BoxO wr bb (i * 3) (.string x.1) (.string x.2.1) (.slice A' x.2.2.length cap') ∧ RowF wr (.slice A' x.2.2.length cap') x.2.2 ∧ Below wr.heap.size wr wr) := ⟨hbx, HRF.out, Below.refl _ _⟩
            have HUP : Hid (∀ W, Below wr.heap.size wr W → Below w.heap.size w W) := fun W hW => HWX.out.trans (hW.mono HWX.out.size)
            clear hrw s1 s2 s3 s4 hbx hwx
            go_wp2_with fail
            go_region_held3 (fun W => BoxO W bb (i * 3) (.string x.1) (.string x.2.1) (.slice A' x.2.2.length cap') ∧ RowF W (.slice A' x.2.2.length cap') x.2.2 ∧ Below wr.heap.size wr W)
              (first | with_reducible assumption | exact s7_call HS.out (Below.drew (Below.refl _ _)) | exact HS.out)
              (first
                | (go_at_call 7; refine (kM1 _ ?_ ?_).mono ?_; exact HUP.out _ (And.right (And.right (by with_reducible assumption))); exact And.left (And.right (by with_reducible assumption)); rintro e y1 ⟨rfl, hy1⟩; have t1 := s7_call (w := wr) (by with_reducible assumption) hy1)
                | (go_at_call 8; refine (kM2 _ ?_).mono ?_; exact And.left (And.right (by with_reducible assumption)); rintro e y2 ⟨rfl, hy2⟩; have t2 := s7_call (w := wr) (by with_reducible assumption) hy2)
                | (go_at_call 9; refine (kP1 _ ?_ ?_).mono ?_; exact HUP.out _ (And.right (And.right (by with_reducible assumption))); exact And.left (And.right (by with_reducible assumption)); rintro e y3 ⟨rfl, hy3⟩; have t3 := s7_call (w := wr) (by with_reducible assumption) hy3)
                | (go_at_call 10; refine (kP2 _ ?_).mono ?_; exact And.left (And.right (by with_reducible assumption)); rintro e y4 ⟨rfl, hy4⟩; have t4 := s7_call (w := wr) (by with_reducible assumption) hy4)
                | (go_at_call 11; refine (kT1 _ ?_ ?_).mono ?_; exact HUP.out _ (And.right (And.right (by with_reducible assumption))); exact And.left (And.right (by with_reducible assumption)); rintro e y5 ⟨rfl, hy5⟩; have t5 := s7_call (w := wr) (by with_reducible assumption) hy5)
                | (go_at_call 12; refine (kT2 _ ?_).mono ?_; exact And.left (And.right (by with_reducible assumption)); rintro e y6 ⟨rfl, hy6⟩; have t6 := s7_call (w := wr) (by with_reducible assumption) hy6; have b6 := t6.2.2))
            go_wp2_with fail
            go_roundw
            case rel => exact ⟨i + 1, by go_num, by omega, HBX.out.trans (b6.mono HBX.out.size)⟩
            case measure => simp [intOf]; omega
          · have hp' : ¬ (i : Int) < 5 := by omega
            obtain ⟨t1, t2, t3, t4⟩ := HSM.out.2
            go_wp2_with fail
            refine (kuri wr HWX.out).mono ?_
            rintro e y1 ⟨q1, rfl, ho1, hb1⟩
            have by1 := HWX.out.trans (hb1.mono HWX.out.size)
            have km := umay_any HT.out (kh, kp, kl) q1 y1 by1 ho1.row t3 t4 t1 t2
            rw [HKM.out] at km
            dsimp only at km
            obtain ⟨A1, cp1, rfl⟩ := slice_ofF ho1
            clear ho1 hb1 kuri
            go_wp2_with fail
            refine km.mono ?_
            rintro e y2 ⟨rfl, hb2⟩
            have HB2 : Hid (Below w.heap.size w y2) := by1.trans (hb2.mono by1.size)
            clear hb2 by1 km
            go_wp2_with fail
            go_ret
            exact ⟨rfl, HB2.out⟩
      · have h3'' : (n : Int) > 3000 := by omega
        go_wp2_with fail
        go_ret
        exact ⟨rfl, HWW.out⟩

end Go.Proofs.YtfoeeocejcbmlaaDoor
