import Derived.Test.YtooffmmfacdjeaaW10
namespace Go.Proofs.Ytooffmmfacdjeaa
open Go.RowKit
set_option linter.unusedVariables false
set_option linter.unusedSimpArgs false

/-- No term of the row, nor one within, is the term (b, m). -/
def missF (b : Nd) (m : Fo) : Fo → Bool
  | .nil => true
  | .node _ _ a l r => (ordT a l b m != 0) && (missF b m l && missF b m r)

def missT (b : Nd) (m : Fo) (a : Nd) (l : Fo) : Bool := (ordT a l b m != 0) && missF b m l

theorem missF_node (b : Nd) (m : Fo) (c d : Nat) (a : Nd) (l r : Fo) : missF b m (.node c d a l r) = (missT b m a l && missF b m r) := by rw [missF, missT, Bool.and_assoc]

set_option maxHeartbeats 1000000 in
theorem has1_any (a : Nd) (l : Fo) (b : Nd) (m : Fo) (A A' : Option Addr) (cap cap' b0 o0 b0' o0' : Nat) (deep : Int) (xb B : Nat) (w : World) (hB : B ≤ w.heap.size)
    (hf : a.Fit) (hn : flen l ≤ 9223372036854775807) (hA : flen l = 0 ∨ A = some ⟨b0, o0, none⟩) (hr : RepF w B l b0 o0)
    (hg : b.Fit) (hn' : flen m ≤ 9223372036854775807) (hA' : flen m = 0 ∨ A' = some ⟨b0', o0', none⟩) (hr' : RepF w B m b0' o0')
    (hx : Box4 w xb (.int .i64 b.kind) (.int .i64 b.n) (.string b.s) (.slice A' (flen m) cap'))
    (ka : (flen l : Int) = kidsOf a.kind) (kb : (flen m : Int) = kidsOf b.kind) (ra : ArF l) (rb : ArF m) :
    Calls Try.prog 43 #[.agg #[.int .i64 a.kind, .int .i64 a.n, .string a.s, .slice A (flen l) cap], .int .i64 deep, .pointer (some ⟨xb, 0, none⟩)] w fun e w' =>
      e = .returned (.bool (ordT a l b m != 0)) ∧ Below w.heap.size w w' := by
  have HA : Hid (flen l = 0 ∨ A = some ⟨b0, o0, none⟩) := hA
  have HA' : Hid (flen m = 0 ∨ A' = some ⟨b0', o0', none⟩) := hA'
  have Ka : Hid ((flen l : Int) = kidsOf a.kind) := ka
  have Kb : Hid ((flen m : Int) = kidsOf b.kind) := kb
  clear hA hA' ka kb
  have hx' := hx.alloc (.cells #[.int .i64 a.kind, .int .i64 a.n, .string a.s, .slice A (flen l) cap] 30)
  obtain ⟨x0, x1, x2, x3, x4⟩ := hx'
  go_enter Try.func43, Try.ntmps43
  go_wp2_with fail
  have hbl : Below B w (w.alloc (.cells #[.int .i64 a.kind, .int .i64 a.n, .string a.s, .slice A (flen l) cap] 30)) := Below.alloc (Below.refl _ _) hB _
  refine (ord_any a l _ _ b m B _ ⟨hf, A, cap, b0, o0, rfl, hn, HA.out, hr.below hbl⟩ ⟨hg, A', cap', b0', o0', rfl, hn', HA'.out, hr'.below hbl⟩ (by simp; omega) Ka.out Kb.out ra rb).mono ?_
  rintro e w3 ⟨rfl, ho3⟩
  go_wp2_with fail
  go_ret
  exact ⟨rfl, Below.trans (by repeat (first | exact Below.refl _ _ | assumption | refine below_drewN ?_ _ | refine Below.drew ?_ | refine Below.alloc ?_ (by simp <;> omega) _ | refine Below.setCell ?_ (by simp <;> omega) _)) (ho3.mono (by simp))⟩

/-- What Has is asked for: the term (b, m), its box in block xb. -/
def SoughtAt (w : World) (B xb : Nat) (b : Nd) (m : Fo) : Prop :=
  b.Fit ∧ flen m ≤ 9223372036854775807 ∧ (flen m : Int) = kidsOf b.kind ∧ ArF m ∧ xb < w.heap.size ∧ ∃ A cap b0 o0, (flen m = 0 ∨ A = some ⟨b0, o0, none⟩) ∧ RepF w B m b0 o0 ∧ Box4 w xb (.int .i64 b.kind) (.int .i64 b.n) (.string b.s) (.slice A (flen m) cap)

theorem SoughtAt.below {w w' : World} {B xb : Nat} {b : Nd} {m : Fo} (h : SoughtAt w B xb b m) (hb : Below w.heap.size w w') (hB : B ≤ w.heap.size) : SoughtAt w' B xb b m := by
  obtain ⟨h1, h2, h3, h4, h5, A, cap, b0, o0, h6, h7, h8⟩ := h
  exact ⟨h1, h2, h3, h4, Nat.lt_of_lt_of_le h5 hb.size, A, cap, b0, o0, h6, h7.below (hb.mono hB), h8.below hb⟩

def WalkHas (b : Nd) (m : Fo) (a : Nd) (l : Fo) : Prop := ∀ (v : Value) (B : Nat) (deep : Int) (xb : Nat) (w : World), RepV w B a l v → B ≤ w.heap.size → 0 ≤ deep → deep + (1 + sizeF l) ≤ 2000 →
    (flen l : Int) = kidsOf a.kind → ArF l → SoughtAt w B xb b m →
    Calls Try.prog 39 #[v, .int .i64 deep, .func (.func 43) #[] #[.pointer (some ⟨xb, 0, none⟩)]] w fun e w' =>
      e = .returned (.bool (missT b m a l)) ∧ Below w.heap.size w w'

set_option maxHeartbeats 1000000 in
theorem walkHas_step (x : Nd) (m : Fo) (a : Nd) (l : Fo) (ih : AllF (WalkHas x m) l) : WalkHas x m a l := by
  rintro v B deep xb w ⟨hf, A, cap, b, o, rfl, hn, hA, hr⟩ hB hd0 hd1 ka ra hso
  have HA : Hid (flen l = 0 ∨ A = some ⟨b, o, none⟩) := hA
  have Ka : Hid ((flen l : Int) = kidsOf a.kind) := ka
  clear hA ka
  have hso1 := hso.below (Below.alloc (Below.refl _ _) (Nat.le_refl _) (.cells #[.int .i64 a.kind, .int .i64 a.n, .string a.s, .slice A (flen l) cap] 30)) hB
  have hr1 : RepF (w.alloc (.cells #[.int .i64 a.kind, .int .i64 a.n, .string a.s, .slice A (flen l) cap] 30)) B l b o := hr.below (Below.alloc (Below.refl _ _) hB _)
  obtain ⟨s1, s2, s3, s4, s5, A', cap', b0', o0', s6, s7, s8⟩ := hso1
  have S3 : Hid ((flen m : Int) = kidsOf x.kind) := s3
  have S6 : Hid (flen m = 0 ∨ A' = some ⟨b0', o0', none⟩) := s6
  clear s3 s6
  go_enter Try.func39, Try.ntmps39
  go_wp2_with fail
  refine (has1_any a l x m A A' cap cap' b o b0' o0' deep xb B _ (by simp; omega) hf hn HA.out hr1 s1 s2 S6.out s7 s8 Ka.out S3.out ra s4).mono ?_
  rintro e w1 ⟨rfl, ho⟩
  have hbx : w1.cell? ⟨w.heap.size, 3, none⟩ = some (.slice A (flen l) cap) := by rw [ho.cell (by simp)]; simp [go_sem]
  have hbw : Below w.heap.size w w1 := Below.trans (by repeat (first | exact Below.refl _ _ | assumption | refine below_drewN ?_ _ | refine Below.drew ?_ | refine Below.alloc ?_ (by simp <;> omega) _ | refine Below.setCell ?_ (by simp <;> omega) _)) (ho.mono (by simp))
  have hso2 := hso.below hbw hB
  have hsz1 : w.heap.size < w1.heap.size := by have := ho.size; simp at this; omega
  clear hso s8 s7 s5
  cases hm : (ordT a l x m != 0)
  · go_wp2_with fail
    go_ret
    exact ⟨ret_bool (by rw [missT, hm]; rfl), hbw⟩
  · have HT : Hid (missT x m a l = missF x m l) := by show missT x m a l = _; rw [missT, hm]; rfl
    go_wp2_with fail
    go_loopw [16] (fun iv wr => ∃ (i : Nat) (g : Fo), iv = .int .i64 i ∧ i + flen g = flen l ∧ AllF (WalkHas x m) g ∧ ArF g ∧ RepF wr B g b (o + i * 4) ∧ missF x m l = missF x m g ∧ sizeF g ≤ sizeF l ∧
        Below w.heap.size w wr ∧ w.heap.size < wr.heap.size ∧ wr.cell? ⟨w.heap.size, 3, none⟩ = some (.slice A (flen l) cap) ∧ SoughtAt wr B xb x m) (fun iv _ => flen l - (intOf iv).toNat)
    case atStart =>
      refine ⟨0, l, rfl, by simp, ih, ra, ?_, rfl, Nat.le_refl _, hbw, hsz1, hbx, hso2⟩
      rw [show o + 0 * 4 = o from by omega]
      exact hr.below (hbw.mono hB)
    case round =>
      obtain ⟨i, g, rfl, hi, hg, rg, hrg, hmf, hsl, how, hsz, hbx1, hsw⟩ := hrel
      have Hmf : Hid (missF x m l = missF x m g) := hmf
      clear hmf hbx ho hr hr1 hbw hso2 hsz1
      cases g with
      | nil =>
        simp only [flen] at hi
        go_wp2_with fail
        go_ret
        exact ⟨ret_bool (by rw [HT.out, Hmf.out, missF]), how⟩
      | node b1 o1 a1 l1 r1 =>
        obtain ⟨hb1, hf1, e0, e1, e2, ⟨A1, cap1, b2, o2, e3, hn1, hA1, hl1⟩, hr1⟩ := hrg
        obtain ⟨hw1, hgr⟩ := hg
        obtain ⟨ka1, al1, ar1⟩ := rg
        simp only [flen] at hi
        simp only [sizeF] at hsl
        obtain rfl : A = some ⟨b, o, none⟩ := by rcases HA.out with h | h; omega; exact h
        have HA1 : Hid (flen l1 = 0 ∨ A1 = some ⟨b2, o2, none⟩) := hA1
        have Ka1 : Hid ((flen l1 : Int) = kidsOf a1.kind) := ka1
        have hzB : B ≤ wr.heap.size := by have := how.size; omega
        clear hA1 ka1
        go_wp2_with fail
        refine (hw1 _ B (deep + 1) xb wr ⟨hf1, A1, cap1, b2, o2, rfl, hn1, HA1.out, hl1⟩ hzB (by omega) (by omega) Ka1.out al1 hsw).mono ?_
        rintro e w2 ⟨rfl, ho2⟩
        cases hm1 : missT x m a1 l1
        · go_wp2_with fail
          go_ret
          exact ⟨ret_bool (by rw [HT.out, Hmf.out, missF_node, hm1]; rfl), how.trans (ho2.mono (by omega))⟩
        · go_wp2_with fail
          go_roundw
          case rel =>
            refine ⟨i + 1, r1, by go_num, by omega, hgr, ar1, ?_, ?_, by omega, how.trans (ho2.mono (by omega)), by have := ho2.size; omega, ?_, hsw.below ho2 hzB⟩
            · rw [show o + (i + 1) * 4 = o + i * 4 + 4 from by omega]
              exact hr1.below (ho2.mono hzB)
            · rw [Hmf.out, missF_node, hm1]; rfl
            · rw [ho2.cell (by simp; omega)]; exact hbx1
          case measure => simp [intOf]; omega

theorem walkHas_all (x : Nd) (m : Fo) : ∀ f : Fo, AllF (WalkHas x m) f
  | .nil => trivial
  | .node _ _ a l r => ⟨walkHas_step x m a l (walkHas_all x m l), walkHas_all x m r⟩

set_option maxHeartbeats 1000000 in
theorem has_any (a : Nd) (l : Fo) (b : Nd) (m : Fo) (v u : Value) (B : Nat) (w : World) (hv : RepV w B a l v) (hu : RepV w B b m u) (hB : B ≤ w.heap.size) (ma : may a l = true) (mb : may b m = true) :
    Calls Try.prog 22 #[v, u] w fun e w' => e = .returned (.bool (!missT b m a l)) ∧ Below w.heap.size w w' := by
  have hms := may_size a l ma
  obtain ⟨hf, A, cap, b0, o0, rfl, hn, hA, hr⟩ := hv
  obtain ⟨hg, A', cap', b0', o0', rfl, hn', hA', hr'⟩ := hu
  have HA : Hid (flen l = 0 ∨ A = some ⟨b0, o0, none⟩) := hA
  have HA' : Hid (flen m = 0 ∨ A' = some ⟨b0', o0', none⟩) := hA'
  have Ma : Hid (may a l = true) := ma
  have Mb : Hid (may b m = true) := mb
  clear hA hA'
  go_enter Try.func22, Try.ntmps22
  go_wp2_with fail
  refine (may_any a l _ _ ⟨hf, A, cap, b0, o0, rfl, hn, HA.out, hr.alloc2 hB _ _⟩).mono ?_
  rintro e w1 ⟨rfl, ho1⟩
  have hx1 : Box4 w1 w.heap.size (.int .i64 a.kind) (.int .i64 a.n) (.string a.s) (.slice A (flen l) cap) := ((Box4.new w _ _ _ _ _).alloc _).below ho1
  have hy1 : Box4 w1 (w.heap.size + 1) (.int .i64 b.kind) (.int .i64 b.n) (.string b.s) (.slice A' (flen m) cap') := by
    have h := (Box4.new (w.alloc (.cells #[.int .i64 a.kind, .int .i64 a.n, .string a.s, .slice A (flen l) cap] 30)) (.int .i64 b.kind) (.int .i64 b.n) (.string b.s) (.slice A' (flen m) cap') 30).below ho1
    simpa using h
  have hbw1 : Below w.heap.size w w1 := Below.trans (by repeat (first | exact Below.refl _ _ | assumption | refine below_drewN ?_ _ | refine Below.drew ?_ | refine Below.alloc ?_ (by simp <;> omega) _ | refine Below.setCell ?_ (by simp <;> omega) _)) (ho1.mono (by simp <;> omega))
  have hx1' := hx1
  have hy1' := hy1
  obtain ⟨x0, x1, x2, x3, x4⟩ := hx1
  obtain ⟨y0, y1, y2, y3, y4⟩ := hy1
  go_wp2_with fail
  refine (may_any b m _ w1 ⟨hg, A', cap', b0', o0', rfl, hn', HA'.out, RepF.keep (w := w) (by have := hbw1.size; omega) (fun _ _ hb => hbw1.cell (by simp; omega)) hr'⟩).mono ?_
  rintro e w2 ⟨rfl, ho2⟩
  obtain ⟨x0', x1', x2', x3', x4'⟩ := hx1'.below ho2
  obtain ⟨y0', y1', y2', y3', y4'⟩ := hy1'.below ho2
  have hbw : Below w.heap.size w w2 := hbw1.trans (ho2.mono (by omega))
  have hbl : Below B w w2 := hbw.mono hB
  go_wp2_with fail
  refine (walkHas_step b m a l (walkHas_all b m l) _ B 1 (w.heap.size + 1) w2 ⟨hf, A, cap, b0, o0, rfl, hn, HA.out, hr.below hbl⟩ (by have := hbl.size; omega) (by omega) (by omega) (may_ar a l Ma.out).1 (may_ar a l Ma.out).2
    ⟨hg, hn', (may_ar b m Mb.out).1, (may_ar b m Mb.out).2, y0', A', cap', b0', o0', HA'.out, hr'.below hbl, ⟨y0', y1', y2', y3', y4'⟩⟩).mono ?_
  rintro e w3 ⟨rfl, ho3⟩
  go_wp2_with fail
  go_ret
  exact ⟨rfl, hbw.trans (ho3.mono (by have := hbw.size; omega))⟩

end Go.Proofs.Ytooffmmfacdjeaa
