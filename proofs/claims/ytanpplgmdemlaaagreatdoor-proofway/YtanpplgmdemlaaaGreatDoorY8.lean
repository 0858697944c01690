import Derived.Test.YtanpplgmdemlaaaGreatDoorYB
import Derived.Test.YtanpplgmdemlaaaGreatDoorVU
namespace Go.Proofs.YtanpplgmdemlaaaGreatDoor
open Go.RowKit
set_option linter.unusedVariables false
set_option linter.unusedSimpArgs false

/-- Do the moves end with the term? -/
def provB (us : List (Nd × Fo)) (ms : List Mv) (t : Nd × Fo) : Bool :=
  match runP us ms with
  | .error _ => false
  | .ok rs => match rs.getLast? with
    | none => false
    | some u => ordT u.1 u.2 t.1 t.2 == 0

theorem MvsAt.below8 {w w' : World} {B : Nat} {ms : List Mv} {A : Option Addr} (h : MvsAt w B ms A) (hb : Below B w w') : MvsAt w' B ms A := by
  rcases h with h | ⟨mb, mo, h1, h2, h3⟩
  · exact .inl h
  · exact .inr ⟨mb, mo, h1, h2, fun i hi => by rw [hb.cell h2, hb.cell h2, hb.cell h2, hb.cell h2]; exact h3 i hi⟩

theorem tms_last {js : List Kd} (h : 0 < js.length) : (tms js).getLast? = some ((js.getD (js.length - 1) kd0).a, (js.getD (js.length - 1) kd0).l) := by
  have h1 : js.length - 1 < js.length := by omega
  rw [List.getLast?_eq_getElem?]
  simp [tms, List.getD, List.getElem?_eq_getElem h1]

set_option maxRecDepth 20000 in
set_option maxHeartbeats 2000000 in
theorem proves_any (ks : List Kd) (lv : Value) (ms : List Mv) (MA : Option Addr) (mc B Bt : Nat) (a : Nd) (l : Fo) (v : Value) (w : World) (h : SlT w lv ks) (hl : ks.length ≤ 2000) (hm : ∀ k ∈ ks, may k.a k.l = true) (hB : B ≤ w.heap.size) (hms : MvsAt w B ms MA) (hml : ms.length ≤ 9223372036854775807) (hs : ∀ m ∈ ms, m.s.size ≤ maxLen) (hv : RepV w Bt a l v) (hBt : Bt ≤ w.heap.size) (ma : may a l = true) :
    Calls Tryz.prog 10 #[lv, .slice MA ms.length mc, v] w fun e w' => e = .returned (.bool (provB (tms ks) ms (a, l))) ∧ Below w.heap.size w w' := by
  obtain ⟨hf, A, cap, b0, o0, rfl, hn, hA, hr⟩ := hv
  obtain ⟨LA, lc, rfl, _⟩ := h.len
  have HV : Hid (RepV w Bt a l (.agg #[.int .i64 a.kind, .int .i64 a.n, .string a.s, .slice A (flen l) cap])) := ⟨hf, A, cap, b0, o0, rfl, hn, hA, hr⟩
  have hal : Below w.heap.size w (w.alloc (.cells #[.int .i64 a.kind, .int .i64 a.n, .string a.s, .slice A (flen l) cap] 27)) := Below.alloc (Below.refl _ _) (Nat.le_refl _) _
  have MAY : Hid (may a l = true) := ma
  have HR : Hid (∀ W, Below w.heap.size w W → Calls Tryz.prog 11 #[.slice LA ks.length lc, .slice MA ms.length mc] W fun e w' => RunEnd W (tms ks) ms e w') := fun W hW => run_any ks _ ms MA mc B W (h.below hW) hl hm (Nat.le_trans hB hW.size) (hms.below8 (hW.mono hB)) hml hs
  clear hf hn hA hr ma h hm hms hs
  go_enter Tryz.func10, Tryz.ntmps10
  go_wp2_with fail
  refine (HR.out _ hal).mono ?_
  clear HR
  rintro e w1 ⟨hb1, ⟨z, hrun, hz, rfl⟩ | ⟨js, u, hrun, rfl, hta, hjm⟩⟩
  · have hbw : Below w.heap.size w w1 := hal.trans (hb1.mono (by simp))
    have HP : Hid (provB (tms ks) ms (a, l) = false) := by show provB _ _ _ = _; unfold provB; rw [hrun]
    have hzne : (z != 0) = true := by simp [hz]
    have hzeq : (z == 0) = false := by simp [hz]
    clear hrun hz
    go_wp2_with fail
    go_ret
    exact ⟨ret_bool HP.out.symm, by exact (by repeat (first | exact Below.refl _ _ | assumption | refine below_drewN ?_ _ | refine Below.drew ?_ | refine Below.alloc ?_ (by simp <;> omega) _ | refine Below.setCell ?_ (by simp <;> omega) _))⟩
  · have hsl := hta.sl.1
    have hmay := hta.sl.2
    clear hta
    have hbw : Below w.heap.size w w1 := hal.trans (hb1.mono (by simp))
    obtain ⟨JA, jc, rfl, hJ⟩ := hsl.len
    rcases Nat.eq_zero_or_pos js.length with hj0 | hj0
    · have HP : Hid (provB (tms ks) ms (a, l) = false) := by
        show provB _ _ _ = _
        have : js = [] := List.eq_nil_of_length_eq_zero hj0
        unfold provB; rw [hrun, this]; rfl
      rw [hj0]
      clear hj0 hJ hsl hmay hrun hjm
      go_wp2_with fail
      go_ret
      exact ⟨ret_bool HP.out.symm, by exact (by repeat (first | exact Below.refl _ _ | assumption | refine below_drewN ?_ _ | refine Below.drew ?_ | refine Below.alloc ?_ (by simp <;> omega) _ | refine Below.setCell ?_ (by simp <;> omega) _))⟩
    · obtain ⟨g, rfl, hrow⟩ : ∃ g, JA = some ⟨g, 0, none⟩ ∧ RowT w1 g js := by rcases hJ with h | h; omega; exact h
      obtain ⟨m, hm⟩ : ∃ m, js.length = m + 1 := ⟨js.length - 1, by omega⟩
      obtain ⟨c0, c1, c2, c3⟩ := hrow.at m (by omega)
      have hok := hrow.ok m (by omega)
      have hmk : may (js.getD m kd0).a (js.getD m kd0).l = true := hmay _ (by have : m < js.length := by omega
                                                                              simp [List.getD, List.getElem?_eq_getElem this])
      have HP : Hid (provB (tms ks) ms (a, l) = (ordT (js.getD m kd0).a (js.getD m kd0).l a l == 0)) := by
        show provB _ _ _ = _
        unfold provB; rw [hrun]; simp only [tms_last hj0]; rw [show js.length - 1 = m from by omega]
      have hg := hrow.1
      generalize js.getD m kd0 = k at *
      have HOK : Hid (k.Ok w1 (fun b => b < w1.heap.size)) := hok.1
      have HMK : Hid (may k.a k.l = true) := hmk
      have hv1 : RepV w1 w1.heap.size a l (.agg #[.int .i64 a.kind, .int .i64 a.n, .string a.s, .slice A (flen l) cap]) := RepV.keep (Nat.le_trans hBt hbw.size) (fun q o hq => hbw.cell (by simp; omega)) HV.out
      have HV1 : Hid (RepV w1 w1.heap.size a l (.agg #[.int .i64 a.kind, .int .i64 a.n, .string a.s, .slice A (flen l) cap])) := hv1
      obtain ⟨x0, x1, x2, x3, x4⟩ := Box4.below (Box4.new w (.int .i64 a.kind) (.int .i64 a.n) (.string a.s) (.slice A (flen l) cap) 27) hb1
      have cS : Hid (∀ W, Below w1.heap.size w1 W → Calls Tryz.prog 26 #[.agg #[.int .i64 k.a.kind, .int .i64 k.a.n, .string k.a.s, .slice k.A (flen k.l) k.cap], .agg #[.int .i64 a.kind, .int .i64 a.n, .string a.s, .slice A (flen l) cap]] W fun e w' => e = .returned (.bool (ordT k.a k.l a l == 0)) ∧ Below w1.heap.size w1 w') := fun W hW =>
        (same_any k.a k.l a l _ _ W.heap.size W (Kd.rep (HOK.out.below hW)) (RepV.keep hW.size (fun q o hq => hW.cell (by simpa using hq)) HV1.out) (Nat.le_refl _) HMK.out MAY.out).mono fun e w' ⟨h, hb⟩ => ⟨h, hW.trans (hb.mono hW.size)⟩
      generalize (ordT k.a k.l a l == 0) = pe at *
      have HS : Hid (∀ W, Below w1.heap.size w1 W → (W.cell? ⟨g, m * 4, none⟩ = some (.int .i64 k.a.kind) ∧ W.cell? ⟨g, m * 4 + 1, none⟩ = some (.int .i64 k.a.n) ∧ W.cell? ⟨g, m * 4 + 2, none⟩ = some (.string k.a.s) ∧ W.cell? ⟨g, m * 4 + 3, none⟩ = some (.slice k.A (flen k.l) k.cap)) ∧ Box4 W w.heap.size (.int .i64 a.kind) (.int .i64 a.n) (.string a.s) (.slice A (flen l) cap) ∧ Below w1.heap.size w1 W) := fun W hW =>
        ⟨⟨(hW.cell hg).trans c0, (hW.cell hg).trans c1, (hW.cell hg).trans c2, (hW.cell hg).trans c3⟩, Box4.below ⟨x0, x1, x2, x3, x4⟩ hW, hW⟩
      have hm9 : (m : Int) + 1 ≤ 9223372036854775807 := by omega
      clear hj0 hJ hrow hok hmk hv1 hmay hsl hrun c0 c1 c2 c3 x0 x1 x2 x3 x4 hjm
      rw [hm] at *
      clear hm
      have hne : ((m : Int) + 1 == 0) = false := by simp; omega
      go_wp2_with fail
      clear hne
      have i0 : (0 : Int) ≤ (m : Int) := by omega
      have i1 : (m : Int) < (m : Int) + 1 := by omega
      have i2 : IntKind.i64.wrap (m : Int) = (m : Int) := wrap_in _ (by omega) (by omega)
      have i3 : IntKind.i64.wrap ((m : Int) + 1 - 1) = (m : Int) := by rw [show (m : Int) + 1 - 1 = m from by omega]; exact i2
      go_region_held3 (fun W => (W.cell? ⟨g, m * 4, none⟩ = some (.int .i64 k.a.kind) ∧ W.cell? ⟨g, m * 4 + 1, none⟩ = some (.int .i64 k.a.n) ∧ W.cell? ⟨g, m * 4 + 2, none⟩ = some (.string k.a.s) ∧ W.cell? ⟨g, m * 4 + 3, none⟩ = some (.slice k.A (flen k.l) k.cap)) ∧ Box4 W w.heap.size (.int .i64 a.kind) (.int .i64 a.n) (.string a.s) (.slice A (flen l) cap) ∧ Below w1.heap.size w1 W)
        (first | exact HS.out _ (Below.drew (Below.refl _ _)) | exact HS.out _ (by assumption))
        (first | (go_at_call 26; refine (cS.out _ ?_).mono ?_; exact (And.right (And.right (by assumption))); rintro e w2 ⟨rfl, ho2⟩))
      go_wp2_with fail
      go_ret
      exact ⟨ret_bool HP.out.symm, hbw.trans (ho2.mono hbw.size)⟩

set_option maxRecDepth 20000 in
set_option maxHeartbeats 2000000 in
theorem refProves_any (ks : List Kd) (lv : Value) (ms : List Mv) (MA : Option Addr) (mc B Bt : Nat) (a : Nd) (l : Fo) (v : Value) (w : World) (h : SlT w lv ks) (hl : ks.length ≤ 2000) (hm : ∀ k ∈ ks, may k.a k.l = true) (hB : B ≤ w.heap.size) (hms : MvsAt w B ms MA) (hml : ms.length ≤ 9223372036854775807) (hs : ∀ m ∈ ms, m.s.size ≤ maxLen) (hv : RepV w Bt a l v) (hBt : Bt ≤ w.heap.size) (ma : may a l = true) :
    Calls Tryz.prog 9 #[lv, .slice MA ms.length mc, v] w fun e w' => e = .returned (.bool (provB (tms ks) ms (a, l))) ∧ Below w.heap.size w w' := by
  obtain ⟨hf, A, cap, b0, o0, rfl, hn, hA, hr⟩ := hv
  obtain ⟨LA, lc, rfl, _⟩ := h.len
  have HV : Hid (RepV w Bt a l (.agg #[.int .i64 a.kind, .int .i64 a.n, .string a.s, .slice A (flen l) cap])) := ⟨hf, A, cap, b0, o0, rfl, hn, hA, hr⟩
  have hal : Below w.heap.size w (w.alloc (.cells #[.int .i64 a.kind, .int .i64 a.n, .string a.s, .slice A (flen l) cap] 27)) := Below.alloc (Below.refl _ _) (Nat.le_refl _) _
  have MAY : Hid (may a l = true) := ma
  have HR : Hid (∀ W, Below w.heap.size w W → Calls Tryz.prog 25 #[.slice LA ks.length lc, .slice MA ms.length mc] W fun e w' => RefEnd W (tms ks) ms e w') := fun W hW => refRun_any ks _ ms MA mc B W (h.below hW) hl hm (Nat.le_trans hB hW.size) (hms.below8 (hW.mono hB)) hml hs
  clear hf hn hA hr ma h hm hms hs
  go_enter Tryz.func9, Tryz.ntmps9
  go_wp2_with fail
  refine (HR.out _ hal).mono ?_
  clear HR
  rintro e w1 ⟨hb1, ⟨z, hrun, hz, rfl⟩ | ⟨js, u, hrun, rfl, hsl, hmay, hjm⟩⟩
  · have hbw : Below w.heap.size w w1 := hal.trans (hb1.mono (by simp))
    have HP : Hid (provB (tms ks) ms (a, l) = false) := by show provB _ _ _ = _; unfold provB; rw [hrun]
    have hzne : (z != 0) = true := by simp [hz]
    have hzeq : (z == 0) = false := by simp [hz]
    clear hrun hz
    go_wp2_with fail
    go_quiet (fail)
    go_wp2_with fail
    go_ret
    exact ⟨ret_bool HP.out.symm, by exact (by repeat (first | exact Below.refl _ _ | assumption | refine below_drewN ?_ _ | refine Below.drew ?_ | refine Below.alloc ?_ (by simp <;> omega) _ | refine Below.setCell ?_ (by simp <;> omega) _))⟩
  · skip
    have hbw : Below w.heap.size w w1 := hal.trans (hb1.mono (by simp))
    obtain ⟨JA, jc, rfl, hJ⟩ := hsl.len
    rcases Nat.eq_zero_or_pos js.length with hj0 | hj0
    · have HP : Hid (provB (tms ks) ms (a, l) = false) := by
        show provB _ _ _ = _
        have : js = [] := List.eq_nil_of_length_eq_zero hj0
        unfold provB; rw [hrun, this]; rfl
      rw [hj0]
      clear hj0 hJ hsl hmay hrun hjm
      go_wp2_with fail
      go_quiet (fail)
      go_wp2_with fail
      go_ret
      exact ⟨ret_bool HP.out.symm, by exact (by repeat (first | exact Below.refl _ _ | assumption | refine below_drewN ?_ _ | refine Below.drew ?_ | refine Below.alloc ?_ (by simp <;> omega) _ | refine Below.setCell ?_ (by simp <;> omega) _))⟩
    · obtain ⟨g, rfl, hrow⟩ : ∃ g, JA = some ⟨g, 0, none⟩ ∧ RowT w1 g js := by rcases hJ with h | h; omega; exact h
      obtain ⟨m, hm⟩ : ∃ m, js.length = m + 1 := ⟨js.length - 1, by omega⟩
      obtain ⟨c0, c1, c2, c3⟩ := hrow.at m (by omega)
      have hok := hrow.ok m (by omega)
      have hmk : may (js.getD m kd0).a (js.getD m kd0).l = true := hmay _ (by have : m < js.length := by omega
                                                                              simp [List.getD, List.getElem?_eq_getElem this])
      have HP : Hid (provB (tms ks) ms (a, l) = (ordT (js.getD m kd0).a (js.getD m kd0).l a l == 0)) := by
        show provB _ _ _ = _
        unfold provB; rw [hrun]; simp only [tms_last hj0]; rw [show js.length - 1 = m from by omega]
      have hg := hrow.1
      generalize js.getD m kd0 = k at *
      have HOK : Hid (k.Ok w1 (fun b => b < w1.heap.size)) := hok.1
      have HMK : Hid (may k.a k.l = true) := hmk
      have hv1 : RepV w1 w1.heap.size a l (.agg #[.int .i64 a.kind, .int .i64 a.n, .string a.s, .slice A (flen l) cap]) := RepV.keep (Nat.le_trans hBt hbw.size) (fun q o hq => hbw.cell (by simp; omega)) HV.out
      have HV1 : Hid (RepV w1 w1.heap.size a l (.agg #[.int .i64 a.kind, .int .i64 a.n, .string a.s, .slice A (flen l) cap])) := hv1
      obtain ⟨x0, x1, x2, x3, x4⟩ := Box4.below (Box4.new w (.int .i64 a.kind) (.int .i64 a.n) (.string a.s) (.slice A (flen l) cap) 27) hb1
      have cS : Hid (∀ W, Below w1.heap.size w1 W → Calls Tryz.prog 13 #[.agg #[.int .i64 k.a.kind, .int .i64 k.a.n, .string k.a.s, .slice k.A (flen k.l) k.cap], .agg #[.int .i64 a.kind, .int .i64 a.n, .string a.s, .slice A (flen l) cap]] W fun e w' => e = .returned (.bool (ordT k.a k.l a l == 0)) ∧ Below w1.heap.size w1 w') := fun W hW =>
        (refSame_any k.a k.l a l _ _ W.heap.size W (Kd.rep (HOK.out.below hW)) (RepV.keep hW.size (fun q o hq => hW.cell (by simpa using hq)) HV1.out) (Nat.le_refl _) (by exact (may_ar _ _ HMK.out).1) (by exact (may_ar _ _ MAY.out).1) (by exact (may_ar _ _ HMK.out).2) (by exact (may_ar _ _ MAY.out).2)).mono fun e w' ⟨h, hb⟩ => ⟨h, hW.trans (hb.mono hW.size)⟩
      generalize (ordT k.a k.l a l == 0) = pe at *
      have HS : Hid (∀ W, Below w1.heap.size w1 W → (W.cell? ⟨g, m * 4, none⟩ = some (.int .i64 k.a.kind) ∧ W.cell? ⟨g, m * 4 + 1, none⟩ = some (.int .i64 k.a.n) ∧ W.cell? ⟨g, m * 4 + 2, none⟩ = some (.string k.a.s) ∧ W.cell? ⟨g, m * 4 + 3, none⟩ = some (.slice k.A (flen k.l) k.cap)) ∧ Box4 W w.heap.size (.int .i64 a.kind) (.int .i64 a.n) (.string a.s) (.slice A (flen l) cap) ∧ Below w1.heap.size w1 W) := fun W hW =>
        ⟨⟨(hW.cell hg).trans c0, (hW.cell hg).trans c1, (hW.cell hg).trans c2, (hW.cell hg).trans c3⟩, Box4.below ⟨x0, x1, x2, x3, x4⟩ hW, hW⟩
      have hm9 : (m : Int) + 1 ≤ 9223372036854775807 := by omega
      clear hj0 hJ hrow hok hmk hv1 hmay hsl hrun c0 c1 c2 c3 x0 x1 x2 x3 x4 hjm
      rw [hm] at *
      clear hm
      have hne : ((m : Int) + 1 == 0) = false := by simp; omega
      go_wp2_with fail
      clear hne
      have i0 : (0 : Int) ≤ (m : Int) := by omega
      have i1 : (m : Int) < (m : Int) + 1 := by omega
      have i2 : IntKind.i64.wrap (m : Int) = (m : Int) := wrap_in _ (by omega) (by omega)
      have i3 : IntKind.i64.wrap ((m : Int) + 1 - 1) = (m : Int) := by rw [show (m : Int) + 1 - 1 = m from by omega]; exact i2
      go_region_held3 (fun W => (W.cell? ⟨g, m * 4, none⟩ = some (.int .i64 k.a.kind) ∧ W.cell? ⟨g, m * 4 + 1, none⟩ = some (.int .i64 k.a.n) ∧ W.cell? ⟨g, m * 4 + 2, none⟩ = some (.string k.a.s) ∧ W.cell? ⟨g, m * 4 + 3, none⟩ = some (.slice k.A (flen k.l) k.cap)) ∧ Box4 W w.heap.size (.int .i64 a.kind) (.int .i64 a.n) (.string a.s) (.slice A (flen l) cap) ∧ Below w1.heap.size w1 W)
        (first | exact HS.out _ (Below.drew (Below.refl _ _)) | exact HS.out _ (by assumption))
        (first | (go_at_call 13; refine (cS.out _ ?_).mono ?_; exact (And.right (And.right (by assumption))); rintro e w2 ⟨rfl, ho2⟩))
      go_wp2_with fail
      go_ret
      exact ⟨ret_bool HP.out.symm, hbw.trans (ho2.mono hbw.size)⟩

end Go.Proofs.YtanpplgmdemlaaaGreatDoor
