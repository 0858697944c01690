import Derived.Test.YtldpnhlifgkmiaaDoorV7
namespace Go.Proofs.YtldpnhlifgkmiaaDoor
open Go.RowKit
set_option linter.unusedVariables false
set_option linter.unusedSimpArgs false

theorem ok_on {w w' : World} {k : Kd} {q : Nat} (h : k.Ok w (fun b => b < w.heap.size ∧ b ≠ q)) (hb : Below w.heap.size w w') : k.Ok w' (fun b => b < w'.heap.size ∧ b ≠ q) :=
  h.keep (fun b hb' => ⟨Nat.lt_of_lt_of_le hb'.1 hb.size, hb'.2⟩) (fun b o hb' => hb.cell (by simpa using hb'.1))
theorem ok_all {w : World} {k : Kd} {q : Nat} (h : k.Ok w (fun b => b < w.heap.size ∧ b ≠ q)) : k.Ok w (fun b => b < w.heap.size) := h.keep (fun b hb => hb.1) (fun _ _ _ => rfl)

set_option maxRecDepth 100000 in
set_option maxHeartbeats 2000000 in
theorem result_spoken (m : Mv) (us rs : List (Nd × Fo)) (lv rv : Value) (w : World) (hs : m.s.size ≤ maxLen) (hk : m.kind = 2) :
    Calls Tryd.prog 39 #[lv, rv, m.val] w fun e w' => ResEnd w us rs m e w' := by
  have HR : Hid (ruleV m = .iface 110 (.agg #[.string m.s])) := by show ruleV m = _; unfold ruleV; rw [if_neg (by omega), if_pos hk]
  have HP : Hid (stepP us rs m = mayP (.ok (⟨1, 0, m.s⟩, .nil))) := by show stepP _ _ _ = _; unfold stepP rawP; rw [if_neg (by omega), if_pos hk]
  have HF : Hid (∀ W : World, (⟨0, 0, ⟨1, 0, m.s⟩, .nil, none, 0, 0, 0⟩ : Kd).Ok W (fun b => b < W.heap.size ∧ b ≠ w.heap.size + 1)) := fun W => ⟨⟨by simp, by simp, by simp, by simp, hs⟩, ⟨Nat.zero_le _, Nat.zero_le _⟩, .inl rfl, trivial⟩
  have hmeth := meth_spoken m.s
  clear hk hs
  go_enter Tryd.func39, Tryd.ntmps39
  go_wp2_with fail
  refine (ruleOf_any m _).mono ?_
  rintro e w1 ⟨rfl, ho1⟩
  rw [HR.out]
  have hs1 : w.heap.size + 1 + 1 ≤ w1.heap.size := by have := ho1.size; simpa using this
  have HBX : Hid (ResBox w w1 m) := (ResBox.new w m).below (by simp) ho1
  have hb1 : Below w.heap.size w w1 := (show Below w.heap.size w _ from (by repeat (first | exact Below.refl _ _ | assumption | refine below_drewN ?_ _ | refine Below.drew ?_ | refine Below.alloc ?_ (by simp <;> omega) _ | refine Below.setCell ?_ (by simp <;> omega) _))).trans (ho1.mono (by simp; omega))
  clear ho1
  obtain ⟨⟨b0, b1, b2, b3⟩, ⟨r0, r1, r2, r3⟩, g0, g1, g2, g3⟩ := HBX.out
  have hq : w.heap.size + 1 < w1.heap.size := by omega
  go_wp2_with fail
  refine (pointedSpoken m.s m lv rv w1).mono ?_
  rintro e w2 ⟨rfl, hb2⟩
  clear b0 b1 b2 b3 r0 r1 r2 r3 g0 g1 g2 g3 hq
  obtain ⟨⟨b0, b1, b2, b3⟩, ⟨r0, r1, r2, r3⟩, g0, g1, g2, g3⟩ := HBX.out.below (by omega) hb2
  have hq : w.heap.size + 1 < w2.heap.size := by have := Below.size hb2; omega
  go_wp2_with fail
  refine (applySpoken m.s _ w2).mono ?_
  rintro e w3 ⟨rfl, ho3⟩
  have hb3 : Below w1.heap.size w1 w3 := hb2.trans (ho3.mono hb2.size)
  clear b0 b1 b2 b3 r0 r1 r2 r3 g0 g1 g2 g3 hq
  obtain ⟨⟨b0, b1, b2, b3⟩, ⟨r0, r1, r2, r3⟩, g0, g1, g2, g3⟩ := HBX.out.below (by omega) hb3
  have hq : w.heap.size + 1 < w3.heap.size := by have := Below.size hb3; omega
  have hal : Below w3.heap.size w3 (w3.alloc (.cells #[.int .i64 1, .int .i64 0, .string m.s, .slice none 0 0] 29)) := Below.alloc (Below.refl _ _) (Nat.le_refl _) _
  go_wp2_with fail
  refine (may_any ⟨1, 0, m.s⟩ .nil _ _ (Kd.rep (ok_all (HF.out _)))).mono ?_
  rintro e w4 ⟨rfl, ho4⟩
  obtain ⟨y0, y1, y2, y3, y4⟩ : Box4 w4 w3.heap.size (.int .i64 1) (.int .i64 0) (.string m.s) (.slice none 0 0) := (Box4.new w3 _ _ _ _ _).below ho4
  have hb4 : Below w1.heap.size w1 w4 := hb3.trans ((hal.trans (ho4.mono (by simp))).mono hb3.size)
  clear b0 b1 b2 b3 r0 r1 r2 r3 g0 g1 g2 g3 hq
  obtain ⟨⟨b0, b1, b2, b3⟩, ⟨r0, r1, r2, r3⟩, g0, g1, g2, g3⟩ := HBX.out.below (by omega) hb4
  have hq : w.heap.size + 1 < w4.heap.size := by have := Below.size hb4; omega
  have hbw4 : Below w.heap.size w w4 := hb1.trans (hb4.mono (by omega))
  obtain ⟨mb, hmb⟩ : ∃ mb : Bool, may ⟨1, 0, m.s⟩ .nil = mb := ⟨_, rfl⟩
  rw [hmb]
  have HMB : Hid (may ⟨1, 0, m.s⟩ .nil = mb) := hmb
  clear hmb
  cases mb with
  | true =>
    have HST : Hid (stepP us rs m = .ok (⟨1, 0, m.s⟩, .nil)) := by show stepP _ _ _ = _; rw [HP.out]; unfold mayP; simp [HMB.out]
    go_wp2_with fail
    refine bodyPost_ret (v := .tuple #[.agg #[.int .i64 1, .int .i64 0, .string m.s, .slice none 0 0], .int .i64 0]) (by simp [results, Tryd.results39, go_sem, r0, r1, r2, r3]) rfl ?_
    exact ⟨(by repeat (first | exact Below.refl _ _ | assumption | refine below_drewN ?_ _ | refine Below.drew ?_ | refine Below.alloc ?_ (by simp <;> omega) _ | refine Below.setCell ?_ (by simp <;> omega) _)), .inr ⟨⟨0, 0, ⟨1, 0, m.s⟩, .nil, none, 0, 0, 0⟩, HST.out, rfl, ok_set4 (HF.out w4) _ _ _ _, HMB.out⟩⟩
  | false =>
    have HST : Hid (stepP us rs m = .error 3) := by show stepP _ _ _ = _; rw [HP.out]; unfold mayP; simp [HMB.out]
    go_wp2_with fail
    refine bodyPost_ret (v := .tuple #[zeroT, .int .i64 3]) (by simp [results, Tryd.results39, go_sem, r0, r1, r2, r3, hq]) rfl ?_
    exact ⟨(by repeat (first | exact Below.refl _ _ | assumption | refine below_drewN ?_ _ | refine Below.drew ?_ | refine Below.alloc ?_ (by simp <;> omega) _ | refine Below.setCell ?_ (by simp <;> omega) _)), .inl ⟨3, HST.out, by decide, rfl⟩⟩

set_option maxRecDepth 100000 in
set_option maxHeartbeats 2000000 in
theorem result_open0 (kk : Int) (m : Mv) (js : List Kd) (us : List (Nd × Fo)) (lv rv : Value) (w : World) (h : SlT w rv js) (hl : js.length ≤ 2000) (hm : ∀ k ∈ js, may k.a k.l = true) (hkk : kk = 6 ∨ kk = 7) (hr : ruleV m = .iface 102 (.agg #[.int .i64 kk, .int .i64 0])) (hp : stepP us (tms js) m = mayP (onP (atL (tms js) m.a) (openP kk 0))) :
    Calls Tryd.prog 39 #[lv, rv, m.val] w fun e w' => ResEnd w us (tms js) m e w' := by
  have HR : Hid (ruleV m = .iface 102 (.agg #[.int .i64 kk, .int .i64 0])) := hr
  have HP : Hid (stepP us (tms js) m = mayP (onP (atL (tms js) m.a) (openP kk 0))) := hp
  have HSL : Hid (SlT w rv js) := h
  have HM : Hid (∀ k ∈ js, may k.a k.l = true) := hm
  have HKK : Hid (kk = 6 ∨ kk = 7) := hkk
  have hmeth := meth_opening kk 0
  clear h hm hr hp hkk
  go_enter Tryd.func39, Tryd.ntmps39
  go_wp2_with fail
  refine (ruleOf_any m _).mono ?_
  rintro e w1 ⟨rfl, ho1⟩
  rw [HR.out]
  have hs1 : w.heap.size + 1 + 1 ≤ w1.heap.size := by have := ho1.size; simpa using this
  have HBX : Hid (ResBox w w1 m) := (ResBox.new w m).below (by simp) ho1
  have hb1 : Below w.heap.size w w1 := (show Below w.heap.size w _ from (by repeat (first | exact Below.refl _ _ | assumption | refine below_drewN ?_ _ | refine Below.drew ?_ | refine Below.alloc ?_ (by simp <;> omega) _ | refine Below.setCell ?_ (by simp <;> omega) _))).trans (ho1.mono (by simp; omega))
  clear ho1
  obtain ⟨⟨b0, b1, b2, b3⟩, ⟨r0, r1, r2, r3⟩, g0, g1, g2, g3⟩ := HBX.out
  have hq : w.heap.size + 1 < w1.heap.size := by omega
  go_wp2_with fail
  refine (pointedOpen kk 0 m js lv rv w1 (HSL.out.below hb1) hl).mono ?_
  rintro e w2 ⟨hb2, ⟨hin, g, c, rfl, hg, hc, hrow⟩ | ⟨⟨x, hx, hno⟩, rfl⟩⟩
  · have hin1 : inR js.length m.a := hin _ (by simp)
    have hat := atL_in hin1
    have hmem := getD_mem (ks := js) (i := m.a.toNat) (by have h1 := hin1.1; have h2 := hin1.2; omega)
    have hrow' : RowT w2 g [js.getD m.a.toNat kd0] := hrow
    have hok := (HSL.out.oks _ hmem).1
    have hmk := HM.out _ hmem
    generalize js.getD m.a.toNat kd0 = k at *
    have HROW : Hid (RowT w2 g [k]) := hrow'
    have HS1 : Hid (stepP us (tms js) m = mayP (openP kk 0 (k.a, k.l))) := by show stepP _ _ _ = _; rw [HP.out, hat]; rfl
    have hbw2 : Below w.heap.size w w2 := hb1.trans (hb2.mono (by omega))
    clear b0 b1 b2 b3 r0 r1 r2 r3 g0 g1 g2 g3 hq
    obtain ⟨⟨b0, b1, b2, b3⟩, ⟨r0, r1, r2, r3⟩, g0, g1, g2, g3⟩ := HBX.out.below (by omega) hb2
    have hq : w.heap.size + 1 < w2.heap.size := by have := Below.size hb2; omega
    simp only [List.length_cons, List.length_nil, Nat.zero_add]
    by_cases hkd : k.a.kind = kk
    · have hfl : flen k.l = 2 := by have := (may_ar _ _ hmk).1; rw [hkd] at this; rcases HKK.out with h | h <;> rw [h] at this <;> simp [kidsOf] at this <;> omega
      obtain ⟨k1, k2, hkids, hk1, hk2, hkA, hkb, _, hcs1, hcs2⟩ := two_kids hok hfl
      have hmj : may k1.a k1.l = true := by have := amay_mem (may_amay hmk); rw [hkids] at this; exact this (k1.a, k1.l) (by simp)
      have HOK : Hid (k1.Ok w (fun b => b < w.heap.size) ∧ may k1.a k1.l = true) := ⟨hk1, hmj⟩
      have HST : Hid (stepP us (tms js) m = .ok (k1.a, k1.l)) := by show stepP _ _ _ = _; rw [HS1.out]; unfold openP; rw [if_pos hkd]; simp only [hkids]; unfold mayP; simp [hmj]
      have hcl : ∀ j, w2.cell? ⟨k.b, j, none⟩ = w.cell? ⟨k.b, j, none⟩ := fun j => hbw2.cell (by simpa using hkb)
      have HAP : Hid (Calls Tryd.prog 72 #[.agg #[.int .i64 kk, .int .i64 0], .slice (some ⟨g, 0, none⟩) 1 c] w2 fun e w' => e = .returned (.tuple #[k1.val, .bool true]) ∧ Below w2.heap.size w2 w') :=
        applyOpen0 kk k k1 [] g 1 c w2 HROW.out (by decide) hkd hfl hkA (by have := hbw2.size; omega) (by unfold CellsK; rw [hcl, hcl, hcl, hcl]; exact hcs1)
      clear hin hin1 hat hmem hrow hrow' hok hmk hc hkd hfl hkids hk1 hk2 hkA hkb hcs1 hcs2 hmj hcl
      go_wp2_with fail
      refine Calls.mono HAP.out ?_
      rintro e w3 ⟨rfl, ho3⟩
      have hb3 : Below w1.heap.size w1 w3 := hb2.trans (ho3.mono hb2.size)
      clear b0 b1 b2 b3 r0 r1 r2 r3 g0 g1 g2 g3 hq
      obtain ⟨⟨b0, b1, b2, b3⟩, ⟨r0, r1, r2, r3⟩, g0, g1, g2, g3⟩ := HBX.out.below (by omega) hb3
      have hq : w.heap.size + 1 < w3.heap.size := by have := hb3.size; omega
      have hbw3 : Below w.heap.size w w3 := hb1.trans (hb3.mono (by omega))
      have hal : Below w3.heap.size w3 (w3.alloc (.cells #[.int .i64 k1.a.kind, .int .i64 k1.a.n, .string k1.a.s, .slice k1.A (flen k1.l) k1.cap] 29)) := Below.alloc (Below.refl _ _) (Nat.le_refl _) _
      go_wp2_with fail
      refine (may_any k1.a k1.l _ _ (Kd.rep ((HOK.out.1.below hbw3).below hal))).mono ?_
      rintro e w4 ⟨rfl, ho4⟩
      rw [HOK.out.2]
      obtain ⟨y0, y1, y2, y3, y4⟩ : Box4 w4 w3.heap.size (.int .i64 k1.a.kind) (.int .i64 k1.a.n) (.string k1.a.s) (.slice k1.A (flen k1.l) k1.cap) := (Box4.new w3 _ _ _ _ _).below ho4
      have hb4 : Below w1.heap.size w1 w4 := hb3.trans ((hal.trans (ho4.mono (by simp))).mono hb3.size)
      clear b0 b1 b2 b3 r0 r1 r2 r3 g0 g1 g2 g3 hq
      obtain ⟨⟨b0, b1, b2, b3⟩, ⟨r0, r1, r2, r3⟩, g0, g1, g2, g3⟩ := HBX.out.below (by omega) hb4
      have hq : w.heap.size + 1 < w4.heap.size := by have := hb4.size; omega
      have hbw4 : Below w.heap.size w w4 := hb1.trans (hb4.mono (by omega))
      have HFIN : Hid (k1.Ok w4 (fun b => b < w4.heap.size ∧ b ≠ w.heap.size + 1)) := ok_apart HOK.out.1 hbw4 _ (by omega)
      go_wp2_with fail
      refine bodyPost_ret (v := .tuple #[k1.val, .int .i64 0]) (by simp [results, Tryd.results39, go_sem, r0, r1, r2, r3]) rfl ?_
      exact ⟨(by repeat (first | exact Below.refl _ _ | assumption | refine below_drewN ?_ _ | refine Below.drew ?_ | refine Below.alloc ?_ (by simp <;> omega) _ | refine Below.setCell ?_ (by simp <;> omega) _)), .inr ⟨k1, HST.out, rfl, ok_set4 HFIN.out _ _ _ _, HOK.out.2⟩⟩
    · have HST : Hid (stepP us (tms js) m = .error 3) := by show stepP _ _ _ = _; rw [HS1.out]; unfold openP; rw [if_neg hkd]; rfl
      have HAP : Hid (Calls Tryd.prog 72 #[.agg #[.int .i64 kk, .int .i64 0], .slice (some ⟨g, 0, none⟩) 1 c] w2 fun e w' => e = .returned (.tuple #[zeroT, .bool false]) ∧ Below w2.heap.size w2 w') := applyOpenNo kk 0 k [] g 1 c w2 HROW.out (by decide) hkd
      clear hin hin1 hat hmem hrow hrow' hok hmk hc hkd
      go_wp2_with fail
      refine Calls.mono HAP.out ?_
      rintro e w3 ⟨rfl, ho3⟩
      have hb3 : Below w1.heap.size w1 w3 := hb2.trans (ho3.mono hb2.size)
      clear b0 b1 b2 b3 r0 r1 r2 r3 g0 g1 g2 g3 hq
      obtain ⟨⟨b0, b1, b2, b3⟩, ⟨r0, r1, r2, r3⟩, g0, g1, g2, g3⟩ := HBX.out.below (by omega) hb3
      have hq : w.heap.size + 1 < w3.heap.size := by have := hb3.size; omega
      have hbw4 : Below w.heap.size w w3 := hb1.trans (hb3.mono (by omega))
      go_wp2_with fail
      refine bodyPost_ret (v := .tuple #[zeroT, .int .i64 3]) (by simp [results, Tryd.results39, go_sem, r0, r1, r2, r3, hq]) rfl ?_
      exact ⟨(by repeat (first | exact Below.refl _ _ | assumption | refine below_drewN ?_ _ | refine Below.drew ?_ | refine Below.alloc ?_ (by simp <;> omega) _ | refine Below.setCell ?_ (by simp <;> omega) _)), .inl ⟨3, HST.out, by decide, rfl⟩⟩
  · simp only [List.mem_singleton] at hx
    subst hx
    have HST : Hid (stepP us (tms js) m = .error 8) := by show stepP _ _ _ = _; rw [HP.out, atL_out hno]; rfl
    clear hno
    clear b0 b1 b2 b3 r0 r1 r2 r3 g0 g1 g2 g3 hq
    obtain ⟨⟨b0, b1, b2, b3⟩, ⟨r0, r1, r2, r3⟩, g0, g1, g2, g3⟩ := HBX.out.below (by omega) hb2
    have hq : w.heap.size + 1 < w2.heap.size := by have := Below.size hb2; omega
    have hbw4 : Below w.heap.size w w2 := hb1.trans (hb2.mono (by omega))
    go_wp2_with fail
    refine bodyPost_ret (v := .tuple #[zeroT, .int .i64 8]) (by simp [results, Tryd.results39, go_sem, r0, r1, r2, r3, hq]) rfl ?_
    exact ⟨(by repeat (first | exact Below.refl _ _ | assumption | refine below_drewN ?_ _ | refine Below.drew ?_ | refine Below.alloc ?_ (by simp <;> omega) _ | refine Below.setCell ?_ (by simp <;> omega) _)), .inl ⟨8, HST.out, by decide, rfl⟩⟩

set_option maxRecDepth 100000 in
set_option maxHeartbeats 2000000 in
theorem result_open1 (kk : Int) (m : Mv) (js : List Kd) (us : List (Nd × Fo)) (lv rv : Value) (w : World) (h : SlT w rv js) (hl : js.length ≤ 2000) (hm : ∀ k ∈ js, may k.a k.l = true) (hkk : kk = 6 ∨ kk = 7) (hr : ruleV m = .iface 102 (.agg #[.int .i64 kk, .int .i64 1])) (hp : stepP us (tms js) m = mayP (onP (atL (tms js) m.a) (openP kk 1))) :
    Calls Tryd.prog 39 #[lv, rv, m.val] w fun e w' => ResEnd w us (tms js) m e w' := by
  have HR : Hid (ruleV m = .iface 102 (.agg #[.int .i64 kk, .int .i64 1])) := hr
  have HP : Hid (stepP us (tms js) m = mayP (onP (atL (tms js) m.a) (openP kk 1))) := hp
  have HSL : Hid (SlT w rv js) := h
  have HM : Hid (∀ k ∈ js, may k.a k.l = true) := hm
  have HKK : Hid (kk = 6 ∨ kk = 7) := hkk
  have hmeth := meth_opening kk 1
  clear h hm hr hp hkk
  go_enter Tryd.func39, Tryd.ntmps39
  go_wp2_with fail
  refine (ruleOf_any m _).mono ?_
  rintro e w1 ⟨rfl, ho1⟩
  rw [HR.out]
  have hs1 : w.heap.size + 1 + 1 ≤ w1.heap.size := by have := ho1.size; simpa using this
  have HBX : Hid (ResBox w w1 m) := (ResBox.new w m).below (by simp) ho1
  have hb1 : Below w.heap.size w w1 := (show Below w.heap.size w _ from (by repeat (first | exact Below.refl _ _ | assumption | refine below_drewN ?_ _ | refine Below.drew ?_ | refine Below.alloc ?_ (by simp <;> omega) _ | refine Below.setCell ?_ (by simp <;> omega) _))).trans (ho1.mono (by simp; omega))
  clear ho1
  obtain ⟨⟨b0, b1, b2, b3⟩, ⟨r0, r1, r2, r3⟩, g0, g1, g2, g3⟩ := HBX.out
  have hq : w.heap.size + 1 < w1.heap.size := by omega
  go_wp2_with fail
  refine (pointedOpen kk 1 m js lv rv w1 (HSL.out.below hb1) hl).mono ?_
  rintro e w2 ⟨hb2, ⟨hin, g, c, rfl, hg, hc, hrow⟩ | ⟨⟨x, hx, hno⟩, rfl⟩⟩
  · have hin1 : inR js.length m.a := hin _ (by simp)
    have hat := atL_in hin1
    have hmem := getD_mem (ks := js) (i := m.a.toNat) (by have h1 := hin1.1; have h2 := hin1.2; omega)
    have hrow' : RowT w2 g [js.getD m.a.toNat kd0] := hrow
    have hok := (HSL.out.oks _ hmem).1
    have hmk := HM.out _ hmem
    generalize js.getD m.a.toNat kd0 = k at *
    have HROW : Hid (RowT w2 g [k]) := hrow'
    have HS1 : Hid (stepP us (tms js) m = mayP (openP kk 1 (k.a, k.l))) := by show stepP _ _ _ = _; rw [HP.out, hat]; rfl
    have hbw2 : Below w.heap.size w w2 := hb1.trans (hb2.mono (by omega))
    clear b0 b1 b2 b3 r0 r1 r2 r3 g0 g1 g2 g3 hq
    obtain ⟨⟨b0, b1, b2, b3⟩, ⟨r0, r1, r2, r3⟩, g0, g1, g2, g3⟩ := HBX.out.below (by omega) hb2
    have hq : w.heap.size + 1 < w2.heap.size := by have := Below.size hb2; omega
    simp only [List.length_cons, List.length_nil, Nat.zero_add]
    by_cases hkd : k.a.kind = kk
    · have hfl : flen k.l = 2 := by have := (may_ar _ _ hmk).1; rw [hkd] at this; rcases HKK.out with h | h <;> rw [h] at this <;> simp [kidsOf] at this <;> omega
      obtain ⟨k1, k2, hkids, hk1, hk2, hkA, hkb, _, hcs1, hcs2⟩ := two_kids hok hfl
      have hmj : may k2.a k2.l = true := by have := amay_mem (may_amay hmk); rw [hkids] at this; exact this (k2.a, k2.l) (by simp)
      have HOK : Hid (k2.Ok w (fun b => b < w.heap.size) ∧ may k2.a k2.l = true) := ⟨hk2, hmj⟩
      have HST : Hid (stepP us (tms js) m = .ok (k2.a, k2.l)) := by show stepP _ _ _ = _; rw [HS1.out]; unfold openP; rw [if_pos hkd]; simp only [hkids]; unfold mayP; simp [hmj]
      have hcl : ∀ j, w2.cell? ⟨k.b, j, none⟩ = w.cell? ⟨k.b, j, none⟩ := fun j => hbw2.cell (by simpa using hkb)
      have HAP : Hid (Calls Tryd.prog 72 #[.agg #[.int .i64 kk, .int .i64 1], .slice (some ⟨g, 0, none⟩) 1 c] w2 fun e w' => e = .returned (.tuple #[k2.val, .bool true]) ∧ Below w2.heap.size w2 w') :=
        applyOpen1 kk k k2 [] g 1 c w2 HROW.out (by decide) hkd hfl hkA (by have := hbw2.size; omega) (by unfold CellsK; rw [hcl, hcl, hcl, hcl]; exact hcs2)
      clear hin hin1 hat hmem hrow hrow' hok hmk hc hkd hfl hkids hk1 hk2 hkA hkb hcs1 hcs2 hmj hcl
      go_wp2_with fail
      refine Calls.mono HAP.out ?_
      rintro e w3 ⟨rfl, ho3⟩
      have hb3 : Below w1.heap.size w1 w3 := hb2.trans (ho3.mono hb2.size)
      clear b0 b1 b2 b3 r0 r1 r2 r3 g0 g1 g2 g3 hq
      obtain ⟨⟨b0, b1, b2, b3⟩, ⟨r0, r1, r2, r3⟩, g0, g1, g2, g3⟩ := HBX.out.below (by omega) hb3
      have hq : w.heap.size + 1 < w3.heap.size := by have := hb3.size; omega
      have hbw3 : Below w.heap.size w w3 := hb1.trans (hb3.mono (by omega))
      have hal : Below w3.heap.size w3 (w3.alloc (.cells #[.int .i64 k2.a.kind, .int .i64 k2.a.n, .string k2.a.s, .slice k2.A (flen k2.l) k2.cap] 29)) := Below.alloc (Below.refl _ _) (Nat.le_refl _) _
      go_wp2_with fail
      refine (may_any k2.a k2.l _ _ (Kd.rep ((HOK.out.1.below hbw3).below hal))).mono ?_
      rintro e w4 ⟨rfl, ho4⟩
      rw [HOK.out.2]
      obtain ⟨y0, y1, y2, y3, y4⟩ : Box4 w4 w3.heap.size (.int .i64 k2.a.kind) (.int .i64 k2.a.n) (.string k2.a.s) (.slice k2.A (flen k2.l) k2.cap) := (Box4.new w3 _ _ _ _ _).below ho4
      have hb4 : Below w1.heap.size w1 w4 := hb3.trans ((hal.trans (ho4.mono (by simp))).mono hb3.size)
      clear b0 b1 b2 b3 r0 r1 r2 r3 g0 g1 g2 g3 hq
      obtain ⟨⟨b0, b1, b2, b3⟩, ⟨r0, r1, r2, r3⟩, g0, g1, g2, g3⟩ := HBX.out.below (by omega) hb4
      have hq : w.heap.size + 1 < w4.heap.size := by have := hb4.size; omega
      have hbw4 : Below w.heap.size w w4 := hb1.trans (hb4.mono (by omega))
      have HFIN : Hid (k2.Ok w4 (fun b => b < w4.heap.size ∧ b ≠ w.heap.size + 1)) := ok_apart HOK.out.1 hbw4 _ (by omega)
      go_wp2_with fail
      refine bodyPost_ret (v := .tuple #[k2.val, .int .i64 0]) (by simp [results, Tryd.results39, go_sem, r0, r1, r2, r3]) rfl ?_
      exact ⟨(by repeat (first | exact Below.refl _ _ | assumption | refine below_drewN ?_ _ | refine Below.drew ?_ | refine Below.alloc ?_ (by simp <;> omega) _ | refine Below.setCell ?_ (by simp <;> omega) _)), .inr ⟨k2, HST.out, rfl, ok_set4 HFIN.out _ _ _ _, HOK.out.2⟩⟩
    · have HST : Hid (stepP us (tms js) m = .error 3) := by show stepP _ _ _ = _; rw [HS1.out]; unfold openP; rw [if_neg hkd]; rfl
      have HAP : Hid (Calls Tryd.prog 72 #[.agg #[.int .i64 kk, .int .i64 1], .slice (some ⟨g, 0, none⟩) 1 c] w2 fun e w' => e = .returned (.tuple #[zeroT, .bool false]) ∧ Below w2.heap.size w2 w') := applyOpenNo kk 1 k [] g 1 c w2 HROW.out (by decide) hkd
      clear hin hin1 hat hmem hrow hrow' hok hmk hc hkd
      go_wp2_with fail
      refine Calls.mono HAP.out ?_
      rintro e w3 ⟨rfl, ho3⟩
      have hb3 : Below w1.heap.size w1 w3 := hb2.trans (ho3.mono hb2.size)
      clear b0 b1 b2 b3 r0 r1 r2 r3 g0 g1 g2 g3 hq
      obtain ⟨⟨b0, b1, b2, b3⟩, ⟨r0, r1, r2, r3⟩, g0, g1, g2, g3⟩ := HBX.out.below (by omega) hb3
      have hq : w.heap.size + 1 < w3.heap.size := by have := hb3.size; omega
      have hbw4 : Below w.heap.size w w3 := hb1.trans (hb3.mono (by omega))
      go_wp2_with fail
      refine bodyPost_ret (v := .tuple #[zeroT, .int .i64 3]) (by simp [results, Tryd.results39, go_sem, r0, r1, r2, r3, hq]) rfl ?_
      exact ⟨(by repeat (first | exact Below.refl _ _ | assumption | refine below_drewN ?_ _ | refine Below.drew ?_ | refine Below.alloc ?_ (by simp <;> omega) _ | refine Below.setCell ?_ (by simp <;> omega) _)), .inl ⟨3, HST.out, by decide, rfl⟩⟩
  · simp only [List.mem_singleton] at hx
    subst hx
    have HST : Hid (stepP us (tms js) m = .error 8) := by show stepP _ _ _ = _; rw [HP.out, atL_out hno]; rfl
    clear hno
    clear b0 b1 b2 b3 r0 r1 r2 r3 g0 g1 g2 g3 hq
    obtain ⟨⟨b0, b1, b2, b3⟩, ⟨r0, r1, r2, r3⟩, g0, g1, g2, g3⟩ := HBX.out.below (by omega) hb2
    have hq : w.heap.size + 1 < w2.heap.size := by have := Below.size hb2; omega
    have hbw4 : Below w.heap.size w w2 := hb1.trans (hb2.mono (by omega))
    go_wp2_with fail
    refine bodyPost_ret (v := .tuple #[zeroT, .int .i64 8]) (by simp [results, Tryd.results39, go_sem, r0, r1, r2, r3, hq]) rfl ?_
    exact ⟨(by repeat (first | exact Below.refl _ _ | assumption | refine below_drewN ?_ _ | refine Below.drew ?_ | refine Below.alloc ?_ (by simp <;> omega) _ | refine Below.setCell ?_ (by simp <;> omega) _)), .inl ⟨8, HST.out, by decide, rfl⟩⟩

end Go.Proofs.YtldpnhlifgkmiaaDoor
