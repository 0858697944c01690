import Derived.Test.YtanpplgmdemlaaaGreatDoorVB
namespace Go.Proofs.YtanpplgmdemlaaaGreatDoor
open Go.RowKit
set_option linter.unusedVariables false
set_option linter.unusedSimpArgs false

set_option maxRecDepth 100000 in
set_option maxHeartbeats 2000000 in
theorem result_build1 (kk : Int) (m : Mv) (js : List Kd) (us : List (Nd × Fo)) (lv rv : Value) (w : World) (h : SlT w rv js) (hl : js.length ≤ 2000) (hxy : ∀ k ∈ js, k.x = 0 ∧ k.y = 0) (hkk : 0 ≤ kk ∧ kk ≤ 10) (hr : ruleV m = .iface 106 (.agg #[.int .i64 kk, .int .i64 1])) (hp : stepP us (tms js) m = mayP (onP (atL (tms js) m.a) fun t => .ok (⟨kk, 0, ⟨#[]⟩⟩, .node 0 0 t.1 t.2 .nil))) :
    Calls Tryz.prog 27 #[lv, rv, m.val] w fun e w' => ResEnd w us (tms js) m e w' := by
  have HR : Hid (ruleV m = .iface 106 (.agg #[.int .i64 kk, .int .i64 1])) := hr
  have HP : Hid (stepP us (tms js) m = mayP (onP (atL (tms js) m.a) fun t => .ok (⟨kk, 0, ⟨#[]⟩⟩, .node 0 0 t.1 t.2 .nil))) := hp
  have HSL : Hid (SlT w rv js) := h
  have HXY : Hid (∀ k ∈ js, k.x = 0 ∧ k.y = 0) := hxy
  have HKK : Hid (0 ≤ kk ∧ kk ≤ 10) := hkk
  have hmeth := meth_building kk 1
  clear h hr hp hxy hkk
  go_enter Tryz.func27, Tryz.ntmps27
  go_wp2_with fail
  refine (ruleOf_any m _).mono ?_
  rintro e w1 ⟨rfl, ho1⟩
  rw [HR.out]
  have hs1 : w.heap.size + 1 + 1 ≤ w1.heap.size := by have := ho1.size; simpa using this
  have HBX : Hid (ResBox w w1 m) := (ResBox.new w m).below (by simp) ho1
  have hb1 : Below w.heap.size w w1 := (show Below w.heap.size w _ from (by repeat (first | exact Below.refl _ _ | assumption | refine below_drewN ?_ _ | refine Below.drew ?_ | refine Below.alloc ?_ (by simp <;> omega) _ | refine Below.setCell ?_ (by simp <;> omega) _))).trans (ho1.mono (by simp; omega))
  clear ho1
  obtain ⟨⟨b0, b1, b2, b3⟩, ⟨r0, r1, r2, r3⟩, g0, g1, g2, g3⟩ := HBX.out
  have hq : w.heap.size + 1 < w1.heap.size := by omega
  go_wp2_with fail
  refine (pointedBuild1 kk m js lv rv w1 (HSL.out.below hb1) hl).mono ?_
  rintro e w2 ⟨hb2, ⟨hin, g, c, rfl, hg, hc, hrow⟩ | ⟨hno, rfl⟩⟩
  · have hbw2 : Below w.heap.size w w2 := hb1.trans (hb2.mono (by omega))
    have hin1 : inR js.length m.a := hin _ (by simp)
    have hat := atL_in hin1
    have hmem := getD_mem (ks := js) (i := m.a.toNat) (by have h1 := hin1.1; have h2 := hin1.2; omega)
    have hok := (HSL.out.oks _ hmem).1
    have hxk := HXY.out _ hmem
    have hrow' : RowT w2 g [js.getD m.a.toNat kd0] := hrow
    clear hmem hrow
    generalize js.getD m.a.toNat kd0 = k at *
    have HS1 : Hid (stepP us (tms js) m = mayP (.ok (⟨kk, 0, ⟨#[]⟩⟩, .node 0 0 k.a k.l .nil))) := by show stepP _ _ _ = _; rw [HP.out, hat]; rfl
    have hrep : RepG w2 (fun b => b < w2.heap.size ∧ b ≠ w.heap.size + 1) (.node 0 0 k.a k.l .nil) g 0 := by
      have := rep_of_row (w := w2) (S := fun b => b < w2.heap.size ∧ b ≠ w.heap.size + 1) (g := g) ⟨hrow'.1, by omega⟩ [k] 0 (fun q hq => by simp only [List.mem_singleton] at hq; rw [hq]; exact ok_apart hok hbw2 _ (by omega)) (fun t ht => by rw [Nat.zero_add]; exact hrow'.2.1 t ht)
      rwa [show foOf [k] .nil = .node 0 0 k.a k.l .nil from by simp [foOf, hxk.1, hxk.2]] at this
    have HKD : Hid ((⟨0, 0, ⟨kk, 0, ⟨#[]⟩⟩, .node 0 0 k.a k.l .nil, some ⟨g, 0, none⟩, c, g, 0⟩ : Kd).Ok w2 (fun b => b < w2.heap.size ∧ b ≠ w.heap.size + 1)) := by
      have hkk := HKK.out
      exact ⟨⟨by simp; omega, by simp; omega, by simp, by simp, (by show (⟨#[]⟩ : ByteArray).size ≤ maxLen; decide)⟩, by simp [flen] at hc ⊢; omega, .inr rfl, hrep⟩
    clear hin hin1 hat hrow' hok hc hxk hrep
    clear b0 b1 b2 b3 r0 r1 r2 r3 g0 g1 g2 g3 hq
    obtain ⟨⟨b0, b1, b2, b3⟩, ⟨r0, r1, r2, r3⟩, g0, g1, g2, g3⟩ := HBX.out.below (by omega) hb2
    have hq : w.heap.size + 1 < w2.heap.size := by have := Below.size hb2; omega
    simp only [List.length_cons, List.length_nil, Nat.zero_add, Nat.reduceAdd]
    go_wp2_with fail
    refine (applyBuild kk 1 (some ⟨g, 0, none⟩) 1 c w2).mono ?_
    rintro e w3 ⟨rfl, ho3⟩
    have hb3 : Below w1.heap.size w1 w3 := hb2.trans (ho3.mono hb2.size)
    clear b0 b1 b2 b3 r0 r1 r2 r3 g0 g1 g2 g3 hq
    obtain ⟨⟨b0, b1, b2, b3⟩, ⟨r0, r1, r2, r3⟩, g0, g1, g2, g3⟩ := HBX.out.below (by omega) hb3
    have hq : w.heap.size + 1 < w3.heap.size := by have := Below.size hb3; omega
    have hal : Below w3.heap.size w3 (w3.alloc (.cells #[.int .i64 kk, .int .i64 0, .string ⟨#[]⟩, .slice (some ⟨g, 0, none⟩) 1 c] 27)) := Below.alloc (Below.refl _ _) (Nat.le_refl _) _
    go_wp2_with fail
    refine (may_any ⟨kk, 0, ⟨#[]⟩⟩ (.node 0 0 k.a k.l .nil) _ _ (Kd.rep (ok_all (ok_on (ok_on HKD.out ho3) hal)))).mono ?_
    rintro e w4 ⟨rfl, ho4⟩
    obtain ⟨y0, y1, y2, y3, y4⟩ : Box4 w4 w3.heap.size (.int .i64 kk) (.int .i64 0) (.string ⟨#[]⟩) (.slice (some ⟨g, 0, none⟩) 1 c) := (Box4.new w3 _ _ _ _ _).below ho4
    have hb4 : Below w1.heap.size w1 w4 := hb3.trans ((hal.trans (ho4.mono (by simp))).mono hb3.size)
    have HFIN : Hid ((⟨0, 0, ⟨kk, 0, ⟨#[]⟩⟩, .node 0 0 k.a k.l .nil, some ⟨g, 0, none⟩, c, g, 0⟩ : Kd).Ok w4 (fun b => b < w4.heap.size ∧ b ≠ w.heap.size + 1)) := ok_on (ok_on (ok_on HKD.out ho3) hal) ho4
    clear b0 b1 b2 b3 r0 r1 r2 r3 g0 g1 g2 g3 hq
    obtain ⟨⟨b0, b1, b2, b3⟩, ⟨r0, r1, r2, r3⟩, g0, g1, g2, g3⟩ := HBX.out.below (by omega) hb4
    have hq : w.heap.size + 1 < w4.heap.size := by have := Below.size hb4; omega
    have hbw4 : Below w.heap.size w w4 := hb1.trans (hb4.mono (by omega))
    obtain ⟨mb, hmb⟩ : ∃ mb : Bool, may ⟨kk, 0, ⟨#[]⟩⟩ (.node 0 0 k.a k.l .nil) = mb := ⟨_, rfl⟩
    rw [hmb]
    have HMB : Hid (may ⟨kk, 0, ⟨#[]⟩⟩ (.node 0 0 k.a k.l .nil) = mb) := hmb
    clear hmb
    cases mb with
    | true =>
      have HST : Hid (stepP us (tms js) m = .ok (⟨kk, 0, ⟨#[]⟩⟩, .node 0 0 k.a k.l .nil)) := by show stepP _ _ _ = _; rw [HS1.out]; unfold mayP; simp [HMB.out]
      go_wp2_with fail
      refine bodyPost_ret (v := .tuple #[.agg #[.int .i64 kk, .int .i64 0, .string ⟨#[]⟩, .slice (some ⟨g, 0, none⟩) 1 c], .int .i64 0]) (by simp [results, Tryz.results27, go_sem, r0, r1, r2, r3, hq]) rfl ?_
      exact ⟨(by repeat (first | exact Below.refl _ _ | assumption | refine below_drewN ?_ _ | refine Below.drew ?_ | refine Below.alloc ?_ (by simp <;> omega) _ | refine Below.setCell ?_ (by simp <;> omega) _)), .inr ⟨⟨0, 0, ⟨kk, 0, ⟨#[]⟩⟩, .node 0 0 k.a k.l .nil, some ⟨g, 0, none⟩, c, g, 0⟩, HST.out, rfl, ok_set4 HFIN.out _ _ _ _, HMB.out⟩⟩
    | false =>
      have HST : Hid (stepP us (tms js) m = .error 3) := by show stepP _ _ _ = _; rw [HS1.out]; unfold mayP; simp [HMB.out]
      go_wp2_with fail
      refine bodyPost_ret (v := .tuple #[zeroT, .int .i64 3]) (by simp [results, Tryz.results27, go_sem, r0, r1, r2, r3, hq]) rfl ?_
      exact ⟨(by repeat (first | exact Below.refl _ _ | assumption | refine below_drewN ?_ _ | refine Below.drew ?_ | refine Below.alloc ?_ (by simp <;> omega) _ | refine Below.setCell ?_ (by simp <;> omega) _)), .inl ⟨3, HST.out, by decide, rfl⟩⟩
  · obtain ⟨x, hx, hno⟩ := hno
    simp only [List.mem_singleton] at hx
    subst hx
    have HST : Hid (stepP us (tms js) m = .error 8) := by show stepP _ _ _ = _; rw [HP.out, atL_out hno]; rfl
    clear hno
    clear b0 b1 b2 b3 r0 r1 r2 r3 g0 g1 g2 g3 hq
    obtain ⟨⟨b0, b1, b2, b3⟩, ⟨r0, r1, r2, r3⟩, g0, g1, g2, g3⟩ := HBX.out.below (by omega) hb2
    have hq : w.heap.size + 1 < w2.heap.size := by have := Below.size hb2; omega
    have hbw4 : Below w.heap.size w w2 := hb1.trans (hb2.mono (by omega))
    go_wp2_with fail
    refine bodyPost_ret (v := .tuple #[zeroT, .int .i64 8]) (by simp [results, Tryz.results27, go_sem, r0, r1, r2, r3, hq]) rfl ?_
    exact ⟨(by repeat (first | exact Below.refl _ _ | assumption | refine below_drewN ?_ _ | refine Below.drew ?_ | refine Below.alloc ?_ (by simp <;> omega) _ | refine Below.setCell ?_ (by simp <;> omega) _)), .inl ⟨8, HST.out, by decide, rfl⟩⟩

set_option maxRecDepth 100000 in
set_option maxHeartbeats 2000000 in
theorem result_build2 (kk : Int) (m : Mv) (js : List Kd) (us : List (Nd × Fo)) (lv rv : Value) (w : World) (h : SlT w rv js) (hl : js.length ≤ 2000) (hxy : ∀ k ∈ js, k.x = 0 ∧ k.y = 0) (hkk : 0 ≤ kk ∧ kk ≤ 10) (hr : ruleV m = .iface 106 (.agg #[.int .i64 kk, .int .i64 2])) (hp : stepP us (tms js) m = mayP (onP (atL (tms js) m.a) fun t => onP (atL (tms js) m.b) fun u => .ok (⟨kk, 0, ⟨#[]⟩⟩, .node 0 0 t.1 t.2 (.node 0 0 u.1 u.2 .nil)))) :
    Calls Tryz.prog 27 #[lv, rv, m.val] w fun e w' => ResEnd w us (tms js) m e w' := by
  have HR : Hid (ruleV m = .iface 106 (.agg #[.int .i64 kk, .int .i64 2])) := hr
  have HP : Hid (stepP us (tms js) m = mayP (onP (atL (tms js) m.a) fun t => onP (atL (tms js) m.b) fun u => .ok (⟨kk, 0, ⟨#[]⟩⟩, .node 0 0 t.1 t.2 (.node 0 0 u.1 u.2 .nil)))) := hp
  have HSL : Hid (SlT w rv js) := h
  have HXY : Hid (∀ k ∈ js, k.x = 0 ∧ k.y = 0) := hxy
  have HKK : Hid (0 ≤ kk ∧ kk ≤ 10) := hkk
  have hmeth := meth_building kk 2
  clear h hr hp hxy hkk
  go_enter Tryz.func27, Tryz.ntmps27
  go_wp2_with fail
  refine (ruleOf_any m _).mono ?_
  rintro e w1 ⟨rfl, ho1⟩
  rw [HR.out]
  have hs1 : w.heap.size + 1 + 1 ≤ w1.heap.size := by have := ho1.size; simpa using this
  have HBX : Hid (ResBox w w1 m) := (ResBox.new w m).below (by simp) ho1
  have hb1 : Below w.heap.size w w1 := (show Below w.heap.size w _ from (by repeat (first | exact Below.refl _ _ | assumption | refine below_drewN ?_ _ | refine Below.drew ?_ | refine Below.alloc ?_ (by simp <;> omega) _ | refine Below.setCell ?_ (by simp <;> omega) _))).trans (ho1.mono (by simp; omega))
  clear ho1
  obtain ⟨⟨b0, b1, b2, b3⟩, ⟨r0, r1, r2, r3⟩, g0, g1, g2, g3⟩ := HBX.out
  have hq : w.heap.size + 1 < w1.heap.size := by omega
  go_wp2_with fail
  refine (pointedBuild2 kk m js lv rv w1 (HSL.out.below hb1) hl).mono ?_
  rintro e w2 ⟨hb2, ⟨hin, g, c, rfl, hg, hc, hrow⟩ | ⟨hno, rfl⟩⟩
  · have hbw2 : Below w.heap.size w w2 := hb1.trans (hb2.mono (by omega))
    have hin1 : inR js.length m.a := hin _ (by simp)
    have hat := atL_in hin1
    have hmem := getD_mem (ks := js) (i := m.a.toNat) (by have h1 := hin1.1; have h2 := hin1.2; omega)
    have hok := (HSL.out.oks _ hmem).1
    have hxk := HXY.out _ hmem
    have hin2 : inR js.length m.b := hin _ (by simp)
    have hat2 := atL_in hin2
    have hmem2 := getD_mem (ks := js) (i := m.b.toNat) (by have h1 := hin2.1; have h2 := hin2.2; omega)
    have hok2 := (HSL.out.oks _ hmem2).1
    have hxj := HXY.out _ hmem2
    have hrow' : RowT w2 g [js.getD m.a.toNat kd0, js.getD m.b.toNat kd0] := hrow
    clear hmem hmem2 hrow
    generalize js.getD m.a.toNat kd0 = k at *
    generalize js.getD m.b.toNat kd0 = j at *
    have HS1 : Hid (stepP us (tms js) m = mayP (.ok (⟨kk, 0, ⟨#[]⟩⟩, .node 0 0 k.a k.l (.node 0 0 j.a j.l .nil)))) := by show stepP _ _ _ = _; rw [HP.out, hat, hat2]; rfl
    have hrep : RepG w2 (fun b => b < w2.heap.size ∧ b ≠ w.heap.size + 1) (.node 0 0 k.a k.l (.node 0 0 j.a j.l .nil)) g 0 := by
      have := rep_of_row (w := w2) (S := fun b => b < w2.heap.size ∧ b ≠ w.heap.size + 1) (g := g) ⟨hrow'.1, by omega⟩ [k, j] 0 (fun q hq => by simp only [List.mem_cons, List.not_mem_nil, or_false] at hq; rcases hq with hq | hq <;> rw [hq]; exact ok_apart hok hbw2 _ (by omega); exact ok_apart hok2 hbw2 _ (by omega)) (fun t ht => by rw [Nat.zero_add]; exact hrow'.2.1 t ht)
      rwa [show foOf [k, j] .nil = .node 0 0 k.a k.l (.node 0 0 j.a j.l .nil) from by simp [foOf, hxk.1, hxk.2, hxj.1, hxj.2]] at this
    have HKD : Hid ((⟨0, 0, ⟨kk, 0, ⟨#[]⟩⟩, .node 0 0 k.a k.l (.node 0 0 j.a j.l .nil), some ⟨g, 0, none⟩, c, g, 0⟩ : Kd).Ok w2 (fun b => b < w2.heap.size ∧ b ≠ w.heap.size + 1)) := by
      have hkk := HKK.out
      exact ⟨⟨by simp; omega, by simp; omega, by simp, by simp, (by show (⟨#[]⟩ : ByteArray).size ≤ maxLen; decide)⟩, by simp [flen] at hc ⊢; omega, .inr rfl, hrep⟩
    clear hin hin1 hat hrow' hok hc hxk hrep hin2 hat2 hok2 hxj
    clear b0 b1 b2 b3 r0 r1 r2 r3 g0 g1 g2 g3 hq
    obtain ⟨⟨b0, b1, b2, b3⟩, ⟨r0, r1, r2, r3⟩, g0, g1, g2, g3⟩ := HBX.out.below (by omega) hb2
    have hq : w.heap.size + 1 < w2.heap.size := by have := Below.size hb2; omega
    simp only [List.length_cons, List.length_nil, Nat.zero_add, Nat.reduceAdd]
    go_wp2_with fail
    refine (applyBuild kk 2 (some ⟨g, 0, none⟩) 2 c w2).mono ?_
    rintro e w3 ⟨rfl, ho3⟩
    have hb3 : Below w1.heap.size w1 w3 := hb2.trans (ho3.mono hb2.size)
    clear b0 b1 b2 b3 r0 r1 r2 r3 g0 g1 g2 g3 hq
    obtain ⟨⟨b0, b1, b2, b3⟩, ⟨r0, r1, r2, r3⟩, g0, g1, g2, g3⟩ := HBX.out.below (by omega) hb3
    have hq : w.heap.size + 1 < w3.heap.size := by have := Below.size hb3; omega
    have hal : Below w3.heap.size w3 (w3.alloc (.cells #[.int .i64 kk, .int .i64 0, .string ⟨#[]⟩, .slice (some ⟨g, 0, none⟩) 2 c] 27)) := Below.alloc (Below.refl _ _) (Nat.le_refl _) _
    go_wp2_with fail
    refine (may_any ⟨kk, 0, ⟨#[]⟩⟩ (.node 0 0 k.a k.l (.node 0 0 j.a j.l .nil)) _ _ (Kd.rep (ok_all (ok_on (ok_on HKD.out ho3) hal)))).mono ?_
    rintro e w4 ⟨rfl, ho4⟩
    obtain ⟨y0, y1, y2, y3, y4⟩ : Box4 w4 w3.heap.size (.int .i64 kk) (.int .i64 0) (.string ⟨#[]⟩) (.slice (some ⟨g, 0, none⟩) 2 c) := (Box4.new w3 _ _ _ _ _).below ho4
    have hb4 : Below w1.heap.size w1 w4 := hb3.trans ((hal.trans (ho4.mono (by simp))).mono hb3.size)
    have HFIN : Hid ((⟨0, 0, ⟨kk, 0, ⟨#[]⟩⟩, .node 0 0 k.a k.l (.node 0 0 j.a j.l .nil), some ⟨g, 0, none⟩, c, g, 0⟩ : Kd).Ok w4 (fun b => b < w4.heap.size ∧ b ≠ w.heap.size + 1)) := ok_on (ok_on (ok_on HKD.out ho3) hal) ho4
    clear b0 b1 b2 b3 r0 r1 r2 r3 g0 g1 g2 g3 hq
    obtain ⟨⟨b0, b1, b2, b3⟩, ⟨r0, r1, r2, r3⟩, g0, g1, g2, g3⟩ := HBX.out.below (by omega) hb4
    have hq : w.heap.size + 1 < w4.heap.size := by have := Below.size hb4; omega
    have hbw4 : Below w.heap.size w w4 := hb1.trans (hb4.mono (by omega))
    obtain ⟨mb, hmb⟩ : ∃ mb : Bool, may ⟨kk, 0, ⟨#[]⟩⟩ (.node 0 0 k.a k.l (.node 0 0 j.a j.l .nil)) = mb := ⟨_, rfl⟩
    rw [hmb]
    have HMB : Hid (may ⟨kk, 0, ⟨#[]⟩⟩ (.node 0 0 k.a k.l (.node 0 0 j.a j.l .nil)) = mb) := hmb
    clear hmb
    cases mb with
    | true =>
      have HST : Hid (stepP us (tms js) m = .ok (⟨kk, 0, ⟨#[]⟩⟩, .node 0 0 k.a k.l (.node 0 0 j.a j.l .nil))) := by show stepP _ _ _ = _; rw [HS1.out]; unfold mayP; simp [HMB.out]
      go_wp2_with fail
      refine bodyPost_ret (v := .tuple #[.agg #[.int .i64 kk, .int .i64 0, .string ⟨#[]⟩, .slice (some ⟨g, 0, none⟩) 2 c], .int .i64 0]) (by simp [results, Tryz.results27, go_sem, r0, r1, r2, r3, hq]) rfl ?_
      exact ⟨(by repeat (first | exact Below.refl _ _ | assumption | refine below_drewN ?_ _ | refine Below.drew ?_ | refine Below.alloc ?_ (by simp <;> omega) _ | refine Below.setCell ?_ (by simp <;> omega) _)), .inr ⟨⟨0, 0, ⟨kk, 0, ⟨#[]⟩⟩, .node 0 0 k.a k.l (.node 0 0 j.a j.l .nil), some ⟨g, 0, none⟩, c, g, 0⟩, HST.out, rfl, ok_set4 HFIN.out _ _ _ _, HMB.out⟩⟩
    | false =>
      have HST : Hid (stepP us (tms js) m = .error 3) := by show stepP _ _ _ = _; rw [HS1.out]; unfold mayP; simp [HMB.out]
      go_wp2_with fail
      refine bodyPost_ret (v := .tuple #[zeroT, .int .i64 3]) (by simp [results, Tryz.results27, go_sem, r0, r1, r2, r3, hq]) rfl ?_
      exact ⟨(by repeat (first | exact Below.refl _ _ | assumption | refine below_drewN ?_ _ | refine Below.drew ?_ | refine Below.alloc ?_ (by simp <;> omega) _ | refine Below.setCell ?_ (by simp <;> omega) _)), .inl ⟨3, HST.out, by decide, rfl⟩⟩
  · have HST : Hid (stepP us (tms js) m = .error 8) := by
      show stepP _ _ _ = _
      rw [HP.out]
      obtain ⟨x, hx, hno⟩ := hno
      simp only [List.mem_cons, List.not_mem_nil, or_false] at hx
      by_cases h1 : inR js.length m.a
      · rcases hx with rfl | rfl
        · exact absurd h1 hno
        · rw [atL_in h1, atL_out hno]; rfl
      · rw [atL_out h1]; rfl
    clear hno
    clear b0 b1 b2 b3 r0 r1 r2 r3 g0 g1 g2 g3 hq
    obtain ⟨⟨b0, b1, b2, b3⟩, ⟨r0, r1, r2, r3⟩, g0, g1, g2, g3⟩ := HBX.out.below (by omega) hb2
    have hq : w.heap.size + 1 < w2.heap.size := by have := Below.size hb2; omega
    have hbw4 : Below w.heap.size w w2 := hb1.trans (hb2.mono (by omega))
    go_wp2_with fail
    refine bodyPost_ret (v := .tuple #[zeroT, .int .i64 8]) (by simp [results, Tryz.results27, go_sem, r0, r1, r2, r3, hq]) rfl ?_
    exact ⟨(by repeat (first | exact Below.refl _ _ | assumption | refine below_drewN ?_ _ | refine Below.drew ?_ | refine Below.alloc ?_ (by simp <;> omega) _ | refine Below.setCell ?_ (by simp <;> omega) _)), .inl ⟨8, HST.out, by decide, rfl⟩⟩

theorem result_any (m : Mv) (ks js : List Kd) (lv rv : Value) (w : World) (h1 : SlT w lv ks) (h2 : SlT w rv js) (hl1 : ks.length ≤ 2000) (hl2 : js.length ≤ 2000) (hm1 : ∀ k ∈ ks, may k.a k.l = true) (hm2 : ∀ k ∈ js, may k.a k.l = true) (hxy : ∀ k ∈ js, k.x = 0 ∧ k.y = 0) (hs : m.s.size ≤ maxLen) :
    Calls Tryz.prog 27 #[lv, rv, m.val] w fun e w' => ResEnd w (tms ks) (tms js) m e w' := by
  by_cases k1 : m.kind = 1
  · exact result_known m ks _ lv rv w h1 hl1 hm1 k1
  by_cases k2 : m.kind = 2
  · exact result_spoken m _ _ lv rv w hs k2
  by_cases k3 : m.kind = 3
  · exact result_open0 7 m js _ lv rv w h2 hl2 hm2 (.inr rfl) (by unfold ruleV; rw [if_neg k1, if_neg k2, if_pos k3]) (by unfold stepP rawP; rw [if_neg k1, if_neg k2, if_pos k3])
  by_cases k4 : m.kind = 4
  · exact result_open1 7 m js _ lv rv w h2 hl2 hm2 (.inr rfl) (by unfold ruleV; rw [if_neg k1, if_neg k2, if_neg k3, if_pos k4]) (by unfold stepP rawP; rw [if_neg k1, if_neg k2, if_neg k3, if_pos k4])
  by_cases k5 : m.kind = 5
  · exact result_open1 6 m js _ lv rv w h2 hl2 hm2 (.inl rfl) (by unfold ruleV; rw [if_neg k1, if_neg k2, if_neg k3, if_neg k4, if_pos k5]) (by unfold stepP rawP; rw [if_neg k1, if_neg k2, if_neg k3, if_neg k4, if_pos k5])
  by_cases k6 : m.kind = 6
  · exact result_build1 3 m js _ lv rv w h2 hl2 hxy (by omega) (by unfold ruleV; rw [if_neg k1, if_neg k2, if_neg k3, if_neg k4, if_neg k5, if_pos k6]) (by unfold stepP rawP; rw [if_neg k1, if_neg k2, if_neg k3, if_neg k4, if_neg k5, if_pos (.inl k6), k6]; rfl)
  by_cases k7 : m.kind = 7
  · exact result_build1 4 m js _ lv rv w h2 hl2 hxy (by omega) (by unfold ruleV; rw [if_neg k1, if_neg k2, if_neg k3, if_neg k4, if_neg k5, if_neg k6, if_pos k7]) (by unfold stepP rawP; rw [if_neg k1, if_neg k2, if_neg k3, if_neg k4, if_neg k5, if_pos (.inr k7), k7]; rfl)
  have k67 : ¬ (m.kind = 6 ∨ m.kind = 7) := by omega
  by_cases k8 : m.kind = 8
  · exact result_build2 5 m js _ lv rv w h2 hl2 hxy (by omega) (by unfold ruleV; rw [if_neg k1, if_neg k2, if_neg k3, if_neg k4, if_neg k5, if_neg k6, if_neg k7, if_pos k8]) (by unfold stepP rawP; rw [if_neg k1, if_neg k2, if_neg k3, if_neg k4, if_neg k5, if_neg k67, if_pos (.inl k8), k8]; rfl)
  by_cases k9 : m.kind = 9
  · exact result_build2 6 m js _ lv rv w h2 hl2 hxy (by omega) (by unfold ruleV; rw [if_neg k1, if_neg k2, if_neg k3, if_neg k4, if_neg k5, if_neg k6, if_neg k7, if_neg k8, if_pos k9]) (by unfold stepP rawP; rw [if_neg k1, if_neg k2, if_neg k3, if_neg k4, if_neg k5, if_neg k67, if_pos (.inr (.inl k9)), k9]; rfl)
  by_cases k10 : m.kind = 10
  · exact result_build2 7 m js _ lv rv w h2 hl2 hxy (by omega) (by unfold ruleV; rw [if_neg k1, if_neg k2, if_neg k3, if_neg k4, if_neg k5, if_neg k6, if_neg k7, if_neg k8, if_neg k9, if_pos k10]) (by unfold stepP rawP; rw [if_neg k1, if_neg k2, if_neg k3, if_neg k4, if_neg k5, if_neg k67, if_pos (.inr (.inr k10)), k10]; rfl)
  have k810 : ¬ (m.kind = 8 ∨ m.kind = 9 ∨ m.kind = 10) := by omega
  exact result_none m _ _ lv rv w (by unfold ruleV; rw [if_neg k1, if_neg k2, if_neg k3, if_neg k4, if_neg k5, if_neg k6, if_neg k7, if_neg k8, if_neg k9, if_neg k10]) (by unfold stepP rawP; rw [if_neg k1, if_neg k2, if_neg k3, if_neg k4, if_neg k5, if_neg k67, if_neg k810]; rfl)

end Go.Proofs.YtanpplgmdemlaaaGreatDoor
