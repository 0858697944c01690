import Derived.Test.YtldpnhlifgkmiaaDoorV6
namespace Go.Proofs.YtldpnhlifgkmiaaDoor
open Go.RowKit
set_option linter.unusedVariables false
set_option linter.unusedSimpArgs false

theorem ok_set4 {w : World} {q : Nat} {k : Kd} (h : k.Ok w (fun b => b < w.heap.size ∧ b ≠ q)) (u0 u1 u2 u3 : Value) :
    k.Ok ((((w.setCell ⟨q, 0, none⟩ u0).setCell ⟨q, 1, none⟩ u1).setCell ⟨q, 2, none⟩ u2).setCell ⟨q, 3, none⟩ u3) (fun b => b < ((((w.setCell ⟨q, 0, none⟩ u0).setCell ⟨q, 1, none⟩ u1).setCell ⟨q, 2, none⟩ u2).setCell ⟨q, 3, none⟩ u3).heap.size) :=
  h.keep (fun b hb => by simpa [World.setCell] using hb.1) (fun b o hb => cell_set4 w q u0 u1 u2 u3 b o hb.2)
theorem ok_apart {w w' : World} {k : Kd} (h : k.Ok w (fun b => b < w.heap.size)) (hb : Below w.heap.size w w') (q : Nat) (hq : w.heap.size ≤ q) : k.Ok w' (fun b => b < w'.heap.size ∧ b ≠ q) :=
  h.keep (fun b hb' => ⟨Nat.lt_of_lt_of_le hb' hb.size, by omega⟩) (fun b o hb' => hb.cell (by simpa using hb'))

set_option maxRecDepth 100000 in
set_option maxHeartbeats 2000000 in
theorem result_known (m : Mv) (ks : List Kd) (rs : List (Nd × Fo)) (lv rv : Value) (w : World) (h : SlT w lv ks) (hl : ks.length ≤ 2000) (hm : ∀ k ∈ ks, may k.a k.l = true) (hk : m.kind = 1) :
    Calls Tryd.prog 39 #[lv, rv, m.val] w fun e w' => ResEnd w (tms ks) rs m e w' := by
  have HR : Hid (ruleV m = .iface 108 (.agg #[])) := by show ruleV m = _; unfold ruleV; rw [if_pos hk]
  have HP : Hid (stepP (tms ks) rs m = mayP (onP (atL (tms ks) m.a) .ok)) := by show stepP _ _ _ = _; unfold stepP rawP; rw [if_pos hk]
  have HSL : Hid (SlT w lv ks) := h
  have HM : Hid (∀ k ∈ ks, may k.a k.l = true) := hm
  have hmeth := meth_known
  clear h hm hk
  go_enter Tryd.func39, Tryd.ntmps39
  go_wp2_with fail
  refine (ruleOf_any m _).mono ?_
  rintro e w1 ⟨rfl, ho1⟩
  rw [HR.out]
  have hs1 : w.heap.size + 1 + 1 ≤ w1.heap.size := by have := ho1.size; simpa using this
  have HBX : Hid (ResBox w w1 m) := (ResBox.new w m).below (by simp) ho1
  have hb1 : Below w.heap.size w w1 := (show Below w.heap.size w _ from (by repeat (first | exact Below.refl _ _ | assumption | refine below_drewN ?_ _ | refine Below.drew ?_ | refine Below.alloc ?_ (by simp <;> omega) _ | refine Below.setCell ?_ (by simp <;> omega) _))).trans (ho1.mono (by simp; omega))
  clear ho1
  obtain ⟨⟨b0, b1, b2, b3⟩, ⟨r0, r1, r2, r3⟩, g0, g1, g2, g3⟩ := HBX.out
  have hq : w.heap.size + 1 < w1.heap.size := by omega
  go_wp2_with fail
  refine (pointedKnown m ks lv rv w1 (HSL.out.below hb1) hl).mono ?_
  rintro e w2 ⟨hb2, ⟨hin, g, c, rfl, hg, hc, hrow⟩ | ⟨⟨x, hx, hno⟩, rfl⟩⟩
  · have hin1 : inR ks.length m.a := hin _ (by simp)
    have hat := atL_in hin1
    have hmem := getD_mem (ks := ks) (i := m.a.toNat) (by have h1 := hin1.1; have h2 := hin1.2; omega)
    have hrow' : RowT w2 g [ks.getD m.a.toNat kd0] := hrow
    have hok := (HSL.out.oks _ hmem).1
    have hmk := HM.out _ hmem
    generalize ks.getD m.a.toNat kd0 = k at *
    have HOK : Hid (k.Ok w (fun b => b < w.heap.size) ∧ may k.a k.l = true) := ⟨hok, hmk⟩
    have HST : Hid (stepP (tms ks) rs m = .ok (k.a, k.l)) := by show stepP _ _ _ = _; rw [HP.out, hat]; unfold onP mayP; simp [hmk]
    have HROW : Hid (RowT w2 g [k]) := hrow'
    clear hin hin1 hat hmem hrow hrow' hok hmk hc
    clear b0 b1 b2 b3 r0 r1 r2 r3 g0 g1 g2 g3 hq
    obtain ⟨⟨b0, b1, b2, b3⟩, ⟨r0, r1, r2, r3⟩, g0, g1, g2, g3⟩ := HBX.out.below (by omega) hb2
    have hq : w.heap.size + 1 < w2.heap.size := by have := Below.size hb2; omega
    simp only [List.length_cons, List.length_nil, Nat.zero_add]
    go_wp2_with fail
    refine (applyKnown k [] g 1 c w2 HROW.out (by decide)).mono ?_
    rintro e w3 ⟨rfl, ho3⟩
    have hb3 : Below w1.heap.size w1 w3 := hb2.trans (ho3.mono hb2.size)
    clear b0 b1 b2 b3 r0 r1 r2 r3 g0 g1 g2 g3 hq
    obtain ⟨⟨b0, b1, b2, b3⟩, ⟨r0, r1, r2, r3⟩, g0, g1, g2, g3⟩ := HBX.out.below (by omega) hb3
    have hq : w.heap.size + 1 < w3.heap.size := by have := Below.size hb3; omega
    have hbw3 : Below w.heap.size w w3 := hb1.trans (hb3.mono (by omega))
    have hal : Below w3.heap.size w3 (w3.alloc (.cells #[.int .i64 k.a.kind, .int .i64 k.a.n, .string k.a.s, .slice k.A (flen k.l) k.cap] 29)) := Below.alloc (Below.refl _ _) (Nat.le_refl _) _
    go_wp2_with fail
    refine (may_any k.a k.l _ _ (Kd.rep ((HOK.out.1.below hbw3).below hal))).mono ?_
    rintro e w4 ⟨rfl, ho4⟩
    rw [HOK.out.2]
    obtain ⟨y0, y1, y2, y3, y4⟩ : Box4 w4 w3.heap.size (.int .i64 k.a.kind) (.int .i64 k.a.n) (.string k.a.s) (.slice k.A (flen k.l) k.cap) := (Box4.new w3 _ _ _ _ _).below ho4
    have hb4 : Below w1.heap.size w1 w4 := hb3.trans ((hal.trans (ho4.mono (by simp))).mono hb3.size)
    clear b0 b1 b2 b3 r0 r1 r2 r3 g0 g1 g2 g3 hq
    obtain ⟨⟨b0, b1, b2, b3⟩, ⟨r0, r1, r2, r3⟩, g0, g1, g2, g3⟩ := HBX.out.below (by omega) hb4
    have hq : w.heap.size + 1 < w4.heap.size := by have := Below.size hb4; omega
    have hbw4 : Below w.heap.size w w4 := hb1.trans (hb4.mono (by omega))
    have HFIN : Hid (k.Ok w4 (fun b => b < w4.heap.size ∧ b ≠ w.heap.size + 1)) := ok_apart HOK.out.1 hbw4 _ (by omega)
    go_wp2_with fail
    refine bodyPost_ret (v := .tuple #[k.val, .int .i64 0]) (by simp [results, Tryd.results39, go_sem, r0, r1, r2, r3]) rfl ?_
    exact ⟨(by repeat (first | exact Below.refl _ _ | assumption | refine below_drewN ?_ _ | refine Below.drew ?_ | refine Below.alloc ?_ (by simp <;> omega) _ | refine Below.setCell ?_ (by simp <;> omega) _)), .inr ⟨k, HST.out, rfl, ok_set4 HFIN.out _ _ _ _, HOK.out.2⟩⟩
  · simp only [List.mem_singleton] at hx
    subst hx
    have HST : Hid (stepP (tms ks) rs m = .error 8) := by show stepP _ _ _ = _; rw [HP.out, atL_out hno]; rfl
    clear hno
    clear b0 b1 b2 b3 r0 r1 r2 r3 g0 g1 g2 g3 hq
    obtain ⟨⟨b0, b1, b2, b3⟩, ⟨r0, r1, r2, r3⟩, g0, g1, g2, g3⟩ := HBX.out.below (by omega) hb2
    have hq : w.heap.size + 1 < w2.heap.size := by have := Below.size hb2; omega
    have hbw4 : Below w.heap.size w w2 := hb1.trans (hb2.mono (by omega))
    go_wp2_with fail
    refine bodyPost_ret (v := .tuple #[zeroT, .int .i64 8]) (by simp [results, Tryd.results39, go_sem, r0, r1, r2, r3]) rfl ?_
    exact ⟨(by repeat (first | exact Below.refl _ _ | assumption | refine below_drewN ?_ _ | refine Below.drew ?_ | refine Below.alloc ?_ (by simp <;> omega) _ | refine Below.setCell ?_ (by simp <;> omega) _)), .inl ⟨8, HST.out, by decide, rfl⟩⟩

end Go.Proofs.YtldpnhlifgkmiaaDoor
