import Derived.Test.YtanpplgmdemlaaaGreatDoorVA
import Derived.Test.YtanpplgmdemlaaaGreatDoorK16
namespace Go.Proofs.YtanpplgmdemlaaaGreatDoor
open Go.RowKit
set_option linter.unusedVariables false
set_option linter.unusedSimpArgs false

/-- The one of that number. -/
def atL (l : List (Nd × Fo)) (x : Int) : Option (Nd × Fo) := if 0 ≤ x ∧ x < (l.length : Int) then l[x.toNat]? else none
def openP (kk : Int) (i : Nat) (t : Nd × Fo) : Except Int (Nd × Fo) := if t.1.kind = kk then (match (kidL t.2)[i]? with | some u => .ok u | none => .error 3) else .error 3
def onP (o : Option (Nd × Fo)) (f : Nd × Fo → Except Int (Nd × Fo)) : Except Int (Nd × Fo) := match o with | none => .error 8 | some t => f t
/-- What comes of a move, before it is asked whether it is a term. -/
def rawP (us rs : List (Nd × Fo)) (m : Mv) : Except Int (Nd × Fo) :=
  if m.kind = 1 then onP (atL us m.a) .ok
  else if m.kind = 2 then .ok (⟨1, 0, m.s⟩, .nil)
  else if m.kind = 3 then onP (atL rs m.a) (openP 7 0)
  else if m.kind = 4 then onP (atL rs m.a) (openP 7 1)
  else if m.kind = 5 then onP (atL rs m.a) (openP 6 1)
  else if m.kind = 6 ∨ m.kind = 7 then onP (atL rs m.a) fun t => .ok (⟨m.kind - 3, 0, ⟨#[]⟩⟩, .node 0 0 t.1 t.2 .nil)
  else if m.kind = 8 ∨ m.kind = 9 ∨ m.kind = 10 then onP (atL rs m.a) fun t => onP (atL rs m.b) fun u => .ok (⟨m.kind - 3, 0, ⟨#[]⟩⟩, .node 0 0 t.1 t.2 (.node 0 0 u.1 u.2 .nil))
  else .error 2
def mayP (x : Except Int (Nd × Fo)) : Except Int (Nd × Fo) := match x with | .error e => .error e | .ok t => if may t.1 t.2 = true then .ok t else .error 3
def stepP (us rs : List (Nd × Fo)) (m : Mv) : Except Int (Nd × Fo) := mayP (rawP us rs m)

theorem atL_in {ks : List Kd} {x : Int} (h : inR ks.length x) : atL (tms ks) x = some ((ks.getD x.toNat kd0).a, (ks.getD x.toNat kd0).l) := by
  have h1 := h.1
  have h2 := h.2
  unfold atL
  rw [if_pos ⟨h1, by simpa [tms] using h2⟩]
  have hx : x.toNat < ks.length := by omega
  simp [tms, List.getD, List.getElem?_eq_getElem hx]
theorem atL_out {ks : List Kd} {x : Int} (h : ¬ inR ks.length x) : atL (tms ks) x = none := by
  unfold atL
  rw [if_neg]
  rintro ⟨h1, h2⟩
  exact h ⟨h1, by simpa [tms] using h2⟩

def ResEnd (w : World) (us rs : List (Nd × Fo)) (m : Mv) (e : Ending) (w' : World) : Prop :=
  Below w.heap.size w w' ∧ ((∃ z, stepP us rs m = .error z ∧ z ≠ 0 ∧ e = .returned (.tuple #[zeroT, .int .i64 z])) ∨ ∃ k : Kd, stepP us rs m = .ok (k.a, k.l) ∧ e = .returned (.tuple #[k.val, .int .i64 0]) ∧ k.Ok w' (fun b => b < w'.heap.size) ∧ may k.a k.l = true)

/-- The move's box and the result's. -/
def ResBox (w W : World) (m : Mv) : Prop :=
  (W.cell? ⟨w.heap.size, 0, none⟩ = some (.int .i64 m.kind) ∧ W.cell? ⟨w.heap.size, 1, none⟩ = some (.int .i64 m.a) ∧ W.cell? ⟨w.heap.size, 2, none⟩ = some (.int .i64 m.b) ∧ W.cell? ⟨w.heap.size, 3, none⟩ = some (.string m.s)) ∧
  (W.cell? ⟨w.heap.size + 1, 0, none⟩ = some (.int .i64 0) ∧ W.cell? ⟨w.heap.size + 1, 1, none⟩ = some (.int .i64 0) ∧ W.cell? ⟨w.heap.size + 1, 2, none⟩ = some (.string ⟨#[]⟩) ∧ W.cell? ⟨w.heap.size + 1, 3, none⟩ = some (.slice none 0 0)) ∧
  (W.frozen? ⟨w.heap.size + 1, 0, none⟩ = false ∧ W.frozen? ⟨w.heap.size + 1, 1, none⟩ = false ∧ W.frozen? ⟨w.heap.size + 1, 2, none⟩ = false ∧ W.frozen? ⟨w.heap.size + 1, 3, none⟩ = false)

theorem ResBox.below {w W W' : World} {m : Mv} (h : ResBox w W m) (hs : w.heap.size + 1 < W.heap.size) (hb : Below W.heap.size W W') : ResBox w W' m := by
  have c0 : ∀ j, W'.cell? ⟨w.heap.size, j, none⟩ = W.cell? ⟨w.heap.size, j, none⟩ := fun j => hb.cell (by simp; omega)
  have c1 : ∀ j, W'.cell? ⟨w.heap.size + 1, j, none⟩ = W.cell? ⟨w.heap.size + 1, j, none⟩ := fun j => hb.cell (by simp; omega)
  have f1 : ∀ j, W'.frozen? ⟨w.heap.size + 1, j, none⟩ = W.frozen? ⟨w.heap.size + 1, j, none⟩ := fun j => hb.frozen (by simp; omega)
  unfold ResBox
  rw [c0, c0, c0, c0, c1, c1, c1, c1, f1, f1, f1, f1]
  exact h
theorem ResBox.new (w : World) (m : Mv) : ResBox w ((w.alloc (.cells #[.int .i64 m.kind, .int .i64 m.a, .int .i64 m.b, .string m.s] 39)).alloc (.cells #[.int .i64 0, .int .i64 0, .string ⟨#[]⟩, .slice none 0 0] 27)) m := by
  refine ⟨⟨?_, ?_, ?_, ?_⟩, ⟨?_, ?_, ?_, ?_⟩, ?_, ?_, ?_, ?_⟩ <;> simp [go_sem]

set_option maxRecDepth 100000 in
set_option maxHeartbeats 2000000 in
theorem result_none (m : Mv) (us rs : List (Nd × Fo)) (lv rv : Value) (w : World) (hr : ruleV m = .nilIface) (hp : stepP us rs m = .error 2) :
    Calls Tryz.prog 27 #[lv, rv, m.val] w fun e w' => ResEnd w us rs m e w' := by
  have HR : Hid (ruleV m = .nilIface) := hr
  have HP : Hid (stepP us rs m = .error 2) := hp
  clear hr hp
  go_enter Tryz.func27, Tryz.ntmps27
  go_wp2_with fail
  refine (ruleOf_any m _).mono ?_
  rintro e w1 ⟨rfl, ho1⟩
  rw [HR.out]
  have hbx := (ResBox.new w m).below (by simp) ho1
  obtain ⟨⟨b0, b1, b2, b3⟩, ⟨r0, r1, r2, r3⟩, g0, g1, g2, g3⟩ := hbx
  have hs1 := ho1.size
  simp only [World.heap_size_alloc'] at hs1
  have hq : w.heap.size + 1 < w1.heap.size := by omega
  have hb1 : Below w.heap.size w w1 := (show Below w.heap.size w _ from (by repeat (first | exact Below.refl _ _ | assumption | refine below_drewN ?_ _ | refine Below.drew ?_ | refine Below.alloc ?_ (by simp <;> omega) _ | refine Below.setCell ?_ (by simp <;> omega) _))).trans (ho1.mono (by simp; omega))
  clear ho1
  go_wp2_with fail
  refine bodyPost_ret (v := .tuple #[zeroT, .int .i64 2]) (by simp [results, Tryz.results27, go_sem, r0, r1, r2, r3]) rfl ?_
  exact ⟨(by repeat (first | exact Below.refl _ _ | assumption | refine below_drewN ?_ _ | refine Below.drew ?_ | refine Below.alloc ?_ (by simp <;> omega) _ | refine Below.setCell ?_ (by simp <;> omega) _)), .inl ⟨2, HP.out, by decide, rfl⟩⟩

end Go.Proofs.YtanpplgmdemlaaaGreatDoor

namespace Go.Proofs.YtanpplgmdemlaaaGreatDoor
open Go.RowKit
set_option linter.unusedVariables false
set_option linter.unusedSimpArgs false

theorem ok_set4 {w : World} {q : Nat} {k : Kd} (h : k.Ok w (fun b => b < w.heap.size ∧ b ≠ q)) (u0 u1 u2 u3 : Value) :
    k.Ok ((((w.setCell ⟨q, 0, none⟩ u0).setCell ⟨q, 1, none⟩ u1).setCell ⟨q, 2, none⟩ u2).setCell ⟨q, 3, none⟩ u3) (fun b => b < ((((w.setCell ⟨q, 0, none⟩ u0).setCell ⟨q, 1, none⟩ u1).setCell ⟨q, 2, none⟩ u2).setCell ⟨q, 3, none⟩ u3).heap.size) :=
  h.keep (fun b hb => by simpa [World.setCell] using hb.1) (fun b o hb => cell_set4 w q u0 u1 u2 u3 b o hb.2)
theorem ok_apart {w w' : World} {k : Kd} (h : k.Ok w (fun b => b < w.heap.size)) (hb : Below w.heap.size w w') (q : Nat) (hq : w.heap.size ≤ q) : k.Ok w' (fun b => b < w'.heap.size ∧ b ≠ q) :=
  h.keep (fun b hb' => ⟨Nat.lt_of_lt_of_le hb' hb.size, by omega⟩) (fun b o hb' => hb.cell (by simpa using hb'))

set_option maxRecDepth 100000 in
set_option maxHeartbeats 2000000 in
theorem result_known (m : Mv) (ks : List Kd) (rs : List (Nd × Fo)) (lv rv : Value) (w : World) (h : SlT w lv ks) (hl : ks.length ≤ 2000) (hm : ∀ k ∈ ks, may k.a k.l = true) (hk : m.kind = 1) :
    Calls Tryz.prog 27 #[lv, rv, m.val] w fun e w' => ResEnd w (tms ks) rs m e w' := by
  have HR : Hid (ruleV m = .iface 102 (.agg #[])) := by show ruleV m = _; unfold ruleV; rw [if_pos hk]
  have HP : Hid (stepP (tms ks) rs m = mayP (onP (atL (tms ks) m.a) .ok)) := by show stepP _ _ _ = _; unfold stepP rawP; rw [if_pos hk]
  have HSL : Hid (SlT w lv ks) := h
  have HM : Hid (∀ k ∈ ks, may k.a k.l = true) := hm
  have hmeth := meth_known
  clear h hm hk
  go_enter Tryz.func27, Tryz.ntmps27
  go_wp2_with fail
  refine (ruleOf_any m _).mono ?_
  rintro e w1 ⟨rfl, ho1⟩
  rw [HR.out]
  have hs1 : w.heap.size + 1 + 1 ≤ w1.heap.size := by have := ho1.size; simpa using this
  have HBX : Hid (ResBox w w1 m) := (ResBox.new w m).below (by simp) ho1
  have hb1 : Below w.heap.size w w1 := (show Below w.heap.size w _ from (by repeat (first | exact Below.refl _ _ | assumption | refine below_drewN ?_ _ | refine Below.drew ?_ | refine Below.alloc ?_ (by simp <;> omega) _ | refine Below.setCell ?_ (by simp <;> omega) _))).trans (ho1.mono (by simp; omega))
  clear ho1
  obtain ⟨⟨b0, b1, b2, b3⟩, ⟨r0, r1, r2, r3⟩, g0, g1, g2, g3⟩ := HBX.out
  have hq : w.heap.size + 1 < w1.heap.size := by omega
  go_wp2_with fail
  refine (pointedKnown m ks lv rv w1 (HSL.out.below hb1) hl).mono ?_
  rintro e w2 ⟨hb2, ⟨hin, g, c, rfl, hg, hc, hrow⟩ | ⟨⟨x, hx, hno⟩, rfl⟩⟩
  · have hin1 : inR ks.length m.a := hin _ (by simp)
    have hat := atL_in hin1
    have hmem := getD_mem (ks := ks) (i := m.a.toNat) (by have h1 := hin1.1; have h2 := hin1.2; omega)
    have hrow' : RowT w2 g [ks.getD m.a.toNat kd0] := hrow
    have hok := (HSL.out.oks _ hmem).1
    have hmk := HM.out _ hmem
    generalize ks.getD m.a.toNat kd0 = k at *
    have HOK : Hid (k.Ok w (fun b => b < w.heap.size) ∧ may k.a k.l = true) := ⟨hok, hmk⟩
    have HST : Hid (stepP (tms ks) rs m = .ok (k.a, k.l)) := by show stepP _ _ _ = _; rw [HP.out, hat]; unfold onP mayP; simp [hmk]
    have HROW : Hid (RowT w2 g [k]) := hrow'
    clear hin hin1 hat hmem hrow hrow' hok hmk hc
    clear b0 b1 b2 b3 r0 r1 r2 r3 g0 g1 g2 g3 hq
    obtain ⟨⟨b0, b1, b2, b3⟩, ⟨r0, r1, r2, r3⟩, g0, g1, g2, g3⟩ := HBX.out.below (by omega) hb2
    have hq : w.heap.size + 1 < w2.heap.size := by have := Below.size hb2; omega
    simp only [List.length_cons, List.length_nil, Nat.zero_add]
    go_wp2_with fail
    refine (applyKnown k [] g 1 c w2 HROW.out (by decide)).mono ?_
    rintro e w3 ⟨rfl, ho3⟩
    have hb3 : Below w1.heap.size w1 w3 := hb2.trans (ho3.mono hb2.size)
    clear b0 b1 b2 b3 r0 r1 r2 r3 g0 g1 g2 g3 hq
    obtain ⟨⟨b0, b1, b2, b3⟩, ⟨r0, r1, r2, r3⟩, g0, g1, g2, g3⟩ := HBX.out.below (by omega) hb3
    have hq : w.heap.size + 1 < w3.heap.size := by have := Below.size hb3; omega
    have hbw3 : Below w.heap.size w w3 := hb1.trans (hb3.mono (by omega))
    have hal : Below w3.heap.size w3 (w3.alloc (.cells #[.int .i64 k.a.kind, .int .i64 k.a.n, .string k.a.s, .slice k.A (flen k.l) k.cap] 27)) := Below.alloc (Below.refl _ _) (Nat.le_refl _) _
    go_wp2_with fail
    refine (may_any k.a k.l _ _ (Kd.rep ((HOK.out.1.below hbw3).below hal))).mono ?_
    rintro e w4 ⟨rfl, ho4⟩
    rw [HOK.out.2]
    obtain ⟨y0, y1, y2, y3, y4⟩ : Box4 w4 w3.heap.size (.int .i64 k.a.kind) (.int .i64 k.a.n) (.string k.a.s) (.slice k.A (flen k.l) k.cap) := (Box4.new w3 _ _ _ _ _).below ho4
    have hb4 : Below w1.heap.size w1 w4 := hb3.trans ((hal.trans (ho4.mono (by simp))).mono hb3.size)
    clear b0 b1 b2 b3 r0 r1 r2 r3 g0 g1 g2 g3 hq
    obtain ⟨⟨b0, b1, b2, b3⟩, ⟨r0, r1, r2, r3⟩, g0, g1, g2, g3⟩ := HBX.out.below (by omega) hb4
    have hq : w.heap.size + 1 < w4.heap.size := by have := Below.size hb4; omega
    have hbw4 : Below w.heap.size w w4 := hb1.trans (hb4.mono (by omega))
    have HFIN : Hid (k.Ok w4 (fun b => b < w4.heap.size ∧ b ≠ w.heap.size + 1)) := ok_apart HOK.out.1 hbw4 _ (by omega)
    go_wp2_with fail
    refine bodyPost_ret (v := .tuple #[k.val, .int .i64 0]) (by simp [results, Tryz.results27, go_sem, r0, r1, r2, r3]) rfl ?_
    exact ⟨(by repeat (first | exact Below.refl _ _ | assumption | refine below_drewN ?_ _ | refine Below.drew ?_ | refine Below.alloc ?_ (by simp <;> omega) _ | refine Below.setCell ?_ (by simp <;> omega) _)), .inr ⟨k, HST.out, rfl, ok_set4 HFIN.out _ _ _ _, HOK.out.2⟩⟩
  · simp only [List.mem_singleton] at hx
    subst hx
    have HST : Hid (stepP (tms ks) rs m = .error 8) := by show stepP _ _ _ = _; rw [HP.out, atL_out hno]; rfl
    clear hno
    clear b0 b1 b2 b3 r0 r1 r2 r3 g0 g1 g2 g3 hq
    obtain ⟨⟨b0, b1, b2, b3⟩, ⟨r0, r1, r2, r3⟩, g0, g1, g2, g3⟩ := HBX.out.below (by omega) hb2
    have hq : w.heap.size + 1 < w2.heap.size := by have := Below.size hb2; omega
    have hbw4 : Below w.heap.size w w2 := hb1.trans (hb2.mono (by omega))
    go_wp2_with fail
    refine bodyPost_ret (v := .tuple #[zeroT, .int .i64 8]) (by simp [results, Tryz.results27, go_sem, r0, r1, r2, r3, hq]) rfl ?_
    exact ⟨(by repeat (first | exact Below.refl _ _ | assumption | refine below_drewN ?_ _ | refine Below.drew ?_ | refine Below.alloc ?_ (by simp <;> omega) _ | refine Below.setCell ?_ (by simp <;> omega) _)), .inl ⟨8, HST.out, by decide, rfl⟩⟩

end Go.Proofs.YtanpplgmdemlaaaGreatDoor

namespace Go.Proofs.YtanpplgmdemlaaaGreatDoor
open Go.RowKit
set_option linter.unusedVariables false
set_option linter.unusedSimpArgs false

theorem ok_on {w w' : World} {k : Kd} {q : Nat} (h : k.Ok w (fun b => b < w.heap.size ∧ b ≠ q)) (hb : Below w.heap.size w w') : k.Ok w' (fun b => b < w'.heap.size ∧ b ≠ q) :=
  h.keep (fun b hb' => ⟨Nat.lt_of_lt_of_le hb'.1 hb.size, hb'.2⟩) (fun b o hb' => hb.cell (by simpa using hb'.1))
theorem ok_all {w : World} {k : Kd} {q : Nat} (h : k.Ok w (fun b => b < w.heap.size ∧ b ≠ q)) : k.Ok w (fun b => b < w.heap.size) := h.keep (fun b hb => hb.1) (fun _ _ _ => rfl)

set_option maxRecDepth 100000 in
set_option maxHeartbeats 2000000 in
theorem result_spoken (m : Mv) (us rs : List (Nd × Fo)) (lv rv : Value) (w : World) (hs : m.s.size ≤ maxLen) (hk : m.kind = 2) :
    Calls Tryz.prog 27 #[lv, rv, m.val] w fun e w' => ResEnd w us rs m e w' := by
  have HR : Hid (ruleV m = .iface 104 (.agg #[.string m.s])) := by show ruleV m = _; unfold ruleV; rw [if_neg (by omega), if_pos hk]
  have HP : Hid (stepP us rs m = mayP (.ok (⟨1, 0, m.s⟩, .nil))) := by show stepP _ _ _ = _; unfold stepP rawP; rw [if_neg (by omega), if_pos hk]
  have HF : Hid (∀ W : World, (⟨0, 0, ⟨1, 0, m.s⟩, .nil, none, 0, 0, 0⟩ : Kd).Ok W (fun b => b < W.heap.size ∧ b ≠ w.heap.size + 1)) := fun W => ⟨⟨by simp, by simp, by simp, by simp, hs⟩, ⟨Nat.zero_le _, Nat.zero_le _⟩, .inl rfl, trivial⟩
  have hmeth := meth_spoken m.s
  clear hk hs
  go_enter Tryz.func27, Tryz.ntmps27
  go_wp2_with fail
  refine (ruleOf_any m _).mono ?_
  rintro e w1 ⟨rfl, ho1⟩
  rw [HR.out]
  have hs1 : w.heap.size + 1 + 1 ≤ w1.heap.size := by have := ho1.size; simpa using this
  have HBX : Hid (ResBox w w1 m) := (ResBox.new w m).below (by simp) ho1
  have hb1 : Below w.heap.size w w1 := (show Below w.heap.size w _ from (by repeat (first | exact Below.refl _ _ | assumption | refine below_drewN ?_ _ | refine Below.drew ?_ | refine Below.alloc ?_ (by simp <;> omega) _ | refine Below.setCell ?_ (by simp <;> omega) _))).trans (ho1.mono (by simp; omega))
  clear ho1
  obtain ⟨⟨b0, b1, b2, b3⟩, ⟨r0, r1, r2, r3⟩, g0, g1, g2, g3⟩ := HBX.out
  have hq : w.heap.size + 1 < w1.heap.size := by omega
  go_wp2_with fail
  refine (pointedSpoken m.s m lv rv w1).mono ?_
  rintro e w2 ⟨rfl, hb2⟩
  clear b0 b1 b2 b3 r0 r1 r2 r3 g0 g1 g2 g3 hq
  obtain ⟨⟨b0, b1, b2, b3⟩, ⟨r0, r1, r2, r3⟩, g0, g1, g2, g3⟩ := HBX.out.below (by omega) hb2
  have hq : w.heap.size + 1 < w2.heap.size := by have := Below.size hb2; omega
  go_wp2_with fail
  refine (applySpoken m.s _ w2).mono ?_
  rintro e w3 ⟨rfl, ho3⟩
  have hb3 : Below w1.heap.size w1 w3 := hb2.trans (ho3.mono hb2.size)
  clear b0 b1 b2 b3 r0 r1 r2 r3 g0 g1 g2 g3 hq
  obtain ⟨⟨b0, b1, b2, b3⟩, ⟨r0, r1, r2, r3⟩, g0, g1, g2, g3⟩ := HBX.out.below (by omega) hb3
  have hq : w.heap.size + 1 < w3.heap.size := by have := Below.size hb3; omega
  have hal : Below w3.heap.size w3 (w3.alloc (.cells #[.int .i64 1, .int .i64 0, .string m.s, .slice none 0 0] 27)) := Below.alloc (Below.refl _ _) (Nat.le_refl _) _
  go_wp2_with fail
  refine (may_any ⟨1, 0, m.s⟩ .nil _ _ (Kd.rep (ok_all (HF.out _)))).mono ?_
  rintro e w4 ⟨rfl, ho4⟩
  obtain ⟨y0, y1, y2, y3, y4⟩ : Box4 w4 w3.heap.size (.int .i64 1) (.int .i64 0) (.string m.s) (.slice none 0 0) := (Box4.new w3 _ _ _ _ _).below ho4
  have hb4 : Below w1.heap.size w1 w4 := hb3.trans ((hal.trans (ho4.mono (by simp))).mono hb3.size)
  clear b0 b1 b2 b3 r0 r1 r2 r3 g0 g1 g2 g3 hq
  obtain ⟨⟨b0, b1, b2, b3⟩, ⟨r0, r1, r2, r3⟩, g0, g1, g2, g3⟩ := HBX.out.below (by omega) hb4
  have hq : w.heap.size + 1 < w4.heap.size := by have := Below.size hb4; omega
  have hbw4 : Below w.heap.size w w4 := hb1.trans (hb4.mono (by omega))
  obtain ⟨mb, hmb⟩ : ∃ mb : Bool, may ⟨1, 0, m.s⟩ .nil = mb := ⟨_, rfl⟩
  rw [hmb]
  have HMB : Hid (may ⟨1, 0, m.s⟩ .nil = mb) := hmb
  clear hmb
  cases mb with
  | true =>
    have HST : Hid (stepP us rs m = .ok (⟨1, 0, m.s⟩, .nil)) := by show stepP _ _ _ = _; rw [HP.out]; unfold mayP; simp [HMB.out]
    go_wp2_with fail
    refine bodyPost_ret (v := .tuple #[.agg #[.int .i64 1, .int .i64 0, .string m.s, .slice none 0 0], .int .i64 0]) (by simp [results, Tryz.results27, go_sem, r0, r1, r2, r3]) rfl ?_
    exact ⟨(by repeat (first | exact Below.refl _ _ | assumption | refine below_drewN ?_ _ | refine Below.drew ?_ | refine Below.alloc ?_ (by simp <;> omega) _ | refine Below.setCell ?_ (by simp <;> omega) _)), .inr ⟨⟨0, 0, ⟨1, 0, m.s⟩, .nil, none, 0, 0, 0⟩, HST.out, rfl, ok_set4 (HF.out w4) _ _ _ _, HMB.out⟩⟩
  | false =>
    have HST : Hid (stepP us rs m = .error 3) := by show stepP _ _ _ = _; rw [HP.out]; unfold mayP; simp [HMB.out]
    go_wp2_with fail
    refine bodyPost_ret (v := .tuple #[zeroT, .int .i64 3]) (by simp [results, Tryz.results27, go_sem, r0, r1, r2, r3, hq]) rfl ?_
    exact ⟨(by repeat (first | exact Below.refl _ _ | assumption | refine below_drewN ?_ _ | refine Below.drew ?_ | refine Below.alloc ?_ (by simp <;> omega) _ | refine Below.setCell ?_ (by simp <;> omega) _)), .inl ⟨3, HST.out, by decide, rfl⟩⟩

set_option maxRecDepth 100000 in
set_option maxHeartbeats 2000000 in
theorem result_open0 (kk : Int) (m : Mv) (js : List Kd) (us : List (Nd × Fo)) (lv rv : Value) (w : World) (h : SlT w rv js) (hl : js.length ≤ 2000) (hm : ∀ k ∈ js, may k.a k.l = true) (hkk : kk = 6 ∨ kk = 7) (hr : ruleV m = .iface 76 (.agg #[.int .i64 kk, .int .i64 0])) (hp : stepP us (tms js) m = mayP (onP (atL (tms js) m.a) (openP kk 0))) :
    Calls Tryz.prog 27 #[lv, rv, m.val] w fun e w' => ResEnd w us (tms js) m e w' := by
  have HR : Hid (ruleV m = .iface 76 (.agg #[.int .i64 kk, .int .i64 0])) := hr
  have HP : Hid (stepP us (tms js) m = mayP (onP (atL (tms js) m.a) (openP kk 0))) := hp
  have HSL : Hid (SlT w rv js) := h
  have HM : Hid (∀ k ∈ js, may k.a k.l = true) := hm
  have HKK : Hid (kk = 6 ∨ kk = 7) := hkk
  have hmeth := meth_opening kk 0
  clear h hm hr hp hkk
  go_enter Tryz.func27, Tryz.ntmps27
  go_wp2_with fail
  refine (ruleOf_any m _).mono ?_
  rintro e w1 ⟨rfl, ho1⟩
  rw [HR.out]
  have hs1 : w.heap.size + 1 + 1 ≤ w1.heap.size := by have := ho1.size; simpa using this
  have HBX : Hid (ResBox w w1 m) := (ResBox.new w m).below (by simp) ho1
  have hb1 : Below w.heap.size w w1 := (show Below w.heap.size w _ from (by repeat (first | exact Below.refl _ _ | assumption | refine below_drewN ?_ _ | refine Below.drew ?_ | refine Below.alloc ?_ (by simp <;> omega) _ | refine Below.setCell ?_ (by simp <;> omega) _))).trans (ho1.mono (by simp; omega))
  clear ho1
  obtain ⟨⟨b0, b1, b2, b3⟩, ⟨r0, r1, r2, r3⟩, g0, g1, g2, g3⟩ := HBX.out
  have hq : w.heap.size + 1 < w1.heap.size := by omega
  go_wp2_with fail
  refine (pointedOpen kk 0 m js lv rv w1 (HSL.out.below hb1) hl).mono ?_
  rintro e w2 ⟨hb2, ⟨hin, g, c, rfl, hg, hc, hrow⟩ | ⟨⟨x, hx, hno⟩, rfl⟩⟩
  · have hin1 : inR js.length m.a := hin _ (by simp)
    have hat := atL_in hin1
    have hmem := getD_mem (ks := js) (i := m.a.toNat) (by have h1 := hin1.1; have h2 := hin1.2; omega)
    have hrow' : RowT w2 g [js.getD m.a.toNat kd0] := hrow
    have hok := (HSL.out.oks _ hmem).1
    have hmk := HM.out _ hmem
    generalize js.getD m.a.toNat kd0 = k at *
    have HROW : Hid (RowT w2 g [k]) := hrow'
    have HS1 : Hid (stepP us (tms js) m = mayP (openP kk 0 (k.a, k.l))) := by show stepP _ _ _ = _; rw [HP.out, hat]; rfl
    have hbw2 : Below w.heap.size w w2 := hb1.trans (hb2.mono (by omega))
    clear b0 b1 b2 b3 r0 r1 r2 r3 g0 g1 g2 g3 hq
    obtain ⟨⟨b0, b1, b2, b3⟩, ⟨r0, r1, r2, r3⟩, g0, g1, g2, g3⟩ := HBX.out.below (by omega) hb2
    have hq : w.heap.size + 1 < w2.heap.size := by have := Below.size hb2; omega
    simp only [List.length_cons, List.length_nil, Nat.zero_add]
    by_cases hkd : k.a.kind = kk
    · have hfl : flen k.l = 2 := by have := (may_ar _ _ hmk).1; rw [hkd] at this; rcases HKK.out with h | h <;> rw [h] at this <;> simp [kidsOf] at this <;> omega
      obtain ⟨k1, k2, hkids, hk1, hk2, hkA, hkb, _, hcs1, hcs2⟩ := two_kids hok hfl
      have hmj : may k1.a k1.l = true := by have := amay_mem (may_amay hmk); rw [hkids] at this; exact this (k1.a, k1.l) (by simp)
      have HOK : Hid (k1.Ok w (fun b => b < w.heap.size) ∧ may k1.a k1.l = true) := ⟨hk1, hmj⟩
      have HST : Hid (stepP us (tms js) m = .ok (k1.a, k1.l)) := by show stepP _ _ _ = _; rw [HS1.out]; unfold openP; rw [if_pos hkd]; simp only [hkids]; unfold mayP; simp [hmj]
      have hcl : ∀ j, w2.cell? ⟨k.b, j, none⟩ = w.cell? ⟨k.b, j, none⟩ := fun j => hbw2.cell (by simpa using hkb)
      have HAP : Hid (Calls Tryz.prog 44 #[.agg #[.int .i64 kk, .int .i64 0], .slice (some ⟨g, 0, none⟩) 1 c] w2 fun e w' => e = .returned (.tuple #[k1.val, .bool true]) ∧ Below w2.heap.size w2 w') :=
        applyOpen0 kk k k1 [] g 1 c w2 HROW.out (by decide) hkd hfl hkA (by have := hbw2.size; omega) (by unfold CellsK; rw [hcl, hcl, hcl, hcl]; exact hcs1)
      clear hin hin1 hat hmem hrow hrow' hok hmk hc hkd hfl hkids hk1 hk2 hkA hkb hcs1 hcs2 hmj hcl
      go_wp2_with fail
      refine Calls.mono HAP.out ?_
      rintro e w3 ⟨rfl, ho3⟩
      have hb3 : Below w1.heap.size w1 w3 := hb2.trans (ho3.mono hb2.size)
      clear b0 b1 b2 b3 r0 r1 r2 r3 g0 g1 g2 g3 hq
      obtain ⟨⟨b0, b1, b2, b3⟩, ⟨r0, r1, r2, r3⟩, g0, g1, g2, g3⟩ := HBX.out.below (by omega) hb3
      have hq : w.heap.size + 1 < w3.heap.size := by have := hb3.size; omega
      have hbw3 : Below w.heap.size w w3 := hb1.trans (hb3.mono (by omega))
      have hal : Below w3.heap.size w3 (w3.alloc (.cells #[.int .i64 k1.a.kind, .int .i64 k1.a.n, .string k1.a.s, .slice k1.A (flen k1.l) k1.cap] 27)) := Below.alloc (Below.refl _ _) (Nat.le_refl _) _
      go_wp2_with fail
      refine (may_any k1.a k1.l _ _ (Kd.rep ((HOK.out.1.below hbw3).below hal))).mono ?_
      rintro e w4 ⟨rfl, ho4⟩
      rw [HOK.out.2]
      obtain ⟨y0, y1, y2, y3, y4⟩ : Box4 w4 w3.heap.size (.int .i64 k1.a.kind) (.int .i64 k1.a.n) (.string k1.a.s) (.slice k1.A (flen k1.l) k1.cap) := (Box4.new w3 _ _ _ _ _).below ho4
      have hb4 : Below w1.heap.size w1 w4 := hb3.trans ((hal.trans (ho4.mono (by simp))).mono hb3.size)
      clear b0 b1 b2 b3 r0 r1 r2 r3 g0 g1 g2 g3 hq
      obtain ⟨⟨b0, b1, b2, b3⟩, ⟨r0, r1, r2, r3⟩, g0, g1, g2, g3⟩ := HBX.out.below (by omega) hb4
      have hq : w.heap.size + 1 < w4.heap.size := by have := hb4.size; omega
      have hbw4 : Below w.heap.size w w4 := hb1.trans (hb4.mono (by omega))
      have HFIN : Hid (k1.Ok w4 (fun b => b < w4.heap.size ∧ b ≠ w.heap.size + 1)) := ok_apart HOK.out.1 hbw4 _ (by omega)
      go_wp2_with fail
      refine bodyPost_ret (v := .tuple #[k1.val, .int .i64 0]) (by simp [results, Tryz.results27, go_sem, r0, r1, r2, r3]) rfl ?_
      exact ⟨(by repeat (first | exact Below.refl _ _ | assumption | refine below_drewN ?_ _ | refine Below.drew ?_ | refine Below.alloc ?_ (by simp <;> omega) _ | refine Below.setCell ?_ (by simp <;> omega) _)), .inr ⟨k1, HST.out, rfl, ok_set4 HFIN.out _ _ _ _, HOK.out.2⟩⟩
    · have HST : Hid (stepP us (tms js) m = .error 3) := by show stepP _ _ _ = _; rw [HS1.out]; unfold openP; rw [if_neg hkd]; rfl
      have HAP : Hid (Calls Tryz.prog 44 #[.agg #[.int .i64 kk, .int .i64 0], .slice (some ⟨g, 0, none⟩) 1 c] w2 fun e w' => e = .returned (.tuple #[zeroT, .bool false]) ∧ Below w2.heap.size w2 w') := applyOpenNo kk 0 k [] g 1 c w2 HROW.out (by decide) hkd
      clear hin hin1 hat hmem hrow hrow' hok hmk hc hkd
      go_wp2_with fail
      refine Calls.mono HAP.out ?_
      rintro e w3 ⟨rfl, ho3⟩
      have hb3 : Below w1.heap.size w1 w3 := hb2.trans (ho3.mono hb2.size)
      clear b0 b1 b2 b3 r0 r1 r2 r3 g0 g1 g2 g3 hq
      obtain ⟨⟨b0, b1, b2, b3⟩, ⟨r0, r1, r2, r3⟩, g0, g1, g2, g3⟩ := HBX.out.below (by omega) hb3
      have hq : w.heap.size + 1 < w3.heap.size := by have := hb3.size; omega
      have hbw4 : Below w.heap.size w w3 := hb1.trans (hb3.mono (by omega))
      go_wp2_with fail
      refine bodyPost_ret (v := .tuple #[zeroT, .int .i64 3]) (by simp [results, Tryz.results27, go_sem, r0, r1, r2, r3, hq]) rfl ?_
      exact ⟨(by repeat (first | exact Below.refl _ _ | assumption | refine below_drewN ?_ _ | refine Below.drew ?_ | refine Below.alloc ?_ (by simp <;> omega) _ | refine Below.setCell ?_ (by simp <;> omega) _)), .inl ⟨3, HST.out, by decide, rfl⟩⟩
  · simp only [List.mem_singleton] at hx
    subst hx
    have HST : Hid (stepP us (tms js) m = .error 8) := by show stepP _ _ _ = _; rw [HP.out, atL_out hno]; rfl
    clear hno
    clear b0 b1 b2 b3 r0 r1 r2 r3 g0 g1 g2 g3 hq
    obtain ⟨⟨b0, b1, b2, b3⟩, ⟨r0, r1, r2, r3⟩, g0, g1, g2, g3⟩ := HBX.out.below (by omega) hb2
    have hq : w.heap.size + 1 < w2.heap.size := by have := Below.size hb2; omega
    have hbw4 : Below w.heap.size w w2 := hb1.trans (hb2.mono (by omega))
    go_wp2_with fail
    refine bodyPost_ret (v := .tuple #[zeroT, .int .i64 8]) (by simp [results, Tryz.results27, go_sem, r0, r1, r2, r3, hq]) rfl ?_
    exact ⟨(by repeat (first | exact Below.refl _ _ | assumption | refine below_drewN ?_ _ | refine Below.drew ?_ | refine Below.alloc ?_ (by simp <;> omega) _ | refine Below.setCell ?_ (by simp <;> omega) _)), .inl ⟨8, HST.out, by decide, rfl⟩⟩

set_option maxRecDepth 100000 in
set_option maxHeartbeats 2000000 in
theorem result_open1 (kk : Int) (m : Mv) (js : List Kd) (us : List (Nd × Fo)) (lv rv : Value) (w : World) (h : SlT w rv js) (hl : js.length ≤ 2000) (hm : ∀ k ∈ js, may k.a k.l = true) (hkk : kk = 6 ∨ kk = 7) (hr : ruleV m = .iface 76 (.agg #[.int .i64 kk, .int .i64 1])) (hp : stepP us (tms js) m = mayP (onP (atL (tms js) m.a) (openP kk 1))) :
    Calls Tryz.prog 27 #[lv, rv, m.val] w fun e w' => ResEnd w us (tms js) m e w' := by
  have HR : Hid (ruleV m = .iface 76 (.agg #[.int .i64 kk, .int .i64 1])) := hr
  have HP : Hid (stepP us (tms js) m = mayP (onP (atL (tms js) m.a) (openP kk 1))) := hp
  have HSL : Hid (SlT w rv js) := h
  have HM : Hid (∀ k ∈ js, may k.a k.l = true) := hm
  have HKK : Hid (kk = 6 ∨ kk = 7) := hkk
  have hmeth := meth_opening kk 1
  clear h hm hr hp hkk
  go_enter Tryz.func27, Tryz.ntmps27
  go_wp2_with fail
  refine (ruleOf_any m _).mono ?_
  rintro e w1 ⟨rfl, ho1⟩
  rw [HR.out]
  have hs1 : w.heap.size + 1 + 1 ≤ w1.heap.size := by have := ho1.size; simpa using this
  have HBX : Hid (ResBox w w1 m) := (ResBox.new w m).below (by simp) ho1
  have hb1 : Below w.heap.size w w1 := (show Below w.heap.size w _ from (by repeat (first | exact Below.refl _ _ | assumption | refine below_drewN ?_ _ | refine Below.drew ?_ | refine Below.alloc ?_ (by simp <;> omega) _ | refine Below.setCell ?_ (by simp <;> omega) _))).trans (ho1.mono (by simp; omega))
  clear ho1
  obtain ⟨⟨b0, b1, b2, b3⟩, ⟨r0, r1, r2, r3⟩, g0, g1, g2, g3⟩ := HBX.out
  have hq : w.heap.size + 1 < w1.heap.size := by omega
  go_wp2_with fail
  refine (pointedOpen kk 1 m js lv rv w1 (HSL.out.below hb1) hl).mono ?_
  rintro e w2 ⟨hb2, ⟨hin, g, c, rfl, hg, hc, hrow⟩ | ⟨⟨x, hx, hno⟩, rfl⟩⟩
  · have hin1 : inR js.length m.a := hin _ (by simp)
    have hat := atL_in hin1
    have hmem := getD_mem (ks := js) (i := m.a.toNat) (by have h1 := hin1.1; have h2 := hin1.2; omega)
    have hrow' : RowT w2 g [js.getD m.a.toNat kd0] := hrow
    have hok := (HSL.out.oks _ hmem).1
    have hmk := HM.out _ hmem
    generalize js.getD m.a.toNat kd0 = k at *
    have HROW : Hid (RowT w2 g [k]) := hrow'
    have HS1 : Hid (stepP us (tms js) m = mayP (openP kk 1 (k.a, k.l))) := by show stepP _ _ _ = _; rw [HP.out, hat]; rfl
    have hbw2 : Below w.heap.size w w2 := hb1.trans (hb2.mono (by omega))
    clear b0 b1 b2 b3 r0 r1 r2 r3 g0 g1 g2 g3 hq
    obtain ⟨⟨b0, b1, b2, b3⟩, ⟨r0, r1, r2, r3⟩, g0, g1, g2, g3⟩ := HBX.out.below (by omega) hb2
    have hq : w.heap.size + 1 < w2.heap.size := by have := Below.size hb2; omega
    simp only [List.length_cons, List.length_nil, Nat.zero_add]
    by_cases hkd : k.a.kind = kk
    · have hfl : flen k.l = 2 := by have := (may_ar _ _ hmk).1; rw [hkd] at this; rcases HKK.out with h | h <;> rw [h] at this <;> simp [kidsOf] at this <;> omega
      obtain ⟨k1, k2, hkids, hk1, hk2, hkA, hkb, _, hcs1, hcs2⟩ := two_kids hok hfl
      have hmj : may k2.a k2.l = true := by have := amay_mem (may_amay hmk); rw [hkids] at this; exact this (k2.a, k2.l) (by simp)
      have HOK : Hid (k2.Ok w (fun b => b < w.heap.size) ∧ may k2.a k2.l = true) := ⟨hk2, hmj⟩
      have HST : Hid (stepP us (tms js) m = .ok (k2.a, k2.l)) := by show stepP _ _ _ = _; rw [HS1.out]; unfold openP; rw [if_pos hkd]; simp only [hkids]; unfold mayP; simp [hmj]
      have hcl : ∀ j, w2.cell? ⟨k.b, j, none⟩ = w.cell? ⟨k.b, j, none⟩ := fun j => hbw2.cell (by simpa using hkb)
      have HAP : Hid (Calls Tryz.prog 44 #[.agg #[.int .i64 kk, .int .i64 1], .slice (some ⟨g, 0, none⟩) 1 c] w2 fun e w' => e = .returned (.tuple #[k2.val, .bool true]) ∧ Below w2.heap.size w2 w') :=
        applyOpen1 kk k k2 [] g 1 c w2 HROW.out (by decide) hkd hfl hkA (by have := hbw2.size; omega) (by unfold CellsK; rw [hcl, hcl, hcl, hcl]; exact hcs2)
      clear hin hin1 hat hmem hrow hrow' hok hmk hc hkd hfl hkids hk1 hk2 hkA hkb hcs1 hcs2 hmj hcl
      go_wp2_with fail
      refine Calls.mono HAP.out ?_
      rintro e w3 ⟨rfl, ho3⟩
      have hb3 : Below w1.heap.size w1 w3 := hb2.trans (ho3.mono hb2.size)
      clear b0 b1 b2 b3 r0 r1 r2 r3 g0 g1 g2 g3 hq
      obtain ⟨⟨b0, b1, b2, b3⟩, ⟨r0, r1, r2, r3⟩, g0, g1, g2, g3⟩ := HBX.out.below (by omega) hb3
      have hq : w.heap.size + 1 < w3.heap.size := by have := hb3.size; omega
      have hbw3 : Below w.heap.size w w3 := hb1.trans (hb3.mono (by omega))
      have hal : Below w3.heap.size w3 (w3.alloc (.cells #[.int .i64 k2.a.kind, .int .i64 k2.a.n, .string k2.a.s, .slice k2.A (flen k2.l) k2.cap] 27)) := Below.alloc (Below.refl _ _) (Nat.le_refl _) _
      go_wp2_with fail
      refine (may_any k2.a k2.l _ _ (Kd.rep ((HOK.out.1.below hbw3).below hal))).mono ?_
      rintro e w4 ⟨rfl, ho4⟩
      rw [HOK.out.2]
      obtain ⟨y0, y1, y2, y3, y4⟩ : Box4 w4 w3.heap.size (.int .i64 k2.a.kind) (.int .i64 k2.a.n) (.string k2.a.s) (.slice k2.A (flen k2.l) k2.cap) := (Box4.new w3 _ _ _ _ _).below ho4
      have hb4 : Below w1.heap.size w1 w4 := hb3.trans ((hal.trans (ho4.mono (by simp))).mono hb3.size)
      clear b0 b1 b2 b3 r0 r1 r2 r3 g0 g1 g2 g3 hq
      obtain ⟨⟨b0, b1, b2, b3⟩, ⟨r0, r1, r2, r3⟩, g0, g1, g2, g3⟩ := HBX.out.below (by omega) hb4
      have hq : w.heap.size + 1 < w4.heap.size := by have := hb4.size; omega
      have hbw4 : Below w.heap.size w w4 := hb1.trans (hb4.mono (by omega))
      have HFIN : Hid (k2.Ok w4 (fun b => b < w4.heap.size ∧ b ≠ w.heap.size + 1)) := ok_apart HOK.out.1 hbw4 _ (by omega)
      go_wp2_with fail
      refine bodyPost_ret (v := .tuple #[k2.val, .int .i64 0]) (by simp [results, Tryz.results27, go_sem, r0, r1, r2, r3]) rfl ?_
      exact ⟨(by repeat (first | exact Below.refl _ _ | assumption | refine below_drewN ?_ _ | refine Below.drew ?_ | refine Below.alloc ?_ (by simp <;> omega) _ | refine Below.setCell ?_ (by simp <;> omega) _)), .inr ⟨k2, HST.out, rfl, ok_set4 HFIN.out _ _ _ _, HOK.out.2⟩⟩
    · have HST : Hid (stepP us (tms js) m = .error 3) := by show stepP _ _ _ = _; rw [HS1.out]; unfold openP; rw [if_neg hkd]; rfl
      have HAP : Hid (Calls Tryz.prog 44 #[.agg #[.int .i64 kk, .int .i64 1], .slice (some ⟨g, 0, none⟩) 1 c] w2 fun e w' => e = .returned (.tuple #[zeroT, .bool false]) ∧ Below w2.heap.size w2 w') := applyOpenNo kk 1 k [] g 1 c w2 HROW.out (by decide) hkd
      clear hin hin1 hat hmem hrow hrow' hok hmk hc hkd
      go_wp2_with fail
      refine Calls.mono HAP.out ?_
      rintro e w3 ⟨rfl, ho3⟩
      have hb3 : Below w1.heap.size w1 w3 := hb2.trans (ho3.mono hb2.size)
      clear b0 b1 b2 b3 r0 r1 r2 r3 g0 g1 g2 g3 hq
      obtain ⟨⟨b0, b1, b2, b3⟩, ⟨r0, r1, r2, r3⟩, g0, g1, g2, g3⟩ := HBX.out.below (by omega) hb3
      have hq : w.heap.size + 1 < w3.heap.size := by have := hb3.size; omega
      have hbw4 : Below w.heap.size w w3 := hb1.trans (hb3.mono (by omega))
      go_wp2_with fail
      refine bodyPost_ret (v := .tuple #[zeroT, .int .i64 3]) (by simp [results, Tryz.results27, go_sem, r0, r1, r2, r3, hq]) rfl ?_
      exact ⟨(by repeat (first | exact Below.refl _ _ | assumption | refine below_drewN ?_ _ | refine Below.drew ?_ | refine Below.alloc ?_ (by simp <;> omega) _ | refine Below.setCell ?_ (by simp <;> omega) _)), .inl ⟨3, HST.out, by decide, rfl⟩⟩
  · simp only [List.mem_singleton] at hx
    subst hx
    have HST : Hid (stepP us (tms js) m = .error 8) := by show stepP _ _ _ = _; rw [HP.out, atL_out hno]; rfl
    clear hno
    clear b0 b1 b2 b3 r0 r1 r2 r3 g0 g1 g2 g3 hq
    obtain ⟨⟨b0, b1, b2, b3⟩, ⟨r0, r1, r2, r3⟩, g0, g1, g2, g3⟩ := HBX.out.below (by omega) hb2
    have hq : w.heap.size + 1 < w2.heap.size := by have := Below.size hb2; omega
    have hbw4 : Below w.heap.size w w2 := hb1.trans (hb2.mono (by omega))
    go_wp2_with fail
    refine bodyPost_ret (v := .tuple #[zeroT, .int .i64 8]) (by simp [results, Tryz.results27, go_sem, r0, r1, r2, r3, hq]) rfl ?_
    exact ⟨(by repeat (first | exact Below.refl _ _ | assumption | refine below_drewN ?_ _ | refine Below.drew ?_ | refine Below.alloc ?_ (by simp <;> omega) _ | refine Below.setCell ?_ (by simp <;> omega) _)), .inl ⟨8, HST.out, by decide, rfl⟩⟩

end Go.Proofs.YtanpplgmdemlaaaGreatDoor
