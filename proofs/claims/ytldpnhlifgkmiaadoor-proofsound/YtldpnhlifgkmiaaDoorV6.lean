import Derived.Test.YtldpnhlifgkmiaaDoorV5
import Derived.Test.YtldpnhlifgkmiaaDoorK16
namespace Go.Proofs.YtldpnhlifgkmiaaDoor
open Go.RowKit
set_option linter.unusedVariables false
set_option linter.unusedSimpArgs false

/-- The one of that number. -/
def atL (l : List (Nd × Fo)) (x : Int) : Option (Nd × Fo) := if 0 ≤ x ∧ x < (l.length : Int) then l[x.toNat]? else none
def openP (kk : Int) (i : Nat) (t : Nd × Fo) : Except Int (Nd × Fo) := if t.1.kind = kk then (match (kidL t.2)[i]? with | some u => .ok u | none => .error 3) else .error 3
def onP (o : Option (Nd × Fo)) (f : Nd × Fo → Except Int (Nd × Fo)) : Except Int (Nd × Fo) := match o with | none => .error 8 | some t => f t
/-- What comes of a move, before it is asked whether it is a term. -/
def rawP (us rs : List (Nd × Fo)) (m : Mv) : Except Int (Nd × Fo) :=
  if m.kind = 1 then onP (atL us m.a) .ok
  else if m.kind = 2 then .ok (⟨1, 0, m.s⟩, .nil)
  else if m.kind = 3 then onP (atL rs m.a) (openP 7 0)
  else if m.kind = 4 then onP (atL rs m.a) (openP 7 1)
  else if m.kind = 5 then onP (atL rs m.a) (openP 6 1)
  else if m.kind = 6 ∨ m.kind = 7 then onP (atL rs m.a) fun t => .ok (⟨m.kind - 3, 0, ⟨#[]⟩⟩, .node 0 0 t.1 t.2 .nil)
  else if m.kind = 8 ∨ m.kind = 9 ∨ m.kind = 10 then onP (atL rs m.a) fun t => onP (atL rs m.b) fun u => .ok (⟨m.kind - 3, 0, ⟨#[]⟩⟩, .node 0 0 t.1 t.2 (.node 0 0 u.1 u.2 .nil))
  else .error 2
def mayP (x : Except Int (Nd × Fo)) : Except Int (Nd × Fo) := match x with | .error e => .error e | .ok t => if may t.1 t.2 = true then .ok t else .error 3
def stepP (us rs : List (Nd × Fo)) (m : Mv) : Except Int (Nd × Fo) := mayP (rawP us rs m)

theorem atL_in {ks : List Kd} {x : Int} (h : inR ks.length x) : atL (tms ks) x = some ((ks.getD x.toNat kd0).a, (ks.getD x.toNat kd0).l) := by
  have h1 := h.1
  have h2 := h.2
  unfold atL
  rw [if_pos ⟨h1, by simpa [tms] using h2⟩]
  have hx : x.toNat < ks.length := by omega
  simp [tms, List.getD, List.getElem?_eq_getElem hx]
theorem atL_out {ks : List Kd} {x : Int} (h : ¬ inR ks.length x) : atL (tms ks) x = none := by
  unfold atL
  rw [if_neg]
  rintro ⟨h1, h2⟩
  exact h ⟨h1, by simpa [tms] using h2⟩

def ResEnd (w : World) (us rs : List (Nd × Fo)) (m : Mv) (e : Ending) (w' : World) : Prop :=
  Below w.heap.size w w' ∧ ((∃ z, stepP us rs m = .error z ∧ z ≠ 0 ∧ e = .returned (.tuple #[zeroT, .int .i64 z])) ∨ ∃ k : Kd, stepP us rs m = .ok (k.a, k.l) ∧ e = .returned (.tuple #[k.val, .int .i64 0]) ∧ k.Ok w' (fun b => b < w'.heap.size) ∧ may k.a k.l = true)

/-- The move's box and the result's. -/
def ResBox (w W : World) (m : Mv) : Prop :=
  (W.cell? ⟨w.heap.size, 0, none⟩ = some (.int .i64 m.kind) ∧ W.cell? ⟨w.heap.size, 1, none⟩ = some (.int .i64 m.a) ∧ W.cell? ⟨w.heap.size, 2, none⟩ = some (.int .i64 m.b) ∧ W.cell? ⟨w.heap.size, 3, none⟩ = some (.string m.s)) ∧
  (W.cell? ⟨w.heap.size + 1, 0, none⟩ = some (.int .i64 0) ∧ W.cell? ⟨w.heap.size + 1, 1, none⟩ = some (.int .i64 0) ∧ W.cell? ⟨w.heap.size + 1, 2, none⟩ = some (.string ⟨#[]⟩) ∧ W.cell? ⟨w.heap.size + 1, 3, none⟩ = some (.slice none 0 0)) ∧
  (W.frozen? ⟨w.heap.size + 1, 0, none⟩ = false ∧ W.frozen? ⟨w.heap.size + 1, 1, none⟩ = false ∧ W.frozen? ⟨w.heap.size + 1, 2, none⟩ = false ∧ W.frozen? ⟨w.heap.size + 1, 3, none⟩ = false)

theorem ResBox.below {w W W' : World} {m : Mv} (h : ResBox w W m) (hs : w.heap.size + 1 < W.heap.size) (hb : Below W.heap.size W W') : ResBox w W' m := by
  have c0 : ∀ j, W'.cell? ⟨w.heap.size, j, none⟩ = W.cell? ⟨w.heap.size, j, none⟩ := fun j => hb.cell (by simp; omega)
  have c1 : ∀ j, W'.cell? ⟨w.heap.size + 1, j, none⟩ = W.cell? ⟨w.heap.size + 1, j, none⟩ := fun j => hb.cell (by simp; omega)
  have f1 : ∀ j, W'.frozen? ⟨w.heap.size + 1, j, none⟩ = W.frozen? ⟨w.heap.size + 1, j, none⟩ := fun j => hb.frozen (by simp; omega)
  unfold ResBox
  rw [c0, c0, c0, c0, c1, c1, c1, c1, f1, f1, f1, f1]
  exact h
theorem ResBox.new (w : World) (m : Mv) : ResBox w ((w.alloc (.cells #[.int .i64 m.kind, .int .i64 m.a, .int .i64 m.b, .string m.s] 47)).alloc (.cells #[.int .i64 0, .int .i64 0, .string ⟨#[]⟩, .slice none 0 0] 29)) m := by
  refine ⟨⟨?_, ?_, ?_, ?_⟩, ⟨?_, ?_, ?_, ?_⟩, ?_, ?_, ?_, ?_⟩ <;> simp [go_sem]

set_option maxRecDepth 100000 in
set_option maxHeartbeats 2000000 in
theorem result_none (m : Mv) (us rs : List (Nd × Fo)) (lv rv : Value) (w : World) (hr : ruleV m = .nilIface) (hp : stepP us rs m = .error 2) :
    Calls Tryd.prog 39 #[lv, rv, m.val] w fun e w' => ResEnd w us rs m e w' := by
  have HR : Hid (ruleV m = .nilIface) := hr
  have HP : Hid (stepP us rs m = .error 2) := hp
  clear hr hp
  go_enter Tryd.func39, Tryd.ntmps39
  go_wp2_with fail
  refine (ruleOf_any m _).mono ?_
  rintro e w1 ⟨rfl, ho1⟩
  rw [HR.out]
  have hbx := (ResBox.new w m).below (by simp) ho1
  obtain ⟨⟨b0, b1, b2, b3⟩, ⟨r0, r1, r2, r3⟩, g0, g1, g2, g3⟩ := hbx
  have hs1 := ho1.size
  simp only [World.heap_size_alloc'] at hs1
  have hq : w.heap.size + 1 < w1.heap.size := by omega
  have hb1 : Below w.heap.size w w1 := (show Below w.heap.size w _ from (by repeat (first | exact Below.refl _ _ | assumption | refine below_drewN ?_ _ | refine Below.drew ?_ | refine Below.alloc ?_ (by simp <;> omega) _ | refine Below.setCell ?_ (by simp <;> omega) _))).trans (ho1.mono (by simp; omega))
  clear ho1
  go_wp2_with fail
  refine bodyPost_ret (v := .tuple #[zeroT, .int .i64 2]) (by simp [results, Tryd.results39, go_sem, r0, r1, r2, r3]) rfl ?_
  exact ⟨(by repeat (first | exact Below.refl _ _ | assumption | refine below_drewN ?_ _ | refine Below.drew ?_ | refine Below.alloc ?_ (by simp <;> omega) _ | refine Below.setCell ?_ (by simp <;> omega) _)), .inl ⟨2, HP.out, by decide, rfl⟩⟩

end Go.Proofs.YtldpnhlifgkmiaaDoor
