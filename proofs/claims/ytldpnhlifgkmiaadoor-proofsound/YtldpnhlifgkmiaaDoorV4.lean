import Derived.Test.YtldpnhlifgkmiaaDoorV3
namespace Go.Proofs.YtldpnhlifgkmiaaDoor
open Go.RowKit
set_option linter.unusedVariables false
set_option linter.unusedSimpArgs false

/-- The first of a row. -/
abbrev CellsK (w : World) (g o : Nat) (k : Kd) : Prop := w.cell? ⟨g, o, none⟩ = some (.int .i64 k.a.kind) ∧ w.cell? ⟨g, o + 1, none⟩ = some (.int .i64 k.a.n) ∧ w.cell? ⟨g, o + 2, none⟩ = some (.string k.a.s) ∧ w.cell? ⟨g, o + 3, none⟩ = some (.slice k.A (flen k.l) k.cap)

theorem RowT.first {w : World} {g : Nat} {k : Kd} {r : List Kd} (h : RowT w g (k :: r)) : w.cell? ⟨g, 0, none⟩ = some (.int .i64 k.a.kind) ∧ w.cell? ⟨g, 1, none⟩ = some (.int .i64 k.a.n) ∧ w.cell? ⟨g, 2, none⟩ = some (.string k.a.s) ∧ w.cell? ⟨g, 3, none⟩ = some (.slice k.A (flen k.l) k.cap) := by
  have := h.at 0 (by simp)
  simpa [List.getD] using this

abbrev zeroT : Value := .agg #[.int .i64 0, .int .i64 0, .string ⟨#[]⟩, .slice none 0 0]

set_option maxRecDepth 20000 in
set_option maxHeartbeats 1000000 in
theorem applyKnown (k : Kd) (r : List Kd) (g n c : Nat) (w : World) (h : RowT w g (k :: r)) (hn : 0 < n) :
    Calls Tryd.prog 126 #[.agg #[], .slice (some ⟨g, 0, none⟩) n c] w fun e w' => e = .returned (.tuple #[k.val, .bool true]) ∧ Below w.heap.size w w' := by
  have hg := h.1
  obtain ⟨e0, e1, e2, e3⟩ := h.first
  have hn0 : (0 : Int) < (n : Int) := by omega
  clear h
  go_enter Tryd.func126, Tryd.ntmps126
  go_wp2_with fail
  refine bodyPost_ret (v := .tuple #[k.val, .bool true]) (by simp [results, Tryd.results126, go_sem]) rfl ?_
  exact ⟨rfl, (by repeat (first | exact Below.refl _ _ | assumption | refine below_drewN ?_ _ | refine Below.drew ?_ | refine Below.alloc ?_ (by simp <;> omega) _ | refine Below.setCell ?_ (by simp <;> omega) _))⟩

set_option maxRecDepth 20000 in
set_option maxHeartbeats 1000000 in
theorem applySpoken (s : ByteArray) (v : Value) (w : World) :
    Calls Tryd.prog 127 #[.agg #[.string s], v] w fun e w' => e = .returned (.tuple #[.agg #[.int .i64 1, .int .i64 0, .string s, .slice none 0 0], .bool true]) ∧ Below w.heap.size w w' := by
  go_enter Tryd.func127, Tryd.ntmps127
  go_wp2_with fail
  refine bodyPost_ret (v := .tuple #[.agg #[.int .i64 1, .int .i64 0, .string s, .slice none 0 0], .bool true]) (by simp [results, Tryd.results127, go_sem]) rfl ?_
  exact ⟨rfl, (by repeat (first | exact Below.refl _ _ | assumption | refine below_drewN ?_ _ | refine Below.drew ?_ | refine Below.alloc ?_ (by simp <;> omega) _ | refine Below.setCell ?_ (by simp <;> omega) _))⟩

set_option maxRecDepth 20000 in
set_option maxHeartbeats 1000000 in
theorem applyBuild (kk q : Int) (A : Option Addr) (n c : Nat) (w : World) :
    Calls Tryd.prog 128 #[.agg #[.int .i64 kk, .int .i64 q], .slice A n c] w fun e w' => e = .returned (.tuple #[.agg #[.int .i64 kk, .int .i64 0, .string ⟨#[]⟩, .slice A n c], .bool true]) ∧ Below w.heap.size w w' := by
  go_enter Tryd.func128, Tryd.ntmps128
  go_wp2_with fail
  refine bodyPost_ret (v := .tuple #[.agg #[.int .i64 kk, .int .i64 0, .string ⟨#[]⟩, .slice A n c], .bool true]) (by simp [results, Tryd.results128, go_sem]) rfl ?_
  exact ⟨rfl, (by repeat (first | exact Below.refl _ _ | assumption | refine below_drewN ?_ _ | refine Below.drew ?_ | refine Below.alloc ?_ (by simp <;> omega) _ | refine Below.setCell ?_ (by simp <;> omega) _))⟩

set_option maxRecDepth 20000 in
set_option maxHeartbeats 1000000 in
theorem applyOpenNo (kk q : Int) (k : Kd) (r : List Kd) (g n c : Nat) (w : World) (h : RowT w g (k :: r)) (hn : 0 < n) (hk : k.a.kind ≠ kk) :
    Calls Tryd.prog 72 #[.agg #[.int .i64 kk, .int .i64 q], .slice (some ⟨g, 0, none⟩) n c] w fun e w' => e = .returned (.tuple #[zeroT, .bool false]) ∧ Below w.heap.size w w' := by
  have hg := h.1
  obtain ⟨e0, e1, e2, e3⟩ := h.first
  have hn0 : (0 : Int) < (n : Int) := by omega
  have hne : (k.a.kind != kk) = true := by simp [hk]
  clear h hk
  go_enter Tryd.func72, Tryd.ntmps72
  go_wp2_with fail
  refine bodyPost_ret (v := .tuple #[zeroT, .bool false]) (by simp [results, Tryd.results72, go_sem]) rfl ?_
  exact ⟨rfl, (by repeat (first | exact Below.refl _ _ | assumption | refine below_drewN ?_ _ | refine Below.drew ?_ | refine Below.alloc ?_ (by simp <;> omega) _ | refine Below.setCell ?_ (by simp <;> omega) _))⟩

set_option maxRecDepth 20000 in
set_option maxHeartbeats 1000000 in
theorem applyOpen0 (kk : Int) (k j : Kd) (r : List Kd) (g n c : Nat) (w : World) (h : RowT w g (k :: r)) (hn : 0 < n) (hk : k.a.kind = kk) (hf : flen k.l = 2) (hA : k.A = some ⟨k.b, k.o, none⟩) (hb : k.b < w.heap.size) (hj : CellsK w k.b k.o j) :
    Calls Tryd.prog 72 #[.agg #[.int .i64 kk, .int .i64 0], .slice (some ⟨g, 0, none⟩) n c] w fun e w' => e = .returned (.tuple #[j.val, .bool true]) ∧ Below w.heap.size w w' := by
  have hg := h.1
  obtain ⟨e0, e1, e2, e3⟩ := h.first
  have hD : ∀ (o1 o2 o3 : Obj) (j : Nat), (((w.alloc o1).alloc o2).alloc o3).cell? ⟨k.b, j, none⟩ = w.cell? ⟨k.b, j, none⟩ := fun o1 o2 o3 j => Below.cell (B := w.heap.size) (Below.alloc (Below.alloc (Below.alloc (Below.refl _ _) (Nat.le_refl _) _) (by simp) _) (by simp; omega) _) (by simpa using hb)
  obtain ⟨d0, d1, d2, d3⟩ := hj
  rw [hA, hf] at e3
  subst hk
  have hn0 : (0 : Int) < (n : Int) := by omega
  clear h hA hf
  go_enter Tryd.func72, Tryd.ntmps72
  go_wp2_with fail
  refine bodyPost_ret (v := .tuple #[j.val, .bool true]) (by simp [results, Tryd.results72, go_sem]) rfl ?_
  exact ⟨rfl, (by repeat (first | exact Below.refl _ _ | assumption | refine below_drewN ?_ _ | refine Below.drew ?_ | refine Below.alloc ?_ (by simp <;> omega) _ | refine Below.setCell ?_ (by simp <;> omega) _))⟩

set_option maxRecDepth 20000 in
set_option maxHeartbeats 1000000 in
theorem applyOpen1 (kk : Int) (k j : Kd) (r : List Kd) (g n c : Nat) (w : World) (h : RowT w g (k :: r)) (hn : 0 < n) (hk : k.a.kind = kk) (hf : flen k.l = 2) (hA : k.A = some ⟨k.b, k.o, none⟩) (hb : k.b < w.heap.size) (hj : CellsK w k.b (k.o + 4) j) :
    Calls Tryd.prog 72 #[.agg #[.int .i64 kk, .int .i64 1], .slice (some ⟨g, 0, none⟩) n c] w fun e w' => e = .returned (.tuple #[j.val, .bool true]) ∧ Below w.heap.size w w' := by
  have hg := h.1
  obtain ⟨e0, e1, e2, e3⟩ := h.first
  have hD : ∀ (o1 o2 o3 : Obj) (j : Nat), (((w.alloc o1).alloc o2).alloc o3).cell? ⟨k.b, j, none⟩ = w.cell? ⟨k.b, j, none⟩ := fun o1 o2 o3 j => Below.cell (B := w.heap.size) (Below.alloc (Below.alloc (Below.alloc (Below.refl _ _) (Nat.le_refl _) _) (by simp) _) (by simp; omega) _) (by simpa using hb)
  obtain ⟨d0, d1, d2, d3⟩ := hj
  rw [hA, hf] at e3
  subst hk
  have hn0 : (0 : Int) < (n : Int) := by omega
  clear h hA hf
  go_enter Tryd.func72, Tryd.ntmps72
  go_wp2_with fail
  refine bodyPost_ret (v := .tuple #[j.val, .bool true]) (by simp [results, Tryd.results72, go_sem]) rfl ?_
  exact ⟨rfl, (by repeat (first | exact Below.refl _ _ | assumption | refine below_drewN ?_ _ | refine Below.drew ?_ | refine Below.alloc ?_ (by simp <;> omega) _ | refine Below.setCell ?_ (by simp <;> omega) _))⟩

theorem meth_known (w : World) : (method 263 108 (.agg #[]) "countersign/proof.apply").run Tryd.prog w = .ok (126, .agg #[]) w := by kernel_rfl
theorem meth_spoken (s : ByteArray) (w : World) : (method 263 110 (.agg #[.string s]) "countersign/proof.apply").run Tryd.prog w = .ok (127, .agg #[.string s]) w := by kernel_rfl
theorem meth_opening (a b : Int) (w : World) : (method 263 102 (.agg #[.int .i64 a, .int .i64 b]) "countersign/proof.apply").run Tryd.prog w = .ok (72, .agg #[.int .i64 a, .int .i64 b]) w := by kernel_rfl
theorem meth_building (a b : Int) (w : World) : (method 263 112 (.agg #[.int .i64 a, .int .i64 b]) "countersign/proof.apply").run Tryd.prog w = .ok (128, .agg #[.int .i64 a, .int .i64 b]) w := by kernel_rfl

end Go.Proofs.YtldpnhlifgkmiaaDoor
