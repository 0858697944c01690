import Derived.Test.YtffhbgakoibgnaaD0
import Derived.Lib.OthersKept
import Derived.Laws.RangeAny
namespace Go.Proofs.Ytffhbgakoibgnaa
open Go.RowKit
set_option linter.unusedVariables false
set_option linter.unusedSimpArgs false
/-- All blocks of w but b are as they were. -/
structure Only (b : Nat) (w w' : World) : Prop where
  os : w'.os = w.os
  tape : w'.tape = w.tape
  output : w'.output = w.output
  size : w.heap.size ≤ w'.heap.size
  block : ∀ k, k < w.heap.size → k ≠ b → w'.heap[k]? = w.heap[k]?

theorem Only.refl (b : Nat) (w : World) : Only b w w := ⟨rfl, rfl, rfl, Nat.le_refl _, fun _ _ _ => rfl⟩
theorem Only.trans {b : Nat} {u v w : World} (h : Only b u v) (k : Only b v w) : Only b u w :=
  ⟨k.os.trans h.os, k.tape.trans h.tape, k.output.trans h.output, Nat.le_trans h.size k.size, fun i hi hb => (k.block i (Nat.lt_of_lt_of_le hi h.size) hb).trans (h.block i hi hb)⟩
theorem Only.drew {b : Nat} {a w : World} (h : Only b a w) : Only b a w.drew := ⟨h.os, h.tape, h.output, h.size, h.block⟩
theorem Only.drewN {b : Nat} {a w : World} (h : Only b a w) (n : Nat) : Only b a (w.drewN n) := h.trans ⟨rfl, rfl, rfl, Nat.le_refl _, fun _ _ _ => rfl⟩
theorem Only.alloc {b : Nat} {a w : World} (h : Only b a w) (o : Obj) : Only b a (w.alloc o) := h.trans ⟨rfl, rfl, rfl, by simp, fun k hk _ => Below.heap_alloc _ _ _ hk⟩
theorem Only.setCell {b : Nat} {a w : World} (h : Only b a w) {p : Addr} (hp : p.block = b ∨ a.heap.size ≤ p.block) (u : Value) : Only b a (w.setCell p u) :=
  ⟨h.os, h.tape, h.output, by simpa [World.setCell] using h.size, fun k hk hb => by rw [Below.heap_setCell _ _ _ _ (by omega)]; exact h.block k hk hb⟩
theorem Only.below {b : Nat} {a w w' : World} (h : Only b a w) (k : Below w.heap.size w w') : Only b a w' :=
  h.trans ⟨k.os, k.tape, k.output, k.size, fun i hi _ => k.block i hi⟩
theorem Only.toBelow {b B : Nat} {w w' : World} (h : Only b w w') (hb : B ≤ b) (hB : B ≤ w.heap.size) : Below B w w' :=
  ⟨h.os, h.tape, h.output, h.size, fun i hi => h.block i (by omega) (by omega)⟩
theorem Only.cell {b : Nat} {w w' : World} (h : Only b w w') {q : Addr} (hq : q.block < w.heap.size) (hb : q.block ≠ b) : w'.cell? q = w.cell? q := World.cell?_of_block (w := w) (h.block q.block hq hb)
theorem Only.frozen {b : Nat} {w w' : World} (h : Only b w w') {q : Addr} (hq : q.block < w.heap.size) (hb : q.block ≠ b) : w'.frozen? q = w.frozen? q := World.frozen?_of_block (w := w) (h.block q.block hq hb)

theorem ret_bool {a b : Bool} (h : a = b) : Ending.returned (.bool a) = .returned (.bool b) := by rw [h]
theorem ret_int {k : IntKind} {a b : Int} (h : a = b) : Ending.returned (.int k a) = .returned (.int k b) := by rw [h]

theorem ret_str {a b : ByteArray} (h : a = b) : Ending.returned (.string a) = .returned (.string b) := by rw [h]

theorem wrap_in (x : Int) (h0 : -9223372036854775808 ≤ x) (h1 : x ≤ 9223372036854775807) : IntKind.i64.wrap x = x := by rw [IntKind.wrap_i64]; omega

/-- A tape stands in block tb at place k. -/
def TapeAt (w : World) (tb : Nat) (LA : Option Addr) (n cap k : Nat) : Prop :=
  tb < w.heap.size ∧ w.cell? ⟨tb, 0, none⟩ = some (.slice LA n cap) ∧ w.cell? ⟨tb, 1, none⟩ = some (.int .i64 (k : Int)) ∧ w.frozen? ⟨tb, 1, none⟩ = false

/-- What the tape gives below n at place k, and where it stands then. -/
def nextV (ns : List Int) (k : Nat) (n : Int) : Int := if k < ns.length ∧ 1 ≤ n then ns.getD k 0 % n else 0
def nextK (ns : List Int) (k : Nat) (n : Int) : Nat := if k < ns.length ∧ 1 ≤ n then k + 1 else k

theorem nextV_lo (ns : List Int) (k : Nat) (n : Int) : 0 ≤ nextV ns k n := by
  unfold nextV; split
  · exact Int.emod_nonneg _ (by omega)
  · omega
theorem nextV_hi (ns : List Int) (k : Nat) (n : Int) (h : 1 ≤ n) : nextV ns k n < n := by
  unfold nextV; split
  · exact Int.emod_lt_of_pos _ (by omega)
  · omega
theorem nextK_le (ns : List Int) (k : Nat) (n : Int) (h : k ≤ ns.length) : nextK ns k n ≤ ns.length := by
  unfold nextK; split <;> omega

theorem NumsAt.only {w w' : World} {B tb : Nat} {ns : List Int} {LA : Option Addr} (h : NumsAt w B ns LA) (ho : Only tb w w') (hB : B ≤ tb) (ht : tb < w.heap.size) : NumsAt w' B ns LA := by
  rcases h with h | ⟨lb, lo, e, hl, hc⟩
  · exact .inl h
  · exact .inr ⟨lb, lo, e, hl, fun i hi => by rw [ho.cell (by simp; omega) (by simp; omega)]; exact hc i hi⟩

theorem TapeAt.only {w w' : World} {tb : Nat} {LA : Option Addr} {n cap k : Nat} (h : TapeAt w tb LA n cap k) (ho : Below w.heap.size w w') : TapeAt w' tb LA n cap k := by
  obtain ⟨t0, t1, t2, t3⟩ := h
  exact ⟨Nat.lt_of_lt_of_le t0 ho.size, by rw [ho.cell t0]; exact t1, by rw [ho.cell t0]; exact t2, by rw [ho.frozen t0]; exact t3⟩

end Go.Proofs.Ytffhbgakoibgnaa
