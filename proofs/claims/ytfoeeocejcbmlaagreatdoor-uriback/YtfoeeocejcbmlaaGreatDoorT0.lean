import Derived.Test.YtfoeeocejcbmlaaGreatDoorD0
import Derived.Lib.OthersKept
import Derived.Laws.RangeAny
namespace Go.Proofs.YtfoeeocejcbmlaaGreatDoor
open Go.RowKit
set_option linter.unusedVariables false
set_option linter.unusedSimpArgs false
/-- All blocks of w but b are as they were. -/
structure Only (b : Nat) (w w' : World) : Prop where
  os : w'.os = w.os
  tape : w'.tape = w.tape
  output : w'.output = w.output
  size : w.heap.size ≤ w'.heap.size
  block : ∀ k, k < w.heap.size → k ≠ b → w'.heap[k]? = w.heap[k]?

theorem Only.refl (b : Nat) (w : World) : Only b w w := ⟨rfl, rfl, rfl, Nat.le_refl _, fun _ _ _ => rfl⟩
theorem Only.trans {b : Nat} {u v w : World} (h : Only b u v) (k : Only b v w) : Only b u w :=
  ⟨k.os.trans h.os, k.tape.trans h.tape, k.output.trans h.output, Nat.le_trans h.size k.size, fun i hi hb => (k.block i (Nat.lt_of_lt_of_le hi h.size) hb).trans (h.block i hi hb)⟩
theorem Only.drew {b : Nat} {a w : World} (h : Only b a w) : Only b a w.drew := ⟨h.os, h.tape, h.output, h.size, h.block⟩
theorem Only.drewN {b : Nat} {a w : World} (h : Only b a w) (n : Nat) : Only b a (w.drewN n) := h.trans ⟨rfl, rfl, rfl, Nat.le_refl _, fun _ _ _ => rfl⟩
theorem Only.alloc {b : Nat} {a w : World} (h : Only b a w) (o : Obj) : Only b a (w.alloc o) := h.trans ⟨rfl, rfl, rfl, by simp, fun k hk _ => Below.heap_alloc _ _ _ hk⟩
theorem Only.setCell {b : Nat} {a w : World} (h : Only b a w) {p : Addr} (hp : p.block = b ∨ a.heap.size ≤ p.block) (u : Value) : Only b a (w.setCell p u) :=
  ⟨h.os, h.tape, h.output, by simpa [World.setCell] using h.size, fun k hk hb => by rw [Below.heap_setCell _ _ _ _ (by omega)]; exact h.block k hk hb⟩
theorem Only.below {b : Nat} {a w w' : World} (h : Only b a w) (k : Below w.heap.size w w') : Only b a w' :=
  h.trans ⟨k.os, k.tape, k.output, k.size, fun i hi _ => k.block i hi⟩
theorem Only.toBelow {b B : Nat} {w w' : World} (h : Only b w w') (hb : B ≤ b) (hB : B ≤ w.heap.size) : Below B w w' :=
  ⟨h.os, h.tape, h.output, h.size, fun i hi => h.block i (by omega) (by omega)⟩
theorem Only.cell {b : Nat} {w w' : World} (h : Only b w w') {q : Addr} (hq : q.block < w.heap.size) (hb : q.block ≠ b) : w'.cell? q = w.cell? q := World.cell?_of_block (w := w) (h.block q.block hq hb)
theorem Only.frozen {b : Nat} {w w' : World} (h : Only b w w') {q : Addr} (hq : q.block < w.heap.size) (hb : q.block ≠ b) : w'.frozen? q = w.frozen? q := World.frozen?_of_block (w := w) (h.block q.block hq hb)

theorem ret_bool {a b : Bool} (h : a = b) : Ending.returned (.bool a) = .returned (.bool b) := by rw [h]
theorem ret_int {k : IntKind} {a b : Int} (h : a = b) : Ending.returned (.int k a) = .returned (.int k b) := by rw [h]

theorem ret_str {a b : ByteArray} (h : a = b) : Ending.returned (.string a) = .returned (.string b) := by rw [h]

theorem wrap_in (x : Int) (h0 : -9223372036854775808 ≤ x) (h1 : x ≤ 9223372036854775807) : IntKind.i64.wrap x = x := by rw [IntKind.wrap_i64]; omega

set_option maxHeartbeats 400000 in
theorem within_any (x n : Int) (w : World) (h0 : 1 ≤ n) (h1 : n ≤ 9223372036854775807) (h2 : -9223372036854775808 ≤ x) (h3 : x ≤ 9223372036854775807) :
    Calls Tryz.prog 40 #[.int .i64 x, .int .i64 n] w fun e w' => e = .returned (.int .i64 (x % n)) ∧ w' = w := by
  have l1 := Int.lt_tmod_of_pos x (show 0 < n by omega)
  have l2 := Int.tmod_lt_of_pos x (show 0 < n by omega)
  go_enter Tryz.func40, Tryz.ntmps40
  go_wp2_with fail
  all_goals go_ret
  · exact ⟨ret_int (by rw [tmod_emod x n h0, if_pos (by assumption)]), rfl⟩
  · exact ⟨ret_int (by rw [tmod_emod x n h0, if_neg (by omega)]), rfl⟩

/-- A tape stands in block tb at place k. -/
def TapeAt (w : World) (tb : Nat) (LA : Option Addr) (n cap k : Nat) : Prop :=
  tb < w.heap.size ∧ w.cell? ⟨tb, 0, none⟩ = some (.slice LA n cap) ∧ w.cell? ⟨tb, 1, none⟩ = some (.int .i64 (k : Int)) ∧ w.frozen? ⟨tb, 1, none⟩ = false

/-- What the tape gives below n at place k, and where it stands then. -/
def nextV (ns : List Int) (k : Nat) (n : Int) : Int := if k < ns.length ∧ 1 ≤ n then ns.getD k 0 % n else 0
def nextK (ns : List Int) (k : Nat) (n : Int) : Nat := if k < ns.length ∧ 1 ≤ n then k + 1 else k

set_option maxHeartbeats 400000 in
theorem more_any (w : World) (tb : Nat) (LA : Option Addr) (n cap k : Nat) (ht : TapeAt w tb LA n cap k) (hn : n ≤ 9223372036854775807) :
    Calls Tryz.prog 39 #[.pointer (some ⟨tb, 0, none⟩)] w fun e w' => e = .returned (.bool (decide (k < n))) ∧ ∃ m, w' = w.drewN m := by
  obtain ⟨t0, t1, t2, t3⟩ := ht
  go_enter Tryz.func39, Tryz.ntmps39
  go_wp2_with fail
  go_quiet (fail)
  go_wp2_with fail
  go_ret
  exact ⟨ret_bool (by simp), _, rfl⟩

set_option maxHeartbeats 1000000 in
theorem next_any (w : World) (tb B : Nat) (LA : Option Addr) (ns : List Int) (cap k : Nat) (n : Int) (ht : TapeAt w tb LA ns.length cap k) (hB : B ≤ tb) (hns : NumsAt w B ns LA) (hf : NumsFit ns) (hn : n ≤ 1000) (hn0 : -1000 ≤ n) (hk : k ≤ ns.length) :
    Calls Tryz.prog 18 #[.pointer (some ⟨tb, 0, none⟩), .int .i64 n] w fun e w' => e = .returned (.int .i64 (nextV ns k n)) ∧ Only tb w w' ∧ TapeAt w' tb LA ns.length cap (nextK ns k n) := by
  have ht' := ht
  obtain ⟨t0, t1, t2, t3⟩ := ht
  have hl := hf.1
  by_cases h1 : k < ns.length
  · by_cases h2 : 1 ≤ n
    · obtain ⟨lb, lo, rfl, hlb, hcells⟩ : ∃ lb lo, LA = some ⟨lb, lo, none⟩ ∧ lb < B ∧ ∀ i, i < ns.length → w.cell? ⟨lb, lo + i, none⟩ = some (.int .i64 (ns.getD i 0)) := by
        rcases hns with h | h
        · rw [h] at h1; simp at h1
        · exact h
      have hck := hcells k h1
      have hfk := hf.2 k
      generalize hx0 : ns.getD k 0 = x at *
      have hx : Hid (ns.getD k 0 = x) := hx0
      clear hx0 hcells
      have hne : ¬ tb = lb := by omega
      go_enter Tryz.func18, Tryz.ntmps18
      go_wp2_with fail
      refine (more_any _ tb _ ns.length cap k ht' hl).mono ?_
      rintro e w1 ⟨rfl, m, rfl⟩
      go_wp2_with fail
      go_quiet ((go_at_call 40; exact Calls.quiet_of_same (within_any _ _ _ h2 (by omega) hfk.1 hfk.2)))
      go_wp2_with fail
      go_ret
      refine ⟨ret_int (by rw [nextV, if_pos ⟨h1, h2⟩, hx.out]), ?_, ?_⟩
      · exact (by repeat (first | exact Only.refl _ _ | assumption | refine Only.below ?_ (by assumption) | refine Only.drewN ?_ _ | refine Only.drew ?_ | refine Only.alloc ?_ _ | refine Only.setCell ?_ (by simp) _))
      · rw [nextK, if_pos ⟨h1, h2⟩]
        exact ⟨by simpa using t0, by simp [go_sem, t1], by simp [go_sem, t2], by simp [go_sem, t3]⟩
    · go_enter Tryz.func18, Tryz.ntmps18
      go_wp2_with fail
      refine (more_any _ tb LA ns.length cap k ht' hl).mono ?_
      rintro e w1 ⟨rfl, m, rfl⟩
      go_wp2_with fail
      go_ret
      exact ⟨ret_int (by rw [nextV, if_neg (by omega)]), Only.drewN (Only.refl _ _) _, by rw [nextK, if_neg (by omega)]; exact ht'⟩
  · have h1' : decide (k < ns.length) = false := by simpa using h1
    go_enter Tryz.func18, Tryz.ntmps18
    go_wp2_with fail
    refine (more_any _ tb LA ns.length cap k ht' hl).mono ?_
    rintro e w1 ⟨rfl, m, rfl⟩
    go_wp2_with fail
    go_ret
    exact ⟨ret_int (by rw [nextV, if_neg (by omega)]), Only.drewN (Only.refl _ _) _, by rw [nextK, if_neg (by omega)]; exact ht'⟩

theorem nextV_lo (ns : List Int) (k : Nat) (n : Int) : 0 ≤ nextV ns k n := by
  unfold nextV; split
  · exact Int.emod_nonneg _ (by omega)
  · omega
theorem nextV_hi (ns : List Int) (k : Nat) (n : Int) (h : 1 ≤ n) : nextV ns k n < n := by
  unfold nextV; split
  · exact Int.emod_lt_of_pos _ (by omega)
  · omega
theorem nextK_le (ns : List Int) (k : Nat) (n : Int) (h : k ≤ ns.length) : nextK ns k n ≤ ns.length := by
  unfold nextK; split <;> omega

set_option maxHeartbeats 1000000 in
theorem pick_any (w : World) (tb B : Nat) (LA : Option Addr) (ns : List Int) (cap k sb : Nat) (ss : List ByteArray) (sc : Nat) (ht : TapeAt w tb LA ns.length cap k) (hB : B ≤ tb) (hns : NumsAt w B ns LA) (hf : NumsFit ns) (hk : k ≤ ns.length)
    (h1 : 1 ≤ ss.length) (h2 : ss.length ≤ 1000) (hne : sb ≠ tb) (hsb : sb < w.heap.size) (hss : ∀ i, i < ss.length → w.cell? ⟨sb, i, none⟩ = some (.string (ss.getD i ByteArray.empty))) :
    Calls Tryz.prog 19 #[.pointer (some ⟨tb, 0, none⟩), .slice (some ⟨sb, 0, none⟩) ss.length sc] w fun e w' =>
      e = .returned (.string (ss.getD (nextV ns k ss.length).toNat ByteArray.empty)) ∧ Only tb w w' ∧ TapeAt w' tb LA ns.length cap (nextK ns k ss.length) := by
  have c0 : ((ss.length : Int) == 0) = false := beq_eq_false_iff_ne.2 (by omega)
  go_enter Tryz.func19, Tryz.ntmps19
  go_wp2_with fail
  refine (next_any w tb B LA ns cap k ss.length ht hB hns hf (by omega) (by omega) hk).mono ?_
  rintro e w1 ⟨rfl, ho, ht1⟩
  have l1 := nextV_lo ns k ss.length
  have l2 := nextV_hi ns k ss.length (by omega)
  have hc := (ho.cell (q := ⟨sb, (nextV ns k ss.length).toNat, none⟩) hsb hne).trans (hss (nextV ns k ss.length).toNat (by omega))
  generalize hx0 : nextV ns k ss.length = x at *
  have hx : Hid (nextV ns k ss.length = x) := hx0
  generalize hy0 : ss.getD x.toNat ByteArray.empty = y at *
  have hy : Hid (ss.getD x.toNat ByteArray.empty = y) := hy0
  clear hx0 hss hy0
  go_wp2_with fail
  go_ret
  exact ⟨ret_str (by rw [hx.out, hy.out]), ho, ht1⟩

theorem NumsAt.only {w w' : World} {B tb : Nat} {ns : List Int} {LA : Option Addr} (h : NumsAt w B ns LA) (ho : Only tb w w') (hB : B ≤ tb) (ht : tb < w.heap.size) : NumsAt w' B ns LA := by
  rcases h with h | ⟨lb, lo, e, hl, hc⟩
  · exact .inl h
  · exact .inr ⟨lb, lo, e, hl, fun i hi => by rw [ho.cell (by simp; omega) (by simp; omega)]; exact hc i hi⟩

theorem TapeAt.only {w w' : World} {tb : Nat} {LA : Option Addr} {n cap k : Nat} (h : TapeAt w tb LA n cap k) (ho : Below w.heap.size w w') : TapeAt w' tb LA n cap k := by
  obtain ⟨t0, t1, t2, t3⟩ := h
  exact ⟨Nat.lt_of_lt_of_le t0 ho.size, by rw [ho.cell t0]; exact t1, by rw [ho.cell t0]; exact t2, by rw [ho.frozen t0]; exact t3⟩

theorem below_tr {w w1 w2 : World} (h : Below w.heap.size w w1) (k : Below w1.heap.size w1 w2) : Below w.heap.size w w2 := h.trans (k.mono h.size)

end Go.Proofs.YtfoeeocejcbmlaaGreatDoor
