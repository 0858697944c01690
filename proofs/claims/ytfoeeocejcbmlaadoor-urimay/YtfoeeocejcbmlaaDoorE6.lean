import Derived.Test.YtfoeeocejcbmlaaDoorE5
import Derived.Deep.RegionHeld3
namespace Go.Proofs.YtfoeeocejcbmlaaDoor
open Go.RowKit
set_option linter.unusedVariables false
set_option linter.unusedSimpArgs false

theorem drop_ne (s : ByteArray) (i : Nat) (h : i < s.size) : s.data.toList.drop i ≠ [] := by
  intro e
  have := congrArg List.length e
  rw [List.length_drop, size_list] at this
  simp at this; omega
theorem drop_at (s : ByteArray) (i k : Nat) (h : i + k < s.size) : ((s.data.toList.drop i).getD k 0).toNat = bN s (i + k) := by
  rw [← getD_bN s (i + k) h]
  simp [List.getD_eq_getElem?_getD, List.getElem?_drop]
theorem drop_u8 (s : ByteArray) (i : Nat) (h : i < s.size) : (s.data.toList.drop i).getD 0 0 = UInt8.ofNat (bN s i) := by
  have := drop_at s i 0 h
  exact UInt8.toNat_inj.1 (by rw [this]; have := bN_lt s i; simp; omega)

theorem rdec_end (form : Bool) (f : Nat) (l acc : List UInt8) (h : l = []) : rdec form f l acc = some acc := by
  subst h; cases f <;> simp [rdec]
theorem rdec_plain (form : Bool) (s : ByteArray) (f i : Nat) (acc : List UInt8) (h : i < s.size) (hp : plainB (bN s i : Int) = true) :
    rdec form (f + 1) (s.data.toList.drop i) acc = rdec form f (s.data.toList.drop (i + 1)) (acc ++ [UInt8.ofNat (bN s i)]) := by
  rw [rdec, if_neg (drop_ne s i h), drop_at s i 0 h, Nat.add_zero, if_pos hp, List.drop_drop, drop_u8 s i h]
theorem rdec_plus (s : ByteArray) (f i : Nat) (acc : List UInt8) (h : i < s.size) (hp : bN s i = 43) :
    rdec true (f + 1) (s.data.toList.drop i) acc = rdec true f (s.data.toList.drop (i + 1)) (acc ++ [32]) := by
  rw [rdec, if_neg (drop_ne s i h), drop_at s i 0 h, Nat.add_zero, hp, if_neg (by decide), if_pos ⟨rfl, rfl⟩, List.drop_drop]
theorem rdec_pct (form : Bool) (s : ByteArray) (f i : Nat) (acc : List UInt8) (h : i + 2 < s.size) (hp : bN s i = 37) (h1 : 0 ≤ digN (bN s (i + 1))) (h2 : 0 ≤ digN (bN s (i + 2))) :
    rdec form (f + 1) (s.data.toList.drop i) acc = rdec form f (s.data.toList.drop (i + 3)) (acc ++ [UInt8.ofNat (digN (bN s (i + 1)) * 16 + digN (bN s (i + 2))).toNat]) := by
  rw [rdec, if_neg (drop_ne s i (by omega)), drop_at s i 0 (by omega), Nat.add_zero, hp, if_neg (by decide), if_neg (by simp), drop_at s i 1 (by omega), drop_at s i 2 (by omega), if_pos ⟨rfl, by rw [List.length_drop, size_list]; omega, h1, h2⟩, List.drop_drop]
theorem rdec_bad (form : Bool) (s : ByteArray) (f i : Nat) (acc : List UInt8) (h : i < s.size) (hp : plainB (bN s i : Int) = false) (h1 : ¬ (form = true ∧ bN s i = 43)) (h2 : ¬ (bN s i = 37 ∧ i + 2 < s.size ∧ 0 ≤ digN (bN s (i + 1)) ∧ 0 ≤ digN (bN s (i + 2)))) :
    rdec form f (s.data.toList.drop i) acc = none := by
  cases f with
  | zero => rw [rdec, if_neg (drop_ne s i h)]
  | succ f =>
    rw [rdec, if_neg (drop_ne s i h), drop_at s i 0 h, Nat.add_zero, if_neg (by rw [hp]; simp), if_neg h1, if_neg]
    rintro ⟨a, b, c, d⟩
    rw [List.length_drop, size_list] at b
    rw [drop_at s i 1 (by omega)] at c
    rw [drop_at s i 2 (by omega)] at d
    exact h2 ⟨a, by omega, c, d⟩

theorem digN_lo (c : Nat) : -1 ≤ digN c := by unfold digN; (repeat' split) <;> omega
theorem digN_hi (c : Nat) : digN c ≤ 15 := by unfold digN; (repeat' split) <;> omega

theorem below_endD {wr w6 : World} {B : Nat} {o : Obj} {u v6 : Value} {xs : List UInt8} (hown : OwnB wr B u xs) (hg : (wr.alloc o).drew.grownBy w6 u.ownBlock) (hat : v6.ownBlock = u.ownBlock ∨ v6.ownBlock = some (wr.alloc o).drew.heap.size) (hB : B ≤ wr.heap.size) : Below B wr w6 :=
  (Grew.step ((Grew.refl wr u).alloc o).drew hg hat).toBelow (fun q hq => (hown.base q hq).1) hB

/-- What the reference's Dec has come to at i. -/
def RdRel (form : Bool) (s : ByteArray) (w : World) (ov iv : Value) (wr : World) : Prop :=
  ∃ (i fuel : Nat) (acc : List UInt8), iv = .int .i64 (i : Int) ∧ i ≤ s.size ∧ OwnB wr w.heap.size ov acc ∧ Below w.heap.size w wr ∧ s.size ≤ i + fuel ∧ acc.length ≤ i ∧ rdec form fuel (s.data.toList.drop i) acc = rdec form s.size s.data.toList []

end Go.Proofs.YtfoeeocejcbmlaaDoor
