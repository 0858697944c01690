import Derived.Test.YtgmmbfnmojjbkaaGreatDoorF0
import Derived.Test.YtgmmbfnmojjbkaaGreatDoorAB
import Derived.Test.YtgmmbfnmojjbkaaGreatDoorBY
import Derived.Test.YtgmmbfnmojjbkaaGreatDoorShelf
import Derived.Laws.BitsAllLaws
import Derived.Deep.RegionHeld3
import Derived.Test.YtgmmbfnmojjbkaaGreatDoorD0
import Derived.Test.YtgmmbfnmojjbkaaGreatDoorBA
import Derived.Laws.IdiomStrings
namespace Go.Proofs.YtgmmbfnmojjbkaaGreatDoor
open Go.RowKit
set_option linter.unusedVariables false
set_option linter.unusedSimpArgs false

theorem sg_idx_fin : ∀ n : Fin 64, (⟨#[65, 66, 67, 68, 69, 70, 71, 72, 73, 74, 75, 76, 77, 78, 79, 80, 81, 82, 83, 84, 85, 86, 87, 88, 89, 90, 97, 98, 99, 100, 101, 102, 103, 104, 105, 106, 107, 108, 109, 110, 111, 112, 113, 114, 115, 116, 117, 118, 119, 120, 121, 122, 48, 49, 50, 51, 52, 53, 54, 55, 56, 57, 45, 95]⟩ : ByteArray).get! n.1 = sg n.1 := by decide +kernel

theorem or_byte3 (a b c : Nat) (ha : a < 256) (hb : b < 256) (hc : c < 256) : bits .or .i64 (bits .or .i64 ((a : Int) * 65536) ((b : Int) * 256)) (c : Int) = ((a * 65536 + b * 256 + c : Nat) : Int) := by
  have w1 : IntKind.i64.wrap ((a * 65536 ||| b * 256 : Nat) : Int) = ((a * 65536 + b * 256 : Nat) : Int) := by
    have e : a * 65536 ||| b * 256 = a * 65536 + b * 256 := by
      have := Nat.two_pow_add_eq_or_of_lt (i := 16) (b := b * 256) (by omega) a
      rw [show 2 ^ 16 * a = a * 65536 from by omega] at this
      exact this.symm
    rw [e, IntKind.wrap_i64]; omega
  have h1 : bits .or .i64 ((a : Int) * 65536) ((b : Int) * 256) = ((a * 65536 + b * 256 : Nat) : Int) := by
    rw [show (a : Int) * 65536 = ((a * 65536 : Nat) : Int) from by omega, show (b : Int) * 256 = ((b * 256 : Nat) : Int) from by omega]
    show IntKind.i64.wrap ((BitVec.ofInt 64 ((a * 65536 : Nat) : Int) ||| BitVec.ofInt 64 ((b * 256 : Nat) : Int)).toNat : Int) = _
    rw [BitVec.toNat_or, ofInt_u64 _ (by omega), ofInt_u64 _ (by omega), w1]
  rw [h1]
  show IntKind.i64.wrap ((BitVec.ofInt 64 ((a * 65536 + b * 256 : Nat) : Int) ||| BitVec.ofInt 64 (c : Int)).toNat : Int) = _
  have e : a * 65536 + b * 256 ||| c = a * 65536 + b * 256 + c := by
    have := Nat.two_pow_add_eq_or_of_lt (i := 8) (b := c) (by omega) (a * 256 + b)
    rw [show 2 ^ 8 * (a * 256 + b) = a * 65536 + b * 256 from by omega] at this
    exact this.symm
  rw [BitVec.toNat_or, ofInt_u64 _ (by omega), ofInt_u64 _ (by omega), e, IntKind.wrap_i64]
  omega

theorem and63 (n : Nat) (h : n < 9223372036854775808) : bits .and .i64 (n : Int) 63 = ((n % 64 : Nat) : Int) := by
  show IntKind.i64.wrap ((BitVec.ofInt 64 (n : Int) &&& BitVec.ofInt 64 ((63 : Nat) : Int)).toNat : Int) = _
  rw [BitVec.toNat_and, ofInt_u64 _ (by omega), ofInt_u64 _ (by omega), show (63 : Nat) = 2 ^ 6 - 1 from rfl, Nat.and_two_pow_sub_one_eq_mod, IntKind.wrap_i64]
  omega

theorem sg_index (i : Nat) (h : i < 64) (x : Nat) (hx : x = (sg i).toNat) (W : World) : (Instr.index 9 (.string ⟨#[65, 66, 67, 68, 69, 70, 71, 72, 73, 74, 75, 76, 77, 78, 79, 80, 81, 82, 83, 84, 85, 86, 87, 88, 89, 90, 97, 98, 99, 100, 101, 102, 103, 104, 105, 106, 107, 108, 109, 110, 111, 112, 113, 114, 115, 116, 117, 118, 119, 120, 121, 122, 48, 49, 50, 51, 52, 53, 54, 55, 56, 57, 45, 95]⟩) (.int .i64 (i : Int))).run Tryz.prog W = .ok (.int .u8 (x : Int)) W := by
  subst hx
  have h2 := sg_idx_fin ⟨i, h⟩
  simp only at h2
  rw [← h2]
  generalize hs : (⟨#[65, 66, 67, 68, 69, 70, 71, 72, 73, 74, 75, 76, 77, 78, 79, 80, 81, 82, 83, 84, 85, 86, 87, 88, 89, 90, 97, 98, 99, 100, 101, 102, 103, 104, 105, 106, 107, 108, 109, 110, 111, 112, 113, 114, 115, 116, 117, 118, 119, 120, 121, 122, 48, 49, 50, 51, 52, 53, 54, 55, 56, 57, 45, 95]⟩ : ByteArray) = s at *
  have hp : i < s.size := by rw [← hs]; exact h
  have e : s.get! i = s[i]'hp := by
    rcases s with ⟨a⟩
    show a[i]! = a[i]
    exact getElem!_pos a i hp
  rw [e]
  simp [go_sem, hp]

set_option maxRecDepth 100000 in
set_option maxHeartbeats 1000000 in
theorem bwritten_any (a b c : Nat) (ha : a < 256) (hb : b < 256) (hc : c < 256) (w : World) :
    Calls Tryz.prog 56 #[.agg #[.int .u8 (a : Int), .int .u8 (b : Int), .int .u8 (c : Int)]] w fun e w' => e = .returned (.agg #[.int .u8 ((sg (a / 4)).toNat : Int), .int .u8 ((sg (a % 4 * 16 + b / 16)).toNat : Int), .int .u8 ((sg (b % 16 * 4 + c / 64)).toNat : Int), .int .u8 ((sg (c % 64)).toNat : Int)]) ∧ Below w.heap.size w w' := by
  have hor := or_byte3 a b c ha hb hc
  have Hor : Hid (bits .or .i64 (bits .or .i64 ((a : Int) * 65536) ((b : Int) * 256)) (c : Int) = ((a * 65536 + b * 256 + c : Nat) : Int)) := hor
  clear hor
  go_enter Tryz.func56, Tryz.ntmps56
  go_wp2_with fail
  rw [Hor.out]
  generalize hn : a * 65536 + b * 256 + c = n
  have hn1 : n < 16777216 := by omega
  obtain ⟨i0, hi0⟩ : ∃ i, i = a / 4 := ⟨_, rfl⟩
  obtain ⟨i1, hi1⟩ : ∃ i, i = a % 4 * 16 + b / 16 := ⟨_, rfl⟩
  obtain ⟨i2, hi2⟩ : ∃ i, i = b % 16 * 4 + c / 64 := ⟨_, rfl⟩
  obtain ⟨i3, hi3⟩ : ∃ i, i = c % 64 := ⟨_, rfl⟩
  have q0 : (n : Int) / 262144 = (i0 : Int) := by omega
  have q1 : bits .and .i64 ((n : Int) / 4096) 63 = (i1 : Int) := by
    rw [show (n : Int) / 4096 = ((n / 4096 : Nat) : Int) from by omega, and63 _ (by omega)]; congr 1; omega
  have q2 : bits .and .i64 ((n : Int) / 64) 63 = (i2 : Int) := by
    rw [show (n : Int) / 64 = ((n / 64 : Nat) : Int) from by omega, and63 _ (by omega)]; congr 1; omega
  have q3 : bits .and .i64 (n : Int) 63 = (i3 : Int) := by
    rw [and63 _ (by omega)]; congr 1; omega
  obtain ⟨y0, hy0⟩ : ∃ y, y = (sg i0).toNat := ⟨_, rfl⟩
  obtain ⟨y1, hy1⟩ : ∃ y, y = (sg i1).toNat := ⟨_, rfl⟩
  obtain ⟨y2, hy2⟩ : ∃ y, y = (sg i2).toNat := ⟨_, rfl⟩
  obtain ⟨y3, hy3⟩ : ∃ y, y = (sg i3).toNat := ⟨_, rfl⟩
  have x0 := sg_index i0 (by omega) y0 hy0
  have x1 := sg_index i1 (by omega) y1 hy1
  have x2 := sg_index i2 (by omega) y2 hy2
  have x3 := sg_index i3 (by omega) y3 hy3
  have HY : Hid ((y0 = (sg i0).toNat ∧ y1 = (sg i1).toNat ∧ y2 = (sg i2).toNat ∧ y3 = (sg i3).toNat) ∧ i0 = a / 4 ∧ i1 = a % 4 * 16 + b / 16 ∧ i2 = b % 16 * 4 + c / 64 ∧ i3 = c % 64) := ⟨⟨hy0, hy1, hy2, hy3⟩, hi0, hi1, hi2, hi3⟩
  clear hn hy0 hy1 hy2 hy3 hi0 hi1 hi2 hi3
  go_region
  clear x0 x1 x2 x3 q0 q1 q2 q3
  go_wp2_with fail
  refine bodyPost_ret (v := .agg #[.int .u8 (y0 : Int), .int .u8 (y1 : Int), .int .u8 (y2 : Int), .int .u8 (y3 : Int)]) (by simp [results, Tryz.results56, go_sem]) rfl ⟨?_, (((Below.refl _ _).alloc (Nat.le_refl _) _).alloc (by simp) _).drew⟩
  obtain ⟨⟨e0, e1, e2, e3⟩, j0, j1, j2, j3⟩ := HY.out
  rw [e0, e1, e2, e3, j0, j1, j2, j3]

end Go.Proofs.YtgmmbfnmojjbkaaGreatDoor

namespace Go.Proofs.YtgmmbfnmojjbkaaGreatDoor
open Go.RowKit
set_option linter.unusedVariables false
set_option linter.unusedSimpArgs false

theorem sgN_max (c : UInt8) : max (sgI c) 0 = (sgN c : Int) := by unfold sgN; omega

set_option maxRecDepth 100000 in
set_option maxHeartbeats 1000000 in
theorem bnumber_any (c : UInt8) (w : World) :
    Calls Tryz.prog 92 #[.int .u8 (c.toNat : Int)] w fun e w' => e = .returned (.int .i64 (sgN c : Int)) ∧ w' = w := by
  have hx := fun W => Tryz.strings_IndexByte ⟨#[65, 66, 67, 68, 69, 70, 71, 72, 73, 74, 75, 76, 77, 78, 79, 80, 81, 82, 83, 84, 85, 86, 87, 88, 89, 90, 97, 98, 99, 100, 101, 102, 103, 104, 105, 106, 107, 108, 109, 110, 111, 112, 113, 114, 115, 116, 117, 118, 119, 120, 121, 122, 48, 49, 50, 51, 52, 53, 54, 55, 56, 57, 45, 95]⟩ (c.toNat : Int) W
  have e : Lib.indexByte (⟨#[65, 66, 67, 68, 69, 70, 71, 72, 73, 74, 75, 76, 77, 78, 79, 80, 81, 82, 83, 84, 85, 86, 87, 88, 89, 90, 97, 98, 99, 100, 101, 102, 103, 104, 105, 106, 107, 108, 109, 110, 111, 112, 113, 114, 115, 116, 117, 118, 119, 120, 121, 122, 48, 49, 50, 51, 52, 53, 54, 55, 56, 57, 45, 95]⟩ : ByteArray).data.toList (c.toNat : Int).toNat.toUInt8 = sgI c := by
    rw [show (c.toNat : Int).toNat.toUInt8 = c from by simp]; rfl
  rw [e] at hx
  have hm := sgN_max c
  generalize sgI c = si at *
  generalize sgN c = sn at *
  have Hm : Hid (max si 0 = (sn : Int)) := hm
  clear e hm
  go_enter Tryz.func92, Tryz.ntmps92
  go_wp2_with fail
  refine (hx _).mono ?_
  rintro e w1 ⟨rfl, rfl⟩
  go_wp2_with fail
  go_ret
  exact ⟨ret_int Hm.out, rfl⟩

def upTo (l : List UInt8) (i : Nat) : Nat := (l.take i).foldl (fun v c => v * 64 + sgN c) 0

theorem upTo_next (a b c d : UInt8) (i : Nat) (hi : i < 4) : upTo [a, b, c, d] (i + 1) = upTo [a, b, c, d] i * 64 + sgN ([a, b, c, d].getD i 0) := by
  rcases (show i = 0 ∨ i = 1 ∨ i = 2 ∨ i = 3 by omega) with rfl | rfl | rfl | rfl <;> simp [upTo]
theorem upTo_lt (a b c d : UInt8) (i : Nat) (hi : i < 4) : upTo [a, b, c, d] i < 262144 := by
  have la := sgN_lt a
  have lb := sgN_lt b
  have lc := sgN_lt c
  rcases (show i = 0 ∨ i = 1 ∨ i = 2 ∨ i = 3 by omega) with rfl | rfl | rfl | rfl <;> simp [upTo] <;> omega
theorem upTo_all (a b c d : UInt8) : upTo [a, b, c, d] 4 = bits4 a b c d := by simp [upTo, bits4]

theorem or_six (v n : Nat) (hv : v < 262144) (hn : n < 64) : bits .or .i64 ((v : Int) * 64) (n : Int) = ((v * 64 + n : Nat) : Int) := by
  rw [show (v : Int) * 64 = ((v * 64 : Nat) : Int) from by omega]
  show IntKind.i64.wrap ((BitVec.ofInt 64 ((v * 64 : Nat) : Int) ||| BitVec.ofInt 64 (n : Int)).toNat : Int) = _
  have e : v * 64 ||| n = v * 64 + n := by
    have := Nat.two_pow_add_eq_or_of_lt (i := 6) (b := n) (by omega) v
    rw [show 2 ^ 6 * v = v * 64 from by omega] at this
    exact this.symm
  rw [BitVec.toNat_or, ofInt_u64 _ (by omega), ofInt_u64 _ (by omega), e, IntKind.wrap_i64]
  omega

theorem idx4 (a b c d : Int) (W : World) (i : Nat) (hi : i < 4) : (Instr.index 72 (.agg #[.int .u8 a, .int .u8 b, .int .u8 c, .int .u8 d]) (.int .i64 (i : Int))).run Tryz.prog W = .ok (.int .u8 ([a, b, c, d].getD i 0)) W := by
  rcases (show i = 0 ∨ i = 1 ∨ i = 2 ∨ i = 3 by omega) with rfl | rfl | rfl | rfl <;> kernel_rfl

theorem getD4 (a b c d : UInt8) (i : Nat) (hi : i < 4) : [(a.toNat : Int), (b.toNat : Int), (c.toNat : Int), (d.toNat : Int)].getD i 0 = (([a, b, c, d].getD i 0).toNat : Int) := by
  rcases (show i = 0 ∨ i = 1 ∨ i = 2 ∨ i = 3 by omega) with rfl | rfl | rfl | rfl <;> rfl

theorem u8_nat (n : Nat) : ((UInt8.ofNat n).toNat : Int) = (n : Int) % 256 := by simp

set_option maxRecDepth 100000 in
set_option maxHeartbeats 1000000 in
theorem bread_any (a b c d : UInt8) (w : World) :
    Calls Tryz.prog 82 #[.agg #[.int .u8 (a.toNat : Int), .int .u8 (b.toNat : Int), .int .u8 (c.toNat : Int), .int .u8 (d.toNat : Int)]] w fun e w' => e = .returned (.agg #[.int .u8 ((UInt8.ofNat (bits4 a b c d / 65536)).toNat : Int), .int .u8 ((UInt8.ofNat (bits4 a b c d / 256)).toNat : Int), .int .u8 ((UInt8.ofNat (bits4 a b c d)).toNat : Int)]) ∧ Below w.heap.size w w' := by
  go_enter Tryz.func82, Tryz.ntmps82
  go_wp2_with fail
  go_loopw [3, 7] (fun bv iv wr => ∃ i : Nat, iv = .int .i64 (i : Int) ∧ i ≤ 4 ∧ bv = .int .i64 (upTo [a, b, c, d] i : Int) ∧ wr = ((w.alloc (.cells #[.int .u8 (a.toNat : Int), .int .u8 (b.toNat : Int), .int .u8 (c.toNat : Int), .int .u8 (d.toNat : Int)] 72)).alloc (.cells #[.int .u8 0, .int .u8 0, .int .u8 0] 74))) (fun _ iv _ => 4 - (intOf iv).toNat)
  case atStart => exact ⟨0, rfl, by omega, rfl, rfl⟩
  case round =>
    obtain ⟨i, rfl, hi, rfl, rfl⟩ := hrel
    by_cases hp : i < 4
    · have hp' : (i : Int) < 4 := by omega
      have hix := fun W => idx4 (a.toNat : Int) (b.toNat : Int) (c.toNat : Int) (d.toNat : Int) W i hp
      rw [getD4 a b c d i hp] at hix
      have hup := upTo_next a b c d i hp
      have hlt := upTo_lt a b c d i hp
      have hn := fun W => bnumber_any ([a, b, c, d].getD i 0) W
      have hnl := sgN_lt ([a, b, c, d].getD i 0)
      have hor := or_six _ _ hlt hnl
      generalize [a, b, c, d].getD i 0 = x at *
      have Hup : Hid (upTo [a, b, c, d] (i + 1) = upTo [a, b, c, d] i * 64 + sgN x) := hup
      generalize hv0 : upTo [a, b, c, d] i = v at *
      have Hv : Hid (upTo [a, b, c, d] i = v) := hv0
      clear hup hv0
      have Hor : Hid (bits .or .i64 ((v : Int) * 64) (sgN x : Int) = ((v * 64 + sgN x : Nat) : Int)) := hor
      clear hor
      go_wp2_with (go_at_call 92; refine (hn _).mono ?_; rintro e w1 ⟨rfl, rfl⟩)
      rw [Hor.out]
      go_roundw
      case rel => exact ⟨i + 1, by simp, by omega, by rw [Hup.out], trivial⟩
      case measure =>
        simp [intOf]
        omega
    · have hp' : ¬ (i : Int) < 4 := by omega
      obtain rfl : i = 4 := by omega
      have hb : bits4 a b c d < 16777216 := by
        have la := sgN_lt a
        have lb := sgN_lt b
        have lc := sgN_lt c
        have ld := sgN_lt d
        unfold bits4; omega
      rw [upTo_all]
      obtain ⟨n, hn0⟩ : ∃ n, n = bits4 a b c d := ⟨_, rfl⟩
      rw [← hn0] at hb ⊢
      have HN : Hid (n = bits4 a b c d) := hn0
      clear hn0
      go_wp2_with fail
      refine bodyPost_ret (v := .agg #[.int .u8 ((n : Int) / 65536), .int .u8 ((n : Int) / 256 % 256), .int .u8 ((n : Int) % 256)]) (by simp [results, Tryz.results82, go_sem]) rfl ⟨?_, (by repeat (first | exact Below.refl _ _ | assumption | refine below_drewN ?_ _ | refine Below.drew ?_ | refine Below.alloc ?_ (by simp <;> omega) _ | refine Below.setCell ?_ (by simp <;> omega) _))⟩
      rw [← HN.out]
      simp
      omega

end Go.Proofs.YtgmmbfnmojjbkaaGreatDoor

namespace Go.Proofs.YtgmmbfnmojjbkaaGreatDoor
open Go.RowKit
set_option linter.unusedVariables false
set_option linter.unusedSimpArgs false

theorem OwnB.byAt {w : World} {B : Nat} {v : Value} {xs : List UInt8} (h : OwnB w B v xs) : ∃ A cap, v = .slice A xs.length cap ∧ ByAt w w.heap.size A xs ∧ xs.length ≤ cap ∧ cap ≤ maxLen := by
  obtain ⟨A, cap, rfl, hA, h1, h2⟩ := h.value
  refine ⟨A, cap, rfl, ?_, h1, h2⟩
  rcases hA with h0 | ⟨g, rfl, _, hg⟩
  · exact .inl (List.eq_nil_of_length_eq_zero h0)
  · refine .inr ⟨g, 0, rfl, hg, fun i hi => ?_⟩
    have := World.ownsRow.cellAt h i (by omega)
    rw [Nat.zero_add, this]
    simp [Lib.byteCells, List.getD, List.getElem?_eq_getElem hi]

theorem slice_full (A : Option Addr) (n cap : Nat) (h : n ≤ cap) (W : World) : (Instr.slice 43 (.slice A n cap) none (some (.int .i64 (n : Int))) (some (.int .i64 (n : Int)))).run Tryz.prog W = .ok (.slice A n n) W := by
  rw [run_slice_hm (P := Tryz.prog) W 43 A n cap (by rw [show Tryz.prog.elem 43 = 5 from by kernel_rfl]; exact Tryz.underlying43) _ _ _ _ (by omega) (by omega) (by omega)]
  rw [show (sizeOf (Tryz.prog.elem 43)).run Tryz.prog W = .ok 1 W from by rw [show Tryz.prog.elem 43 = 5 from by kernel_rfl]; kernel_rfl]
  cases A <;> simp [Result.andThen, sliced, Addr.add]

theorem slice_to (A : Option Addr) (n cap m : Nat) (h : m ≤ cap) (W : World) : (Instr.slice 43 (.slice A n cap) none (some (.int .i64 (m : Int))) none).run Tryz.prog W = .ok (.slice A m cap) W := by
  rw [run_slice_h (P := Tryz.prog) W 43 A n cap (by rw [show Tryz.prog.elem 43 = 5 from by kernel_rfl]; exact Tryz.underlying43) _ _ (by omega) (by omega)]
  rw [show (sizeOf (Tryz.prog.elem 43)).run Tryz.prog W = .ok 1 W from by rw [show Tryz.prog.elem 43 = 5 from by kernel_rfl]; kernel_rfl]
  cases A <;> simp [Result.andThen, sliced, Addr.add]

theorem slice_from (A : Option Addr) (n cap k : Nat) (h : k ≤ n) (W : World) : (Instr.slice 43 (.slice A n cap) (some (.int .i64 (k : Int))) none none).run Tryz.prog W = .ok (.slice (if cap = k then A else A.map (·.add k)) (n - k) (cap - k)) W := by
  rw [run_slice_l (P := Tryz.prog) W 43 A n cap (by rw [show Tryz.prog.elem 43 = 5 from by kernel_rfl]; exact Tryz.underlying43) _ _ (by omega) (by omega)]
  rw [show (sizeOf (Tryz.prog.elem 43)).run Tryz.prog W = .ok 1 W from by rw [show Tryz.prog.elem 43 = 5 from by kernel_rfl]; kernel_rfl]
  simp [Result.andThen, sliced]

section
variable {P : Program} (w : World)

/-- 'append(s, x...)' onto a row that is full, whosever it is: a new one. -/
theorem run_append_full (t ty e : TypeId) (i : TypeInfo) (z : Value) (ht : P.underlying t = some (.slice e)) (hi : P.info? e = some i) (hz : i.zero = some z) (hsize : i.size = 1) (hby : i.bytes = 1) (hzs : z.cells.size = 1)
    (b : Addr) (n : Nat) (olds : List Value) (hlo : olds.length = n) (holds : ∀ j v, olds[j]? = some v → w.cell? (b.add j) = some v)
    (a : Addr) (m c : Nat) (news : List Value) (hl : news.length = m) (hnews : ∀ j v, news[j]? = some v → w.cell? (a.add j) = some v) (hm : 0 < m) (h63 : n + m ≤ maxLen) (hbytes : n + m ≤ 140737488355328) (B : Nat) (hB : B ≤ w.heap.size) :
    ∃ v' w', (Builtin.append_ #[t, t] ty #[.slice (some b) n n, .slice (some a) m c]).run P w = .ok v' w' ∧ w'.ownsRow B e 1 v' (n + m) (olds ++ news) ∧ Below w.heap.size w w' := by
  have hr := run_append_grow (P := P) w t ty e i z ht hi hz b n n olds (by rw [hsize]; omega) holds a m c news (by rw [hsize]; omega) hnews (by omega) (by simp only [maxLen] at h63; omega) (growslice_fits (by omega) (by rw [hby]; omega))
  have hge := grownCap_ge w (n + m) n e
  have hcm : grownCap w (n + m) n e ≤ maxLen := grownCap_le_maxLen w (n + m) n e h63
  refine ⟨_, _, hr, ⟨by simp [hlo, hl], .inr ⟨w.heap.size, _, _, rfl, hB, heap_alloc_new w.drew _, hge, hcm, ?_, ?_⟩⟩, ((Below.refl _ w).drew).alloc (by simp) _⟩
  · simp only [Array.size_append, List.size_toArray, size_zeroCells, hzs, hlo, hl]
    omega
  · simp only [Array.toList_append, List.append_assoc]
    rw [← List.append_assoc, show (n + m) * 1 = (olds ++ news).length from by simp [hlo, hl]]
    exact List.take_left

theorem wpList_append_full {ops : Array Oper} {rest : List Oper} {o : Oper} {a : Act} {Q : Exit → Act → World → Prop} (hgd : o.guard = none) (s x : Operand) (t : TypeId)
    (ho : o.op = .call { callee := .builtin .append, args := #[s, x], argTypes := #[t, t] })
    (e : TypeId) (i : TypeInfo) (z : Value) (ht : P.underlying t = some (.slice e)) (hi : P.info? e = some i) (hz : i.zero = some z) (hsize : i.size = 1) (hby : i.bytes = 1) (hzs : z.cells.size = 1)
    (b : Addr) (n : Nat) (olds : List Value) (hs : a.eval s = .slice (some b) n n) (hlo : olds.length = n) (holds : ∀ j v, olds[j]? = some v → w.cell? (b.add j) = some v)
    (ad : Addr) (m c : Nat) (news : List Value) (hx : a.eval x = .slice (some ad) m c) (hl : news.length = m) (hnews : ∀ j v, news[j]? = some v → w.cell? (ad.add j) = some v) (hm : 0 < m) (h63 : n + m ≤ maxLen) (hbytes : n + m ≤ 140737488355328) (B : Nat) (hB : B ≤ w.heap.size)
    (h : ∀ v' w', w'.ownsRow B e 1 v' (n + m) (olds ++ news) → Below w.heap.size w w' → wpList P ops Q rest (a.put o.dst v') w') : wpList P ops Q (o :: rest) a w := by
  refine wpList_plain hgd fun K hK => ?_
  obtain ⟨v', w', hr, h2, h3⟩ := run_append_full (P := P) w t o.type e i z ht hi hz hsize hby hzs b n olds hlo holds ad m c news hl hnews hm h63 hbytes B hB
  unfold Oper.wp execOp
  simp only [ho, resolve, invoke, builtin, Sem.run_bind, Sem.run_pure, Result.andThen_ok, List.map_toArray, List.map_cons, List.map_nil, hs, hx, hr]
  exact hK _ _ (h v' w' h2 h3)
end

def sLen : Value → Nat
  | .slice _ n _ => n
  | _ => 0

/-- What filled leaves: the bytes with so many behind them. -/
def BFill (w : World) (A : Option Addr) (xs : List UInt8) (z : UInt8) (k : Nat) (wv : Value) (wr : World) : Prop :=
  (k = 0 ∧ wv = .slice A xs.length xs.length ∧ wr = w) ∨ (OwnB wr w.heap.size wv (xs ++ List.replicate k z) ∧ Below w.heap.size w wr)

def BytesEnd (w : World) (xs : List UInt8) (e : Ending) (w' : World) : Prop :=
  ∃ A cap, e = .returned (.slice A xs.length cap) ∧ ByAt w' w'.heap.size A xs ∧ xs.length ≤ cap ∧ cap ≤ maxLen ∧ Below w.heap.size w w'

theorem BFill.form {w : World} {A : Option Addr} {xs : List UInt8} {z : UInt8} {k : Nat} {wv : Value} {wr : World} (h : BFill w A xs z k wv wr) : ∃ A2 cap2, wv = .slice A2 (xs.length + k) cap2 := by
  rcases h with ⟨rfl, rfl, rfl⟩ | ⟨h1, h2⟩
  · exact ⟨A, xs.length, rfl⟩
  · obtain ⟨A2, cap2, rfl, _⟩ := h1.value
    exact ⟨A2, cap2, by simp⟩

set_option maxRecDepth 100000 in
set_option maxHeartbeats 1000000 in
theorem bfilled_any (A : Option Addr) (xs : List UInt8) (cap : Nat) (sz : Nat) (hsz : sz = 3 ∨ sz = 4) (z : UInt8) (w : World) (hx : ByAt w w.heap.size A xs) (hc : xs.length ≤ cap) (hm : xs.length ≤ 1000000) :
    Calls Tryz.prog 55 #[.slice A xs.length cap, .int .i64 (sz : Int), .int .u8 (z.toNat : Int)] w fun e w' => BytesEnd w (padL sz z xs) e w' := by
  obtain ⟨i5, hi, hz0, hz1, hz2⟩ := info_has Tryz.infoByte
  have hsl := slice_full A xs.length cap hc
  have hmod : lack sz xs < sz := by rcases hsz with rfl | rfl <;> (unfold lack; omega)
  have hlen : xs.length + lack sz xs = (padL sz z xs).length := by simp [padL]
  have hpl : ∀ k, k ≤ lack sz xs → ((xs.length + k) % sz = 0 ↔ k = lack sz xs) := by
    intro k hk
    have h3 : 0 < sz := by rcases hsz with rfl | rfl <;> decide
    rcases hsz with rfl | rfl <;> (unfold lack at *; omega)
  go_enter Tryz.func55, Tryz.ntmps55
  go_wp2_with fail
  have Hx : Hid (ByAt w w.heap.size A xs) := hx
  have Hlen : Hid (xs.length + lack sz xs = (padL sz z xs).length) := hlen
  clear hx hsl hlen
  go_loopw [7] (fun wv wr => ∃ k : Nat, k ≤ lack sz xs ∧ BFill w A xs z k wv wr) (fun wv _ => xs.length + lack sz xs - sLen wv)
  case atStart => exact ⟨0, Nat.zero_le _, .inl ⟨rfl, rfl, rfl⟩⟩
  case round =>
    obtain ⟨k, hk, hrel⟩ := hrel
    have hpk := hpl k hk
    obtain ⟨A2, cap2, rfl⟩ := hrel.form
    have Hrel : Hid (BFill w A xs z k (.slice A2 (xs.length + k) cap2) wr) := hrel
    clear hrel
    have hsz0 : (sz : Int) ≠ 0 := by rcases hsz with rfl | rfl <;> decide
    have hsz1 : 1 ≤ (sz : Int) := by omega
    have hb : xs.length + k ≤ 1000003 := by omega
    generalize hm0 : xs.length + k = m at *
    have hmodk : (m : Int) % (sz : Int) = ((m % sz : Nat) : Int) := rfl
    have Hm0 : Hid (xs.length + k = m) := hm0
    generalize hq0 : m % sz = q at *
    clear hm0 hsz
    by_cases hp : q = 0
    · have hp' : ¬ (0 : Int) < (q : Int) := by omega
      have Hk : Hid (k = lack sz xs) := hpk.1 hp
      clear hp hq0 hpk
      go_wp2_with fail
      go_ret
      have e : m = (padL sz z xs).length := by rw [← Hlen.out, ← Hk.out, Hm0.out]
      rcases Hrel.out with ⟨h1, h2, h3⟩ | ⟨h1, h2⟩
      · injection h2 with e1 e2 e3
        subst e1 e2 e3 h3
        have e2 : padL sz z xs = xs := by unfold padL; rw [← Hk.out, h1]; simp
        rw [e2]
        exact ⟨_, _, rfl, Hx.out, Nat.le_refl _, by unfold maxLen; omega, Below.refl _ _⟩
      · have e2 : xs ++ List.replicate k z = padL sz z xs := by unfold padL; rw [Hk.out]
        rw [e2] at h1
        obtain ⟨A3, cap3, h3, h4, h5, h6⟩ := h1.byAt
        exact ⟨A3, cap3, by rw [h3]; rfl, h4, h5, h6, h2⟩
    · have hp' : (0 : Int) < (q : Int) := by omega
      have hk' : ¬ k = lack sz xs := fun h => hp (hpk.2 h)
      have hk1 : k + 1 ≤ lack sz xs := by omega
      clear hp hq0 hpk
      have hsub : ∀ A6 cap6, xs.length + lack sz xs - sLen (.slice A6 (m + 1) cap6) < xs.length + lack sz xs - sLen (.slice A2 m cap2) := fun A6 cap6 => by
        have := Hm0.out
        show xs.length + lack sz xs - (m + 1) < xs.length + lack sz xs - m
        omega
      have Hsub : Hid (∀ A6 cap6, xs.length + lack sz xs - sLen (.slice A6 (m + 1) cap6) < xs.length + lack sz xs - sLen (.slice A2 m cap2)) := hsub
      clear hsub hk'
      rcases Hrel.out with ⟨h1, h2, h3⟩ | ⟨h1, h2⟩
      · injection h2 with e1 e2 e3
        subst e1 e2 e3 h3
        obtain ⟨b, o, rfl, hb1, hcc⟩ : ∃ b o, A2 = some ⟨b, o, none⟩ ∧ b < wr.heap.size ∧ ∀ i, i < xs.length → wr.cell? ⟨b, o + i, none⟩ = some (.int .u8 ((xs.getD i 0).toNat : Int)) := by
          rcases Hx.out with h | h
          · subst h; simp [lack] at hk1
          · exact h
        have HC : Hid (∀ i, i < xs.length → wr.cell? ⟨b, o + i, none⟩ = some (.int .u8 ((xs.getD i 0).toNat : Int))) := hcc
        clear hcc
        go_wp2_with (at_builtin; refine wpList_append_full _ rfl _ _ 43 rfl 5 i5 (.int .u8 0) Tryz.underlying43 hi hz0 hz1 hz2 rfl ⟨b, o, none⟩ xs.length (Lib.byteCells xs) rfl ?lo ?holds ⟨wr.heap.size, 0, none⟩ 1 1 [.int .u8 (z.toNat : Int)] rfl rfl ?news (by decide) ?c1 ?c2 wr.heap.size ?hB ?_)
        case lo => simp [Lib.byteCells]
        case holds =>
          intro j v hj
          obtain ⟨hj1, hj2⟩ := List.getElem?_eq_some_iff.1 hj
          have hj1 : j < xs.length := by simpa [Lib.byteCells] using hj1
          rw [show (⟨b, o, none⟩ : Addr).add j = ⟨b, o + j, none⟩ from by cases j <;> simp [Addr.add], World.cell?_of_block (Below.heap_alloc wr _ _ hb1), HC.out j hj1, ← hj2]
          simp [Lib.byteCells, List.getD, List.getElem?_eq_getElem hj1]
        case news => exact World.news_of_block (t := 5) (fr := (0, 0)) (heap_alloc_new wr _)
        case c1 => unfold maxLen; omega
        case c2 => omega
        case hB => simp
        intro v6 w6 hown6 hb6
        have O6 : OwnB w6 wr.heap.size v6 (xs ++ [z]) := append_end hown6 rfl rfl
        have HB6 : Hid (Below wr.heap.size wr w6) := ((Below.refl _ wr).alloc (Nat.le_refl _) _).trans (hb6.mono (by simp))
        clear hown6 hb6
        obtain ⟨A6, cap6, h6, _⟩ := O6.value
        have e6 : (xs ++ [z]).length = xs.length + 1 := by simp
        rw [e6] at h6
        subst h6
        have HO6 : Hid (OwnB w6 wr.heap.size (.slice A6 (xs.length + 1) cap6) (xs ++ [z])) := O6
        clear O6 e6
        go_wp2_with fail
        go_roundw
        case rel => exact ⟨k + 1, hk1, .inr ⟨by subst h1; exact HO6.out, HB6.out⟩⟩
        case measure => exact Hsub.out _ _
      · have hL : (xs ++ List.replicate k z).length = m := by rw [← Hm0.out]; simp
        have e1 : xs ++ List.replicate (k + 1) z = (xs ++ List.replicate k z) ++ [z] := by rw [List.replicate_succ']; simp
        have E1 : Hid (xs ++ List.replicate (k + 1) z = (xs ++ List.replicate k z) ++ [z]) := e1
        clear e1
        generalize xs ++ List.replicate k z = L at *
        have HO : Hid (OwnB wr w.heap.size (.slice A2 m cap2) L) := h1
        have HB : Hid (Below w.heap.size w wr) := h2
        clear h1
        subst hL
        have hsw := h2.size
        clear h2
        go_wp2_with (at_builtin; refine wpList_append_any _ rfl _ _ 43 rfl w.heap.size 5 i5 (.int .u8 0) 1 1 Tryz.underlying43 hi hz0 hz1 hz2 rfl (by decide) (.slice A2 L.length cap2) L.length (Lib.byteCells L) rfl ?own (some ⟨wr.heap.size, 0, none⟩) 1 1 [.int .u8 (z.toNat : Int)] rfl ?src ?c3 ?c4 ?c5 ?_)
        case own => exact HO.out.alloc _
        case src => exact .inr ⟨_, rfl, rfl, World.news_of_block (t := 5) (fr := (0, 0)) (heap_alloc_new wr _), by simp [Value.oneCell']⟩
        case c3 => unfold maxLen; omega
        case c4 => omega
        case c5 => simp; omega
        intro v6 w6 hown6 hgrow6 hat6
        have O6 : OwnB w6 w.heap.size v6 (L ++ [z]) := append_end hown6 rfl rfl
        have HB6 : Hid (Below w.heap.size w w6) := HB.out.trans (below_end HO.out hgrow6 (by simpa using hat6) hsw)
        clear hown6 hgrow6 hat6
        obtain ⟨A6, cap6, h6, _⟩ := O6.value
        have e6 : (L ++ [z]).length = L.length + 1 := by simp
        rw [e6] at h6
        subst h6
        have HO6 : Hid (OwnB w6 w.heap.size (.slice A6 (L.length + 1) cap6) (L ++ [z])) := O6
        clear O6 e6
        go_wp2_with fail
        go_roundw
        case rel => exact ⟨k + 1, hk1, .inr ⟨by rw [E1.out]; exact HO6.out, HB6.out⟩⟩
        case measure => exact Hsub.out _ _

end Go.Proofs.YtgmmbfnmojjbkaaGreatDoor

namespace Go.Proofs.YtgmmbfnmojjbkaaGreatDoor
open Go.RowKit
set_option linter.unusedVariables false
set_option linter.unusedSimpArgs false

theorem fours_ne (r : List UInt8) (h : r.length % 3 = 0) (h2 : r.length ≠ 0) : ∃ a b c t, r = a :: b :: c :: t := by
  match r, h, h2 with
  | [], _, h2 => exact absurd rfl h2
  | [a], h, _ => simp at h
  | [a, b], h, _ => simp at h
  | a :: b :: c :: t, _, _ => exact ⟨a, b, c, t, rfl⟩

theorem cell_up {w : World} {o : Obj} {p : Addr} {v : Value} (c : w.cell? p = some v) : (w.alloc o).cell? p = some v := by
  rw [World.cell?_of_block (Below.heap_alloc _ _ _ (cell_lt c))]; exact c

theorem cell_dr {w : World} {p : Addr} {v : Value} (c : w.cell? p = some v) : w.drew.cell? p = some v := c
theorem cell_put {w : World} {p q : Addr} {u v : Value} (c : w.cell? p = some v) (h : p.block ≠ q.block) : (w.setCell q u).cell? p = some v := by
  rw [World.cell?_setCell_other _ _ _ _ (fun e => h (by rw [e]))]; exact c
theorem cell_put4 {w : World} {p : Addr} {g : Nat} {u0 u1 u2 u3 v : Value} (c : w.cell? p = some v) (h : p.block ≠ g) : ((((w.setCell ⟨g, 0, none⟩ u0).setCell ⟨g, 1, none⟩ u1).setCell ⟨g, 2, none⟩ u2).setCell ⟨g, 3, none⟩ u3).cell? p = some v :=
  cell_put (cell_put (cell_put (cell_put c h) h) h) h

theorem blk4 {wr w2 : World} {y : Value} {T : TypeId} (h : Below (wr.alloc (.cells #[y, y, y, y] T)).heap.size (wr.alloc (.cells #[y, y, y, y] T)) w2) :
    ((w2.cell? ⟨wr.heap.size, 0, none⟩ = some y ∧ w2.cell? ⟨wr.heap.size, 1, none⟩ = some y ∧ w2.cell? ⟨wr.heap.size, 2, none⟩ = some y ∧ w2.cell? ⟨wr.heap.size, 3, none⟩ = some y) ∧
      w2.frozen? ⟨wr.heap.size, 0, none⟩ = false ∧ w2.frozen? ⟨wr.heap.size, 1, none⟩ = false ∧ w2.frozen? ⟨wr.heap.size, 2, none⟩ = false ∧ w2.frozen? ⟨wr.heap.size, 3, none⟩ = false) ∧
    wr.heap.size < w2.heap.size ∧ Below wr.heap.size wr w2 := by
  have hblk := (h.block wr.heap.size (by simp)).trans (heap_alloc_new wr _)
  have hs := h.size
  simp at hs
  refine ⟨⟨⟨?_, ?_, ?_, ?_⟩, ?_, ?_, ?_, ?_⟩, by omega, ((Below.refl _ wr).alloc (Nat.le_refl _) _).trans (h.mono (by simp))⟩
  all_goals simp [World.cell?, World.frozen?, hblk]

theorem undrew {wr w2 : World} (h : Below wr.drew.heap.size wr.drew w2) : Below wr.heap.size wr w2 := ((Below.refl _ wr).drew).trans h

theorem cells3 {w w2 : World} {bb oo : Nat} {v0 v1 v2 : Value} (h : Below w.heap.size w w2) (c0 : w.cell? ⟨bb, oo, none⟩ = some v0) (c1 : w.cell? ⟨bb, oo + 1, none⟩ = some v1) (c2 : w.cell? ⟨bb, oo + 2, none⟩ = some v2) :
    w2.cell? ⟨bb, oo, none⟩ = some v0 ∧ w2.cell? ⟨bb, oo + 1, none⟩ = some v1 ∧ w2.cell? ⟨bb, oo + 2, none⟩ = some v2 :=
  ⟨(h.cell (cell_lt c0)).trans c0, (h.cell (cell_lt c1)).trans c1, (h.cell (cell_lt c2)).trans c2⟩

/-- A row of l's bytes has been laid at g, behind w. -/
structure Laid8 (w : World) (g : Nat) (W : World) (l : List UInt8) : Prop where
  lo : w.heap.size ≤ g
  hi : g < W.heap.size
  bel : Below w.heap.size w W
  cells : ∀ j u, (Lib.byteCells l)[j]? = some u → W.cell? ((⟨g, 0, none⟩ : Addr).add j) = some u

theorem laid_new {w w2 : World} (l : List UInt8) (T : TypeId) (cs : Array Value) (e : cs = (Lib.byteCells l).toArray) (h : Below w.heap.size w w2) : Laid8 w w2.heap.size (w2.alloc (.cells cs T)) l := by
  subst e
  refine ⟨h.size, by simp, h.alloc h.size _, fun j u hj => ?_⟩
  have hb := heap_alloc_new w2 (.cells (Lib.byteCells l).toArray T)
  rw [show (⟨w2.heap.size, 0, none⟩ : Addr).add j = ⟨w2.heap.size, j, none⟩ from by cases j <;> simp [Addr.add]]
  unfold World.cell?
  rw [hb]
  simpa using hj

theorem laid_put4 {w w2 : World} {g : Nat} (a b c d : UInt8) (z : Value) (h : Below w.heap.size w w2) (lo : w.heap.size ≤ g) (hi : g < w2.heap.size)
    (z0 : w2.cell? ⟨g, 0, none⟩ = some z) (z1 : w2.cell? ⟨g, 1, none⟩ = some z) (z2 : w2.cell? ⟨g, 2, none⟩ = some z) (z3 : w2.cell? ⟨g, 3, none⟩ = some z) :
    Laid8 w g ((((w2.setCell ⟨g, 0, none⟩ (.int .u8 (a.toNat : Int))).setCell ⟨g, 1, none⟩ (.int .u8 (b.toNat : Int))).setCell ⟨g, 2, none⟩ (.int .u8 (c.toNat : Int))).setCell ⟨g, 3, none⟩ (.int .u8 (d.toNat : Int))) [a, b, c, d] := by
  refine ⟨lo, by simpa [World.setCell] using hi, ?_, fun j u hj => ?_⟩
  · exact (((h.setCell lo _).setCell lo _).setCell lo _).setCell lo _
  · rw [show (⟨g, 0, none⟩ : Addr).add j = ⟨g, j, none⟩ from by cases j <;> simp [Addr.add]]
    have hj4 : j < 4 := by
      obtain ⟨h1, _⟩ := List.getElem?_eq_some_iff.1 hj
      simpa [Lib.byteCells] using h1
    rcases (show j = 0 ∨ j = 1 ∨ j = 2 ∨ j = 3 by omega) with rfl | rfl | rfl | rfl <;> (simp [Lib.byteCells] at hj; subst hj; simp [go_sem, z0, z1, z2, z3])

theorem fours_len : ∀ l : List UInt8, (fours l).length ≤ 2 * l.length
  | [] => by simp [fours]
  | [a] => by simp [fours]
  | [a, b] => by simp [fours]
  | a :: b :: c :: t => by
    have := fours_len t
    rw [fours, List.length_append, four_len]; simp only [List.length_cons]; omega

def Enc8 (w w1 : World) (xs : List UInt8) (ov rv : Value) (wr : World) : Prop :=
  ∃ (acc r : List UInt8) (A2 : Option Addr) (cap2 : Nat), rv = .slice A2 r.length cap2 ∧ ByAt w1 w1.heap.size A2 r ∧ r.length ≤ cap2 ∧ cap2 ≤ maxLen ∧ r.length % 3 = 0 ∧ OwnB wr w1.heap.size ov acc ∧ acc ++ fours r = fours (padL 3 0 xs) ∧ Below w1.heap.size w1 wr

set_option maxRecDepth 100000 in
set_option maxHeartbeats 1000000 in
theorem benc_any (A : Option Addr) (xs : List UInt8) (cap : Nat) (w : World) (hx : ByAt w w.heap.size A xs) (hc : xs.length ≤ cap) (hm : xs.length ≤ 1000000) :
    Calls Tryz.prog 37 #[.slice A xs.length cap] w fun e w' => e = .returned (.string (b64S xs)) ∧ Below w.heap.size w w' := by
  obtain ⟨i5, hi, hz0, hz1, hz2⟩ := info_has Tryz.infoByte
  have hf := bfilled_any A xs cap 3 (.inl rfl) 0 w hx hc hm
  have hpl : (padL 3 0 xs).length ≤ 1000002 := by have : lack 3 xs < 3 := by (unfold lack; omega)
                                                  simp [padL]; omega
  have hpm := pad_len 3 (by decide) 0 xs
  go_enter Tryz.func37, Tryz.ntmps37
  go_wp2_with fail
  refine hf.mono ?_
  rintro e w1 ⟨A1, cap1, rfl, h1, h2, h3, hb1⟩
  go_wp2_with fail
  have HP : Hid ((padL 3 0 xs).length ≤ 1000002) := hpl
  go_loopw [3, 4] (fun ov rv wr => Enc8 w w1 xs ov rv wr) (fun _ rv _ => sLen rv)
  case atStart => exact ⟨[], padL 3 0 xs, A1, cap1, rfl, h1, h2, h3, hpm, OwnB.nil _ _, by simp, Below.refl _ _⟩
  case round =>
    obtain ⟨acc, r, A2, cap2, rfl, hr, hrc, hrm, hmod, hown, hacc, hb⟩ := hrel
    by_cases hp : r.length = 0
    · obtain rfl := List.eq_nil_of_length_eq_zero hp
      have hacc' : acc = fours (padL 3 0 xs) := by rw [← hacc]; simp [fours]
      have htk := enc_fours xs
      rw [← hacc'] at htk
      have hbl := b64_len xs
      obtain ⟨m, hm0⟩ : ∃ m, m = xs.length + (xs.length + 2) / 3 := ⟨_, rfl⟩
      rw [← hm0] at htk
      have hml : (b64L xs).length = m := by rw [hbl]; omega
      have hma : m ≤ acc.length := by
        have := congrArg List.length htk
        rw [List.length_take, hml] at this; omega
      obtain ⟨A3, cap3, rfl, hby, hc3, hm3⟩ := hown.byAt
      have hby2 := hby.take m
      rw [htk] at hby2
      have hcv := conv_bytes wr wr.heap.size A3 (b64L xs) cap3 hby2
      rw [hml] at hcv
      have hsl := slice_to A3 acc.length cap3 m (by omega)
      have hq : (xs.length : Int) + ((xs.length : Int) + 2) / 3 = (m : Int) := by omega
      have Hcv : Hid (b64S xs = ⟨(b64L xs).toArray⟩) := rfl
      clear hacc hacc' htk hbl hm0 hml hby hby2 hown hr hmod hpm hpl h1
      generalize (⟨(b64L xs).toArray⟩ : ByteArray) = st at *
      go_wp2_with fail
      go_ret
      exact ⟨ret_str Hcv.out.symm, hb1.trans (hb.mono hb1.size)⟩
    · obtain ⟨a, b, c, t, rfl⟩ := fours_ne r hmod hp
      obtain ⟨bb, oo, rfl, hbb, hcc⟩ : ∃ b' o, A2 = some ⟨b', o, none⟩ ∧ b' < w1.heap.size ∧ ∀ i, i < (a :: b :: c :: t).length → w1.cell? ⟨b', o + i, none⟩ = some (.int .u8 (((a :: b :: c :: t).getD i 0).toNat : Int)) := by
        rcases hr with h | h
        · simp at h
        · exact h
      have hl : (a :: b :: c :: t).length = t.length + 3 := by simp
      have c0 := (hb.cell (p := ⟨bb, oo, none⟩) hbb).trans (hcc 0 (by omega))
      have c1 := (hb.cell (p := ⟨bb, oo + 1, none⟩) hbb).trans (hcc 1 (by omega))
      have c2 := (hb.cell (p := ⟨bb, oo + 2, none⟩) hbb).trans (hcc 2 (by omega))
      simp only [List.getD_cons_zero, List.getD_cons_succ] at c0 c1 c2
      have hw := fun W => bwritten_any a.toNat b.toNat c.toNat a.toNat_lt b.toNat_lt c.toNat_lt W
      rw [hl] at *
      have Hacc : Hid (acc ++ fours (a :: b :: c :: t) = fours (padL 3 0 xs)) := hacc
      have HR : Hid (ByAt w1 w1.heap.size (some ⟨bb, oo, none⟩) (a :: b :: c :: t)) := hr
      have HO : Hid (OwnB wr w1.heap.size u3 acc) := hown
      have Hmod : Hid ((t.length + 3) % 3 = 0) := hmod
      have hn3 : 3 ≤ t.length + 3 := by omega
      have hnc : t.length + 3 ≤ cap2 := hrc
      clear hcc hr hacc hmod hpl hpm h1 hrc hown hl hp
      generalize hn0 : t.length + 3 = n at *
      have HN : Hid (t.length + 3 = n) := hn0
      clear hn0
      have n0 : (0 : Int) < (n : Int) := by omega
      have n1 : (1 : Int) < (n : Int) := by omega
      have n2 : (2 : Int) < (n : Int) := by omega
      have hsz := hb.size
      have hne : bb ≠ wr.heap.size := by omega
      go_wp2_with fail
      go_region_held3 (fun W => W.cell? ⟨bb, oo, none⟩ = some (.int .u8 (a.toNat : Int)) ∧ W.cell? ⟨bb, oo + 1, none⟩ = some (.int .u8 (b.toNat : Int)) ∧ W.cell? ⟨bb, oo + 2, none⟩ = some (.int .u8 (c.toNat : Int)))
        (with_reducible (first | exact ⟨c0, c1, c2⟩ | exact ⟨d0, d1, d2⟩ | exact ⟨cell_dr c0, cell_dr c1, cell_dr c2⟩ | exact ⟨cell_dr (cell_up c0), cell_dr (cell_up c1), cell_dr (cell_up c2)⟩ | exact ⟨cell_up d0, cell_up d1, cell_up d2⟩ | exact ⟨cell_put4 d0 hne, cell_put4 d1 hne, cell_put4 d2 hne⟩))
        (first
          | (go_at_call 56; refine (hw _).mono ?_; rintro e w2 ⟨rfl, hb2⟩; have hb3 : Below (wr.alloc (.cells #[.int .u8 0, .int .u8 0, .int .u8 0, .int .u8 0] 72)).drew.heap.size (wr.alloc (.cells #[.int .u8 0, .int .u8 0, .int .u8 0, .int .u8 0] 72)).drew w2 := hb2; obtain ⟨⟨⟨z0, z1, z2, z3⟩, y0, y1, y2, y3⟩, hs2, hb4⟩ := blk4 (undrew hb3); obtain ⟨d0, d1, d2⟩ := cells3 hb4 c0 c1 c2; clear hb2 hb3; have HB4 : Hid (Below wr.heap.size wr w2) := hb4; clear hb4)
          | (go_at_call 56; refine (hw _).mono ?_; rintro e w2 ⟨rfl, hb2⟩; have hb4 := undrew (wr := wr) (w2 := w2) hb2; obtain ⟨d0, d1, d2⟩ := cells3 hb4 c0 c1 c2; clear hb2; have HB4 : Hid (Below wr.heap.size wr w2) := hb4; clear hb4))
      · have hl8 := laid_new [sg (a.toNat / 4), sg (a.toNat % 4 * 16 + b.toNat / 16), sg (b.toNat % 16 * 4 + c.toNat / 64), sg (c.toNat % 64)] 72 #[.int .u8 ((sg (a.toNat / 4)).toNat : Int), .int .u8 ((sg (a.toNat % 4 * 16 + b.toNat / 16)).toNat : Int), .int .u8 ((sg (b.toNat % 16 * 4 + c.toNat / 64)).toNat : Int), .int .u8 ((sg (c.toNat % 64)).toNat : Int)] rfl HB4.out
        generalize (w2.alloc (.cells #[.int .u8 ((sg (a.toNat / 4)).toNat : Int), .int .u8 ((sg (a.toNat % 4 * 16 + b.toNat / 16)).toNat : Int), .int .u8 ((sg (b.toNat % 16 * 4 + c.toNat / 64)).toNat : Int), .int .u8 ((sg (c.toNat % 64)).toNat : Int)] 72)) = W8 at hl8 ⊢
        generalize w2.heap.size = g8 at hl8 ⊢
        clear HB4 d0 d1 d2
        have hs8 := hl8.bel.size
        have lo8 := hl8.lo
        have HL8 : Hid (Laid8 wr g8 W8 (four a.toNat b.toNat c.toNat)) := hl8
        have hsl := slice_from (some ⟨bb, oo, none⟩) n cap2 3 hn3
        obtain ⟨A3, hA3⟩ : ∃ A3, A3 = (if cap2 = 3 then some (⟨bb, oo, none⟩ : Addr) else (some (⟨bb, oo, none⟩ : Addr)).map (·.add 3)) := ⟨_, rfl⟩
        rw [← hA3] at hsl
        have HA3 : Hid (A3 = (if cap2 = 3 then some (⟨bb, oo, none⟩ : Addr) else (some (⟨bb, oo, none⟩ : Addr)).map (·.add 3))) := hA3
        have hal : acc.length ≤ 2100000 := by
          have h1 := congrArg List.length Hacc.out
          have h2 := fours_len (padL 3 0 xs)
          have h3 := HP.out
          rw [List.length_append] at h1
          omega
        clear hl8 hA3 hw
        go_wp2_with (at_builtin; refine wpList_append_any _ rfl _ _ 43 rfl w1.heap.size 5 i5 (.int .u8 0) 1 1 Tryz.underlying43 hi hz0 hz1 hz2 rfl (by decide) u3 acc.length (Lib.byteCells acc) rfl ?own (some ⟨g8, 0, none⟩) 4 4 (Lib.byteCells (four a.toNat b.toNat c.toNat)) rfl ?src ?c3 ?c4 ?c5 ?_)
        case own => exact HO.out.below HL8.out.bel
        case src => exact .inr ⟨_, rfl, rfl, HL8.out.cells, by simp [Value.oneCell', Lib.byteCells]⟩
        case c3 => unfold maxLen; omega
        case c4 => omega
        case c5 => omega
        intro v6 w6 hown6 hgrow6 hat6
        have O6 : Hid (OwnB w6 w1.heap.size v6 (acc ++ four a.toNat b.toNat c.toNat)) := append_end hown6 rfl rfl
        have B6 : Hid (Below w1.heap.size w1 w6) := hb.trans ((HL8.out.bel.mono hsz).trans ((Grew.step (Grew.refl W8 u3) hgrow6 hat6).toBelow (fun q hq => (HO.out.base q hq).1) (by omega)))
        clear hown6 hgrow6 hat6
        go_wp2_with fail
        go_roundw
        case rel =>
          have hn := HN.out
          have hdr := HR.out.drop 3 cap2 (by simp) (by simpa [hn] using hnc)
          rw [← HA3.out] at hdr
          refine ⟨_, t, A3, cap2 - 3, ?_, hdr, by omega, by omega, by have := Hmod.out; omega, O6.out, ?_, B6.out⟩
          · rw [show n - 3 = t.length from by omega, HA3.out]; simp [Addr.add]
          · rw [List.append_assoc]; exact Hacc.out
        case measure => show n - 3 < n; omega
      · have hl8 := laid_put4 (sg (a.toNat / 4)) (sg (a.toNat % 4 * 16 + b.toNat / 16)) (sg (b.toNat % 16 * 4 + c.toNat / 64)) (sg (c.toNat % 64)) _ HB4.out (Nat.le_refl _) hs2 z0 z1 z2 z3
        generalize ((((w2.setCell ⟨wr.heap.size, 0, none⟩ (.int .u8 ((sg (a.toNat / 4)).toNat : Int))).setCell ⟨wr.heap.size, 1, none⟩ (.int .u8 ((sg (a.toNat % 4 * 16 + b.toNat / 16)).toNat : Int))).setCell ⟨wr.heap.size, 2, none⟩ (.int .u8 ((sg (b.toNat % 16 * 4 + c.toNat / 64)).toNat : Int))).setCell ⟨wr.heap.size, 3, none⟩ (.int .u8 ((sg (c.toNat % 64)).toNat : Int))) = W8 at hl8 ⊢
        obtain ⟨g8, hg8⟩ : ∃ g, g = wr.heap.size := ⟨_, rfl⟩
        rw [← hg8] at hl8 ⊢
        clear hg8 HB4 d0 d1 d2 z0 z1 z2 z3 y0 y1 y2 y3
        have hs8 := hl8.bel.size
        have lo8 := hl8.lo
        have HL8 : Hid (Laid8 wr g8 W8 (four a.toNat b.toNat c.toNat)) := hl8
        have hsl := slice_from (some ⟨bb, oo, none⟩) n cap2 3 hn3
        obtain ⟨A3, hA3⟩ : ∃ A3, A3 = (if cap2 = 3 then some (⟨bb, oo, none⟩ : Addr) else (some (⟨bb, oo, none⟩ : Addr)).map (·.add 3)) := ⟨_, rfl⟩
        rw [← hA3] at hsl
        have HA3 : Hid (A3 = (if cap2 = 3 then some (⟨bb, oo, none⟩ : Addr) else (some (⟨bb, oo, none⟩ : Addr)).map (·.add 3))) := hA3
        have hal : acc.length ≤ 2100000 := by
          have h1 := congrArg List.length Hacc.out
          have h2 := fours_len (padL 3 0 xs)
          have h3 := HP.out
          rw [List.length_append] at h1
          omega
        clear hl8 hA3 hw
        go_wp2_with (at_builtin; refine wpList_append_any _ rfl _ _ 43 rfl w1.heap.size 5 i5 (.int .u8 0) 1 1 Tryz.underlying43 hi hz0 hz1 hz2 rfl (by decide) u3 acc.length (Lib.byteCells acc) rfl ?own (some ⟨g8, 0, none⟩) 4 4 (Lib.byteCells (four a.toNat b.toNat c.toNat)) rfl ?src ?c3 ?c4 ?c5 ?_)
        case own => exact HO.out.below HL8.out.bel
        case src => exact .inr ⟨_, rfl, rfl, HL8.out.cells, by simp [Value.oneCell', Lib.byteCells]⟩
        case c3 => unfold maxLen; omega
        case c4 => omega
        case c5 => omega
        intro v6 w6 hown6 hgrow6 hat6
        have O6 : Hid (OwnB w6 w1.heap.size v6 (acc ++ four a.toNat b.toNat c.toNat)) := append_end hown6 rfl rfl
        have B6 : Hid (Below w1.heap.size w1 w6) := hb.trans ((HL8.out.bel.mono hsz).trans ((Grew.step (Grew.refl W8 u3) hgrow6 hat6).toBelow (fun q hq => (HO.out.base q hq).1) (by omega)))
        clear hown6 hgrow6 hat6
        go_wp2_with fail
        go_roundw
        case rel =>
          have hn := HN.out
          have hdr := HR.out.drop 3 cap2 (by simp) (by simpa [hn] using hnc)
          rw [← HA3.out] at hdr
          refine ⟨_, t, A3, cap2 - 3, ?_, hdr, by omega, by omega, by have := Hmod.out; omega, O6.out, ?_, B6.out⟩
          · rw [show n - 3 = t.length from by omega, HA3.out]; simp [Addr.add]
          · rw [List.append_assoc]; exact Hacc.out
        case measure => show n - 3 < n; omega

end Go.Proofs.YtgmmbfnmojjbkaaGreatDoor

namespace Go.Proofs.YtgmmbfnmojjbkaaGreatDoor
open Go.RowKit
set_option linter.unusedVariables false
set_option linter.unusedSimpArgs false

/-- '[]byte(s)': a row of its own. -/
theorem bytes_row (s : ByteArray) (w : World) (hs : s.size ≤ maxLen) : ∃ C W, s.size ≤ C ∧ C ≤ maxLen ∧ (convert 9 43 (.string s)).run Tryz.prog w = .ok (.slice (some ⟨w.heap.size, 0, none⟩) s.size C) W ∧
    ByAt W W.heap.size (some ⟨w.heap.size, 0, none⟩) s.data.toList ∧ (∀ j, j < s.size → W.frozen? ⟨w.heap.size, j, none⟩ = false) ∧ Below w.heap.size w W ∧ W.heap.size = w.heap.size + 1 := by
  have hc := run_bytes_of_string (P := Tryz.prog) w 9 43 5 s Tryz.underlying9 Tryz.underlying43 Tryz.underlying5
  have hC := grownCap_ge w s.size 0 5
  have hM : grownCap w s.size 0 5 ≤ maxLen := grownCap_le_maxLen w s.size 0 5 hs
  generalize grownCap w s.size 0 5 = C at hc hC hM
  refine ⟨C, _, hC, hM, hc, .inr ⟨w.heap.size, 0, rfl, by simp, fun j hj => ?_⟩, fun j hj => ?_, Below.alloc (Below.drew (Below.refl _ _)) (Nat.le_refl _) _, by simp⟩
  · rw [size_list] at hj
    show (w.drew.alloc _).cell? ⟨w.drew.heap.size, 0 + j, none⟩ = _
    rw [Nat.zero_add, World.cell?_alloc_mark, bytesRow_at s C j hj]
    rcases s with ⟨a⟩
    simp [List.getD, ByteArray.size] at hj ⊢
    simp [List.getElem?_eq_getElem, hj]
  · show (w.drew.alloc _).frozen? ⟨w.drew.heap.size, j, none⟩ = _
    rw [World.frozen?_alloc_mark]
    have : (bytesRow s C).size = C := by
      unfold bytesRow
      rw [Array.size_append, Array.size_map, Array.size_replicate]
      show s.size + _ = _
      omega
    rw [this]; simp; omega

end Go.Proofs.YtgmmbfnmojjbkaaGreatDoor

namespace Go.Proofs.YtgmmbfnmojjbkaaGreatDoor
open Go.RowKit
set_option linter.unusedVariables false
set_option linter.unusedSimpArgs false

theorem threes_ne (r : List UInt8) (h : r.length % 4 = 0) (h2 : r.length ≠ 0) : ∃ a b c d t, r = a :: b :: c :: d :: t := by
  match r, h, h2 with
  | [], _, h2 => exact absurd rfl h2
  | [a], h, _ => simp at h
  | [a, b], h, _ => simp at h
  | [a, b, c], h, _ => simp at h
  | a :: b :: c :: d :: t, _, _ => exact ⟨a, b, c, d, t, rfl⟩

theorem threes_len : ∀ l : List UInt8, (threes l).length = l.length / 4 * 3
  | [] => by simp [threes]
  | [a] => by simp [threes]
  | [a, b] => by simp [threes]
  | [a, b, c] => by simp [threes]
  | a :: b :: c :: d :: t => by
    have := threes_len t
    rw [threes, List.length_append, three_len, this]; simp only [List.length_cons]; omega

theorem g_len (l : List UInt8) : (gL l).length = l.length * 3 / 4 := by
  have h := pad_len 4 (by decide) 65 l
  have h2 : l.length ≤ (padL 4 65 l).length := by simp [padL]
  unfold gL
  rw [List.length_take, threes_len]
  omega

theorem cell_put3 {w : World} {p : Addr} {g : Nat} {u0 u1 u2 v : Value} (c : w.cell? p = some v) (h : p.block ≠ g) : (((w.setCell ⟨g, 0, none⟩ u0).setCell ⟨g, 1, none⟩ u1).setCell ⟨g, 2, none⟩ u2).cell? p = some v :=
  cell_put (cell_put (cell_put c h) h) h

theorem blk3 {wr w2 : World} {y : Value} {T : TypeId} (h : Below (wr.alloc (.cells #[y, y, y] T)).heap.size (wr.alloc (.cells #[y, y, y] T)) w2) :
    ((w2.cell? ⟨wr.heap.size, 0, none⟩ = some y ∧ w2.cell? ⟨wr.heap.size, 1, none⟩ = some y ∧ w2.cell? ⟨wr.heap.size, 2, none⟩ = some y) ∧
      w2.frozen? ⟨wr.heap.size, 0, none⟩ = false ∧ w2.frozen? ⟨wr.heap.size, 1, none⟩ = false ∧ w2.frozen? ⟨wr.heap.size, 2, none⟩ = false) ∧
    wr.heap.size < w2.heap.size ∧ Below wr.heap.size wr w2 := by
  have hblk := (h.block wr.heap.size (by simp)).trans (heap_alloc_new wr _)
  have hs := h.size
  simp at hs
  refine ⟨⟨⟨?_, ?_, ?_⟩, ?_, ?_, ?_⟩, by omega, ((Below.refl _ wr).alloc (Nat.le_refl _) _).trans (h.mono (by simp))⟩
  all_goals simp [World.cell?, World.frozen?, hblk]

theorem cells4 {w w2 : World} {bb oo : Nat} {v0 v1 v2 v3 : Value} (h : Below w.heap.size w w2) (c0 : w.cell? ⟨bb, oo, none⟩ = some v0) (c1 : w.cell? ⟨bb, oo + 1, none⟩ = some v1) (c2 : w.cell? ⟨bb, oo + 2, none⟩ = some v2) (c3 : w.cell? ⟨bb, oo + 3, none⟩ = some v3) :
    w2.cell? ⟨bb, oo, none⟩ = some v0 ∧ w2.cell? ⟨bb, oo + 1, none⟩ = some v1 ∧ w2.cell? ⟨bb, oo + 2, none⟩ = some v2 ∧ w2.cell? ⟨bb, oo + 3, none⟩ = some v3 :=
  ⟨(h.cell (cell_lt c0)).trans c0, (h.cell (cell_lt c1)).trans c1, (h.cell (cell_lt c2)).trans c2, (h.cell (cell_lt c3)).trans c3⟩

theorem laid_put3 {w w2 : World} {g : Nat} (a b c : UInt8) (z : Value) (h : Below w.heap.size w w2) (lo : w.heap.size ≤ g) (hi : g < w2.heap.size)
    (z0 : w2.cell? ⟨g, 0, none⟩ = some z) (z1 : w2.cell? ⟨g, 1, none⟩ = some z) (z2 : w2.cell? ⟨g, 2, none⟩ = some z) :
    Laid8 w g (((w2.setCell ⟨g, 0, none⟩ (.int .u8 (a.toNat : Int))).setCell ⟨g, 1, none⟩ (.int .u8 (b.toNat : Int))).setCell ⟨g, 2, none⟩ (.int .u8 (c.toNat : Int))) [a, b, c] := by
  refine ⟨lo, by simpa [World.setCell] using hi, ?_, fun j u hj => ?_⟩
  · exact ((h.setCell lo _).setCell lo _).setCell lo _
  · rw [show (⟨g, 0, none⟩ : Addr).add j = ⟨g, j, none⟩ from by cases j <;> simp [Addr.add]]
    have hj4 : j < 3 := by
      obtain ⟨h1, _⟩ := List.getElem?_eq_some_iff.1 hj
      simpa [Lib.byteCells] using h1
    rcases (show j = 0 ∨ j = 1 ∨ j = 2 by omega) with rfl | rfl | rfl <;> (simp [Lib.byteCells] at hj; subst hj; simp [go_sem, z0, z1, z2])

def Gue8 (w1 : World) (xs : List UInt8) (ov rv : Value) (wr : World) : Prop :=
  ∃ (acc r : List UInt8) (A2 : Option Addr) (cap2 : Nat), rv = .slice A2 r.length cap2 ∧ ByAt w1 w1.heap.size A2 r ∧ r.length ≤ cap2 ∧ cap2 ≤ maxLen ∧ r.length % 4 = 0 ∧ OwnB wr w1.heap.size ov acc ∧ acc ++ threes r = threes (padL 4 65 xs) ∧ Below w1.heap.size w1 wr

set_option maxRecDepth 100000 in
set_option maxHeartbeats 1000000 in
theorem bguess_any (s : ByteArray) (w : World) (hm : s.size ≤ 1000000) :
    Calls Tryz.prog 67 #[.string s] w fun e w' => BytesEnd w (gL s.data.toList) e w' := by
  obtain ⟨i5, hi, hz0, hz1, hz2⟩ := info_has Tryz.infoByte
  obtain ⟨C, W0, hC, hCm, hconv, hx0, _, hb0, _⟩ := bytes_row s w (by unfold maxLen; omega)
  obtain ⟨xs, hxs⟩ : ∃ xs, xs = s.data.toList := ⟨_, rfl⟩
  have hxl : xs.length = s.size := by rw [hxs]; exact size_list s
  rw [← hxs] at hx0 ⊢
  have hf := bfilled_any (some ⟨w.heap.size, 0, none⟩) xs C 4 (.inr rfl) 65 W0 hx0 (by omega) (by omega)
  have hlk : lack 4 xs < 4 := by (unfold lack; omega)
  have hpl : (padL 4 65 xs).length ≤ 1000003 := by simp [padL]; omega
  have hpm := pad_len 4 (by decide) 65 xs
  have Hxs : Hid (xs = s.data.toList) := hxs
  rw [hxl] at hf
  clear hx0 hxs hlk
  have hix := fun W => sg_index 0 (by decide) 65 rfl W
  go_enter Tryz.func67, Tryz.ntmps67
  go_wp2_with fail
  refine hf.mono ?_
  rintro e w1 ⟨A1, cap1, rfl, h1, h2, h3, hb1⟩
  have hb1 : Below w.heap.size w w1 := hb0.trans (hb1.mono hb0.size)
  clear hix hconv hf hb0
  go_wp2_with fail
  have HP : Hid ((padL 4 65 xs).length ≤ 1000003) := hpl
  go_loopw [3, 4] (fun ov rv wr => Gue8 w1 xs ov rv wr) (fun _ rv _ => sLen rv)
  case atStart => exact ⟨[], padL 4 65 xs, A1, cap1, rfl, h1, h2, h3, hpm, OwnB.nil _ _, by simp, Below.refl _ _⟩
  case round =>
    obtain ⟨acc, r, A2, cap2, rfl, hr, hrc, hrm, hmod, hown, hacc, hb⟩ := hrel
    by_cases hp : r.length = 0
    · obtain rfl := List.eq_nil_of_length_eq_zero hp
      have hacc' : acc = threes (padL 4 65 xs) := by rw [← hacc]; simp [threes]
      have hgl := g_len xs
      obtain ⟨m, hm0⟩ : ∃ m, m = xs.length * 3 / 4 := ⟨_, rfl⟩
      have htk : acc.take m = gL xs := by unfold gL; rw [hm0, hacc']
      rw [← hm0] at hgl
      have hma : m ≤ acc.length := by
        have := congrArg List.length htk
        rw [List.length_take, hgl] at this; omega
      obtain ⟨A3, cap3, rfl, hby, hc3, hm3⟩ := hown.byAt
      have hby2 := hby.take m
      rw [htk] at hby2
      have hsl := slice_to A3 acc.length cap3 m (by omega)
      have hq : (s.size : Int) * 3 / 4 = (m : Int) := by omega
      have HE : Hid (BytesEnd w (gL xs) (.returned (.slice A3 m cap3)) wr) := ⟨A3, cap3, by rw [hgl], hby2, by omega, hm3, hb1.trans (hb.mono hb1.size)⟩
      clear hacc hacc' htk hgl hm0 hby hby2 hown hr hmod hpm hpl h1
      go_wp2_with fail
      go_ret
      exact HE.out
    · obtain ⟨a, b, c, d, t, rfl⟩ := threes_ne r hmod hp
      obtain ⟨bb, oo, rfl, hbb, hcc⟩ : ∃ b' o, A2 = some ⟨b', o, none⟩ ∧ b' < w1.heap.size ∧ ∀ i, i < (a :: b :: c :: d :: t).length → w1.cell? ⟨b', o + i, none⟩ = some (.int .u8 (((a :: b :: c :: d :: t).getD i 0).toNat : Int)) := by
        rcases hr with h | h
        · simp at h
        · exact h
      have hl : (a :: b :: c :: d :: t).length = t.length + 4 := by simp
      have c0 := (hb.cell (p := ⟨bb, oo, none⟩) hbb).trans (hcc 0 (by omega))
      have c1 := (hb.cell (p := ⟨bb, oo + 1, none⟩) hbb).trans (hcc 1 (by omega))
      have c2 := (hb.cell (p := ⟨bb, oo + 2, none⟩) hbb).trans (hcc 2 (by omega))
      have c3 := (hb.cell (p := ⟨bb, oo + 3, none⟩) hbb).trans (hcc 3 (by omega))
      simp only [List.getD_cons_zero, List.getD_cons_succ] at c0 c1 c2 c3
      have hw := fun W => bread_any a b c d W
      obtain ⟨x0, hx0⟩ : ∃ x, x = UInt8.ofNat (bits4 a b c d / 65536) := ⟨_, rfl⟩
      obtain ⟨x1, hx1⟩ : ∃ x, x = UInt8.ofNat (bits4 a b c d / 256) := ⟨_, rfl⟩
      obtain ⟨x2, hx2⟩ : ∃ x, x = UInt8.ofNat (bits4 a b c d) := ⟨_, rfl⟩
      rw [← hx0, ← hx1, ← hx2] at hw
      have HX : Hid ([x0, x1, x2] = three a b c d) := by show _ = _; unfold three; rw [hx0, hx1, hx2]
      clear hx0 hx1 hx2
      rw [hl] at *
      have Hacc : Hid (acc ++ threes (a :: b :: c :: d :: t) = threes (padL 4 65 xs)) := hacc
      have HR : Hid (ByAt w1 w1.heap.size (some ⟨bb, oo, none⟩) (a :: b :: c :: d :: t)) := hr
      have HO : Hid (OwnB wr w1.heap.size u3 acc) := hown
      have Hmod : Hid ((t.length + 4) % 4 = 0) := hmod
      have hn3 : 4 ≤ t.length + 4 := by omega
      have hnc : t.length + 4 ≤ cap2 := hrc
      clear hcc hr hacc hmod hpl hpm h1 hrc hown hl hp
      generalize hn0 : t.length + 4 = n at *
      have HN : Hid (t.length + 4 = n) := hn0
      clear hn0
      have n0 : (0 : Int) < (n : Int) := by omega
      have n1 : (1 : Int) < (n : Int) := by omega
      have n2 : (2 : Int) < (n : Int) := by omega
      have n3 : (3 : Int) < (n : Int) := by omega
      have hsz := hb.size
      have hne : bb ≠ wr.heap.size := by omega
      go_wp2_with fail
      go_region_held3 (fun W => W.cell? ⟨bb, oo, none⟩ = some (.int .u8 (a.toNat : Int)) ∧ W.cell? ⟨bb, oo + 1, none⟩ = some (.int .u8 (b.toNat : Int)) ∧ W.cell? ⟨bb, oo + 2, none⟩ = some (.int .u8 (c.toNat : Int)) ∧ W.cell? ⟨bb, oo + 3, none⟩ = some (.int .u8 (d.toNat : Int)))
        (with_reducible (first | exact ⟨c0, c1, c2, c3⟩ | exact ⟨d0, d1, d2, d3⟩ | exact ⟨cell_dr c0, cell_dr c1, cell_dr c2, cell_dr c3⟩ | exact ⟨cell_dr (cell_up c0), cell_dr (cell_up c1), cell_dr (cell_up c2), cell_dr (cell_up c3)⟩ | exact ⟨cell_up d0, cell_up d1, cell_up d2, cell_up d3⟩ | exact ⟨cell_put3 d0 hne, cell_put3 d1 hne, cell_put3 d2 hne, cell_put3 d3 hne⟩))
        (first
          | (go_at_call 82; refine (hw _).mono ?_; rintro e w2 ⟨rfl, hb2⟩; have hb3 : Below (wr.alloc (.cells #[.int .u8 0, .int .u8 0, .int .u8 0] 74)).drew.heap.size (wr.alloc (.cells #[.int .u8 0, .int .u8 0, .int .u8 0] 74)).drew w2 := hb2; obtain ⟨⟨⟨z0, z1, z2⟩, y0, y1, y2⟩, hs2, hb4⟩ := blk3 (undrew hb3); obtain ⟨d0, d1, d2, d3⟩ := cells4 hb4 c0 c1 c2 c3; clear hb2 hb3; have HB4 : Hid (Below wr.heap.size wr w2) := hb4; clear hb4)
          | (go_at_call 82; refine (hw _).mono ?_; rintro e w2 ⟨rfl, hb2⟩; have hb4 := undrew (wr := wr) (w2 := w2) hb2; obtain ⟨d0, d1, d2, d3⟩ := cells4 hb4 c0 c1 c2 c3; clear hb2; have HB4 : Hid (Below wr.heap.size wr w2) := hb4; clear hb4))
      · have hl8 := laid_new [x0, x1, x2] 74 #[.int .u8 (x0.toNat : Int), .int .u8 (x1.toNat : Int), .int .u8 (x2.toNat : Int)] rfl HB4.out
        generalize (w2.alloc (.cells #[.int .u8 (x0.toNat : Int), .int .u8 (x1.toNat : Int), .int .u8 (x2.toNat : Int)] 74)) = W8 at hl8 ⊢
        generalize w2.heap.size = g8 at hl8 ⊢
        clear HB4 d0 d1 d2 d3
        have hs8 := hl8.bel.size
        have lo8 := hl8.lo
        have HL8 : Hid (Laid8 wr g8 W8 [x0, x1, x2]) := hl8
        have hsl := slice_from (some ⟨bb, oo, none⟩) n cap2 4 hn3
        obtain ⟨A3, hA3⟩ : ∃ A3, A3 = (if cap2 = 4 then some (⟨bb, oo, none⟩ : Addr) else (some (⟨bb, oo, none⟩ : Addr)).map (·.add 4)) := ⟨_, rfl⟩
        rw [← hA3] at hsl
        have HA3 : Hid (A3 = (if cap2 = 4 then some (⟨bb, oo, none⟩ : Addr) else (some (⟨bb, oo, none⟩ : Addr)).map (·.add 4))) := hA3
        have hal : acc.length ≤ 2100000 := by
          have h1 := congrArg List.length Hacc.out
          have h2 := threes_len (padL 4 65 xs)
          have h3 := HP.out
          rw [List.length_append] at h1
          omega
        clear hl8 hA3 hw
        go_wp2_with (at_builtin; refine wpList_append_any _ rfl _ _ 43 rfl w1.heap.size 5 i5 (.int .u8 0) 1 1 Tryz.underlying43 hi hz0 hz1 hz2 rfl (by decide) u3 acc.length (Lib.byteCells acc) rfl ?own (some ⟨g8, 0, none⟩) 3 3 (Lib.byteCells [x0, x1, x2]) rfl ?src ?c3 ?c4 ?c5 ?_)
        case own => exact HO.out.below HL8.out.bel
        case src => exact .inr ⟨_, rfl, rfl, HL8.out.cells, by simp [Value.oneCell', Lib.byteCells]⟩
        case c3 => unfold maxLen; omega
        case c4 => omega
        case c5 => omega
        intro v6 w6 hown6 hgrow6 hat6
        have O6 : Hid (OwnB w6 w1.heap.size v6 (acc ++ [x0, x1, x2])) := append_end hown6 rfl rfl
        have B6 : Hid (Below w1.heap.size w1 w6) := hb.trans ((HL8.out.bel.mono hsz).trans ((Grew.step (Grew.refl W8 u3) hgrow6 hat6).toBelow (fun q hq => (HO.out.base q hq).1) (by omega)))
        clear hown6 hgrow6 hat6
        go_wp2_with fail
        go_roundw
        case rel =>
          have hn := HN.out
          have hdr := HR.out.drop 4 cap2 (by simp) (by simpa [hn] using hnc)
          rw [← HA3.out] at hdr
          refine ⟨_, t, A3, cap2 - 4, ?_, hdr, by omega, by omega, by have := Hmod.out; omega, O6.out, ?_, B6.out⟩
          · rw [show n - 4 = t.length from by omega, HA3.out]; simp [Addr.add]
          · rw [HX.out, List.append_assoc]; exact Hacc.out
        case measure => show n - 4 < n; omega
      · have hl8 := laid_put3 x0 x1 x2 _ HB4.out (Nat.le_refl _) hs2 z0 z1 z2
        generalize (((w2.setCell ⟨wr.heap.size, 0, none⟩ (.int .u8 (x0.toNat : Int))).setCell ⟨wr.heap.size, 1, none⟩ (.int .u8 (x1.toNat : Int))).setCell ⟨wr.heap.size, 2, none⟩ (.int .u8 (x2.toNat : Int))) = W8 at hl8 ⊢
        obtain ⟨g8, hg8⟩ : ∃ g, g = wr.heap.size := ⟨_, rfl⟩
        rw [← hg8] at hl8 ⊢
        clear hg8 HB4 d0 d1 d2 d3 z0 z1 z2 y0 y1 y2
        have hs8 := hl8.bel.size
        have lo8 := hl8.lo
        have HL8 : Hid (Laid8 wr g8 W8 [x0, x1, x2]) := hl8
        have hsl := slice_from (some ⟨bb, oo, none⟩) n cap2 4 hn3
        obtain ⟨A3, hA3⟩ : ∃ A3, A3 = (if cap2 = 4 then some (⟨bb, oo, none⟩ : Addr) else (some (⟨bb, oo, none⟩ : Addr)).map (·.add 4)) := ⟨_, rfl⟩
        rw [← hA3] at hsl
        have HA3 : Hid (A3 = (if cap2 = 4 then some (⟨bb, oo, none⟩ : Addr) else (some (⟨bb, oo, none⟩ : Addr)).map (·.add 4))) := hA3
        have hal : acc.length ≤ 2100000 := by
          have h1 := congrArg List.length Hacc.out
          have h2 := threes_len (padL 4 65 xs)
          have h3 := HP.out
          rw [List.length_append] at h1
          omega
        clear hl8 hA3 hw
        go_wp2_with (at_builtin; refine wpList_append_any _ rfl _ _ 43 rfl w1.heap.size 5 i5 (.int .u8 0) 1 1 Tryz.underlying43 hi hz0 hz1 hz2 rfl (by decide) u3 acc.length (Lib.byteCells acc) rfl ?own (some ⟨g8, 0, none⟩) 3 3 (Lib.byteCells [x0, x1, x2]) rfl ?src ?c3 ?c4 ?c5 ?_)
        case own => exact HO.out.below HL8.out.bel
        case src => exact .inr ⟨_, rfl, rfl, HL8.out.cells, by simp [Value.oneCell', Lib.byteCells]⟩
        case c3 => unfold maxLen; omega
        case c4 => omega
        case c5 => omega
        intro v6 w6 hown6 hgrow6 hat6
        have O6 : Hid (OwnB w6 w1.heap.size v6 (acc ++ [x0, x1, x2])) := append_end hown6 rfl rfl
        have B6 : Hid (Below w1.heap.size w1 w6) := hb.trans ((HL8.out.bel.mono hsz).trans ((Grew.step (Grew.refl W8 u3) hgrow6 hat6).toBelow (fun q hq => (HO.out.base q hq).1) (by omega)))
        clear hown6 hgrow6 hat6
        go_wp2_with fail
        go_roundw
        case rel =>
          have hn := HN.out
          have hdr := HR.out.drop 4 cap2 (by simp) (by simpa [hn] using hnc)
          rw [← HA3.out] at hdr
          refine ⟨_, t, A3, cap2 - 4, ?_, hdr, by omega, by omega, by have := Hmod.out; omega, O6.out, ?_, B6.out⟩
          · rw [show n - 4 = t.length from by omega, HA3.out]; simp [Addr.add]
          · rw [HX.out, List.append_assoc]; exact Hacc.out
        case measure => show n - 4 < n; omega

end Go.Proofs.YtgmmbfnmojjbkaaGreatDoor

namespace Go.Proofs.YtgmmbfnmojjbkaaGreatDoor
open Go.RowKit
set_option linter.unusedVariables false
set_option linter.unusedSimpArgs false

def DecEnd (w : World) (s : ByteArray) (e : Ending) (w' : World) : Prop :=
  ∃ A cap, e = .returned (.tuple #[.slice A (dL s).length cap, .int .i64 (dN s)]) ∧ ByAt w' w'.heap.size A (dL s) ∧ (dL s).length ≤ cap ∧ cap ≤ maxLen ∧ Below w.heap.size w w'

theorem dOk_iff (s : ByteArray) : dOk s.data.toList = true ↔ b64S (gL s.data.toList) = s := by
  unfold dOk b64S
  constructor
  · intro h; exact ba_ext (by rw [ba_list]; simpa using h)
  · intro h
    have := congrArg (fun x : ByteArray => x.data.toList) h
    simpa using this

theorem toList_ne {s t : ByteArray} (h : ¬ s = t) : (s.toList == t.toList) = false := by
  rw [beq_eq_false_iff_ne]
  intro e
  rw [ByteArray.toList_eq, ByteArray.toList_eq] at e
  exact h (ba_ext e)

set_option maxRecDepth 100000 in
set_option maxHeartbeats 1000000 in
theorem bdec_any (s : ByteArray) (w : World) (hm : s.size ≤ 1000000) :
    Calls Tryz.prog 49 #[.string s] w fun e w' => DecEnd w s e w' := by
  have hg := bguess_any s w hm
  have hgl : (gL s.data.toList).length ≤ 1000000 := by rw [g_len, size_list]; omega
  have he := fun (A : Option Addr) (cap : Nat) (W : World) (h1 : ByAt W W.heap.size A (gL s.data.toList)) (h2 : (gL s.data.toList).length ≤ cap) => benc_any A (gL s.data.toList) cap W h1 h2 hgl
  have hd := dOk_iff s
  by_cases h : dOk s.data.toList = true
  · have e1 : dL s = gL s.data.toList := by unfold dL; rw [if_pos h]
    have e2 : dN s = 0 := by unfold dN; rw [if_pos h]
    unfold DecEnd
    rw [e1, e2]
    rw [hd.1 h] at he
    clear hd h e1 e2
    generalize gL s.data.toList = g at *
    go_enter Tryz.func49, Tryz.ntmps49
    go_wp2_with fail
    refine hg.mono ?_
    rintro e w1 ⟨A1, cap1, rfl, h1, h2, h3, hb1⟩
    go_wp2_with fail
    refine (he A1 cap1 w1 h1 h2).mono ?_
    rintro e w2 ⟨rfl, hb2⟩
    go_wp2_with fail
    exact bodyPost_ret (v := .tuple #[.slice A1 g.length cap1, .int .i64 0]) (by simp [results, Tryz.results49, go_sem]) rfl ⟨A1, cap1, rfl, (h1.below hb2).keep hb2.size (fun _ _ _ => rfl), h2, h3, hb1.trans (hb2.mono hb1.size)⟩
  · have e1 : dL s = [] := by unfold dL; rw [if_neg h]
    have e2 : dN s = 3 := by unfold dN; rw [if_neg h]
    unfold DecEnd
    rw [e1, e2]
    have hne : ¬ b64S (gL s.data.toList) = s := fun e => h (hd.2 e)
    clear hd h e1 e2
    generalize gL s.data.toList = g at *
    generalize b64S g = st at *
    have hnb := toList_ne hne
    go_enter Tryz.func49, Tryz.ntmps49
    go_wp2_with fail
    refine hg.mono ?_
    rintro e w1 ⟨A1, cap1, rfl, h1, h2, h3, hb1⟩
    go_wp2_with fail
    refine (he A1 cap1 w1 h1 h2).mono ?_
    rintro e w2 ⟨rfl, hb2⟩
    go_wp2_with fail
    exact bodyPost_ret (v := .tuple #[.slice none 0 0, .int .i64 3]) (by simp [results, Tryz.results49, go_sem]) rfl ⟨none, 0, rfl, .inl rfl, Nat.le_refl _, Nat.zero_le _, hb1.trans (hb2.mono hb1.size)⟩

end Go.Proofs.YtgmmbfnmojjbkaaGreatDoor

namespace Go.Proofs.YtgmmbfnmojjbkaaGreatDoor
open Go.RowKit
set_option linter.unusedVariables false
set_option linter.unusedSimpArgs false

theorem sgI_none (c : UInt8) (h : ∀ k, k < 64 → sg k ≠ c) : sgI c = -1 := by
  have h1 := sgI_at c
  by_cases h0 : 0 ≤ sgI c
  · exact absurd (h1.2.2 h0) (h _ (sgN_lt c))
  · omega

set_option maxRecDepth 100000 in
set_option maxHeartbeats 1000000 in
theorem rbsign_any (c : UInt8) (w : World) :
    Calls Tryz.prog 41 #[.int .u8 (c.toNat : Int)] w fun e w' => e = .returned (.int .i64 (sgI c)) ∧ w' = w := by
  go_enter Tryz.func41, Tryz.ntmps41
  go_wp2_with fail
  go_loopw [3] (fun iv wr => ∃ i : Nat, iv = .int .i64 (i : Int) ∧ i ≤ 64 ∧ (∀ k, k < i → sg k ≠ c) ∧ wr = w) (fun iv _ => 64 - (intOf iv).toNat)
  case atStart => exact ⟨0, rfl, by omega, fun k h => absurd h (by omega), rfl⟩
  case round =>
    obtain ⟨i, rfl, hi, hno, rfl⟩ := hrel
    have Hno : Hid (∀ k, k < i → sg k ≠ c) := hno
    clear hno
    by_cases hp : i < 64
    · have hp' : (i : Int) < 64 := by omega
      obtain ⟨x, hx⟩ : ∃ x, x = (sg i).toNat := ⟨_, rfl⟩
      have hix := fun W => sg_index i hp x hx W
      obtain ⟨y, hy⟩ : ∃ y, y = c.toNat := ⟨_, rfl⟩
      rw [← hy]
      have HX : Hid (x = (sg i).toNat) := hx
      have HY : Hid (y = c.toNat) := hy
      clear hx hy
      by_cases he : x = y
      · have HE : Hid (sg i = c) := UInt8.toNat_inj.1 (by rw [← HX.out, ← HY.out]; exact he)
        have hb : ((x : Int) == (y : Int)) = true := by simp [he]
        clear he
        go_wp2_with fail
        go_ret
        exact ⟨ret_int (by rw [← HE.out, sgI_sg i hp]), rfl⟩
      · have HE : Hid (sg i ≠ c) := fun e => he (by rw [HX.out, HY.out, e])
        have hb : ((x : Int) == (y : Int)) = false := by simp; omega
        clear he
        go_wp2_with fail
        go_roundw
        case rel =>
          refine ⟨i + 1, by simp, by omega, fun k hk => ?_, trivial⟩
          by_cases e : k = i
          · rw [e]; exact HE.out
          · exact Hno.out k (by omega)
        case measure =>
          simp [intOf]
          omega
    · have hp' : ¬ (i : Int) < 64 := by omega
      obtain rfl : i = 64 := by omega
      go_wp2_with fail
      go_ret
      exact ⟨ret_int (sgI_none c Hno.out).symm, rfl⟩

/-- The bits of the first k bytes of r, 0 where there is none. -/
def vU (r : List UInt8) : Nat → Nat
  | 0 => 0
  | k + 1 => vU r k * 256 + (r.getD k 0).toNat
theorem vU_lt (r : List UInt8) : ∀ k, vU r k < 256 ^ k
  | 0 => by simp [vU]
  | k + 1 => by
    have h1 := vU_lt r k
    have h2 := (r.getD k 0).toNat_lt
    rw [vU, Nat.pow_succ]; omega

/-- What stands for the first three bytes of r. -/
def grp (r : List UInt8) : List UInt8 := (four (r.getD 0 0).toNat (r.getD 1 0).toNat (r.getD 2 0).toNat).take (min 3 r.length + 1)
theorem grp_take (r : List UInt8) (h : r ≠ []) : b64L (r.take 3) = grp r := by
  match r, h with
  | [a], _ => rfl
  | [a, b], _ => rfl
  | a :: b :: c :: t, _ => simp [grp, b64L]; rfl
theorem b64_step (xs : List UInt8) (i : Nat) (h : i < xs.length) (h3 : i % 3 = 0) : b64L (xs.take (i + 3)) = b64L (xs.take i) ++ grp (xs.drop i) := by
  rw [List.take_add, b64_app _ _ (by rw [List.length_take]; omega), grp_take _ (by intro e; have := congrArg List.length e; simp at this; omega)]

theorem grp_idx (r : List UInt8) (k : Nat) (hk : k ≤ 3) : sg (vU r 3 / 2 ^ (18 - 6 * k) % 64) = (four (r.getD 0 0).toNat (r.getD 1 0).toNat (r.getD 2 0).toNat).getD k 0 := by
  have h0 := (r.getD 0 0).toNat_lt
  have h1 := (r.getD 1 0).toNat_lt
  have h2 := (r.getD 2 0).toNat_lt
  have e : vU r 3 = ((r.getD 0 0).toNat * 256 + (r.getD 1 0).toNat) * 256 + (r.getD 2 0).toNat := by simp [vU]
  rw [e]
  clear e
  generalize (r.getD 0 0).toNat = a at *
  generalize (r.getD 1 0).toNat = b at *
  generalize (r.getD 2 0).toNat = c at *
  rcases (show k = 0 ∨ k = 1 ∨ k = 2 ∨ k = 3 by omega) with rfl | rfl | rfl | rfl
  · show sg _ = sg _; congr 1; simp; omega
  · show sg _ = sg _; congr 1; simp; omega
  · show sg _ = sg _; congr 1; simp; omega
  · show sg _ = sg _; congr 1; simp; omega

end Go.Proofs.YtgmmbfnmojjbkaaGreatDoor

namespace Go.Proofs.YtgmmbfnmojjbkaaGreatDoor
open Go.RowKit
set_option linter.unusedVariables false
set_option linter.unusedSimpArgs false

def REnc8 (w : World) (xs : List UInt8) (ov iv : Value) (wr : World) : Prop :=
  ∃ i : Nat, iv = .int .i64 (i : Int) ∧ i % 3 = 0 ∧ i ≤ xs.length + 2 ∧ OwnB wr w.heap.size ov (b64L (xs.take i)) ∧ Below w.heap.size w wr

set_option maxRecDepth 100000 in
set_option maxHeartbeats 1000000 in
theorem rbenc_any (A : Option Addr) (xs : List UInt8) (cap : Nat) (w : World) (hx : ByAt w w.heap.size A xs) (hc : xs.length ≤ cap) (hm : xs.length ≤ 1000000) :
    Calls Tryz.prog 23 #[.slice A xs.length cap] w fun e w' => e = .returned (.string (b64S xs)) ∧ Below w.heap.size w w' := by
  obtain ⟨i5, hi, hz0, hz1, hz2⟩ := info_has Tryz.infoByte
  go_enter Tryz.func23, Tryz.ntmps23
  go_wp2_with fail
  go_loopw [3, 4] (fun ov iv wr => REnc8 w xs ov iv wr) (fun _ iv _ => xs.length + 3 - (intOf iv).toNat)
  case atStart => exact ⟨0, rfl, rfl, by omega, OwnB.nil _ _, Below.refl _ _⟩
  case round =>
    obtain ⟨i, rfl, h3, hil, hown, hb⟩ := hrel
    by_cases hp : i < xs.length
    · have hp' : (i : Int) < (xs.length : Int) := by omega
      obtain ⟨bb, oo, rfl, hbb, hcc⟩ : ∃ b' o, A = some ⟨b', o, none⟩ ∧ b' < w.heap.size ∧ ∀ i, i < xs.length → w.cell? ⟨b', o + i, none⟩ = some (.int .u8 ((xs.getD i 0).toNat : Int)) := by
        rcases hx with h | h
        · rw [h] at hp; simp at hp
        · exact h
      have hcr : ∀ i, i < xs.length → wr.cell? ⟨bb, oo + i, none⟩ = some (.int .u8 ((xs.getD i 0).toNat : Int)) := fun i hi => (hb.cell (by simpa using hbb)).trans (hcc i hi)
      have HC : Hid (∀ i, i < xs.length → wr.cell? ⟨bb, oo + i, none⟩ = some (.int .u8 ((xs.getD i 0).toNat : Int))) := hcr
      have HO : Hid (OwnB wr w.heap.size u3 (b64L (xs.take i))) := hown
      clear hcr hcc hown hx
      go_wp2_with fail
      go_loopw [5, 6, 7] (fun vv nv kv wx => ∃ k : Nat, kv = .int .i64 (k : Int) ∧ k ≤ 3 ∧ vv = .int .i64 (vU (xs.drop i) k : Int) ∧ nv = .int .i64 (min k (xs.length - i) : Nat) ∧ wx = wr) (fun _ _ kv _ => 3 - (intOf kv).toNat)
      case atStart => exact ⟨0, rfl, by omega, rfl, by simp, rfl⟩
      case round =>
        obtain ⟨k, rfl, hk, rfl, rfl, rfl⟩ := hrel
        by_cases hk3 : k < 3
        · have hk3' : (k : Int) < 3 := by omega
          have hvl : vU (xs.drop i) k < 65536 := Nat.lt_of_lt_of_le (vU_lt _ k) (by rcases (show k = 0 ∨ k = 1 ∨ k = 2 by omega) with rfl | rfl | rfl <;> decide)
          have hvn : vU (xs.drop i) (k + 1) = vU (xs.drop i) k * 256 + ((xs.drop i).getD k 0).toNat := rfl
          have hdk : (xs.drop i).getD k 0 = xs.getD (i + k) 0 := by simp [List.getD]
          rw [hdk] at hvn
          have Hvn : Hid (vU (xs.drop i) (k + 1) = vU (xs.drop i) k * 256 + (xs.getD (i + k) 0).toNat) := hvn
          clear hvn hdk
          by_cases hik : i + k < xs.length
          · have hik' : (i : Int) + (k : Int) < (xs.length : Int) := by omega
            have hcell := HC.out (i + k) hik
            obtain ⟨y, hy⟩ : ∃ y, y = xs.getD (i + k) 0 := ⟨_, rfl⟩
            rw [← hy] at hcell
            have HY : Hid (y = xs.getD (i + k) 0) := hy
            have hyl := y.toNat_lt
            clear hy
            obtain ⟨v, hv⟩ : ∃ v, v = vU (xs.drop i) k := ⟨_, rfl⟩
            rw [← hv] at hvl ⊢
            have HV : Hid (v = vU (xs.drop i) k) := hv
            clear hv
            obtain ⟨n, hn⟩ : ∃ n, n = min k (xs.length - i) := ⟨_, rfl⟩
            rw [← hn]
            have HN : Hid (n = min k (xs.length - i)) := hn
            have hnk : n = k := by omega
            clear hn
            subst hnk
            go_wp2_with fail
            go_roundw
            case rel =>
              have h1 := HN.out
              refine ⟨n + 1, by simp, by omega, ?_, ?_, trivial⟩
              · rw [Hvn.out, ← HV.out, ← HY.out]; simp
              · rw [show min (n + 1) (xs.length - i) = n + 1 from by omega]; simp
            case measure =>
              simp [intOf]
              omega
          · have hik' : ¬ (i : Int) + (k : Int) < (xs.length : Int) := by omega
            obtain ⟨v, hv⟩ : ∃ v, v = vU (xs.drop i) k := ⟨_, rfl⟩
            rw [← hv] at hvl ⊢
            have HV : Hid (v = vU (xs.drop i) k) := hv
            clear hv
            obtain ⟨n, hn⟩ : ∃ n, n = min k (xs.length - i) := ⟨_, rfl⟩
            rw [← hn]
            have HN : Hid (n = min k (xs.length - i)) := hn
            clear hn
            go_wp2_with fail
            go_roundw
            case rel =>
              have h1 := HN.out
              refine ⟨k + 1, by simp, by omega, ?_, ?_, trivial⟩
              · rw [Hvn.out, ← HV.out]; simp [List.getD, List.getElem?_eq_none (show xs.length ≤ i + k by omega)]
              · rw [show min (k + 1) (xs.length - i) = n from by omega]
            case measure =>
              simp [intOf]
              omega
        · have hk3' : ¬ (k : Int) < 3 := by omega
          have hk3e : k = 3 := by omega
          have hv3 : vU (xs.drop i) 3 < 16777216 := vU_lt _ 3
          have hgi := grp_idx (xs.drop i)
          have hst := b64_step xs i hp h3
          have hdl : (xs.drop i).length = xs.length - i := List.length_drop
          unfold grp at hst
          rw [hdl] at hst
          obtain ⟨fr, hfr⟩ : ∃ fr, fr = four ((xs.drop i).getD 0 0).toNat ((xs.drop i).getD 1 0).toNat ((xs.drop i).getD 2 0).toNat := ⟨_, rfl⟩
          have hfl : fr.length = 4 := by rw [hfr]; rfl
          rw [← hfr] at hgi hst
          obtain ⟨v, hv⟩ : ∃ v, v = vU (xs.drop i) 3 := ⟨_, rfl⟩
          obtain ⟨n, hn⟩ : ∃ n, n = min 3 (xs.length - i) := ⟨_, rfl⟩
          rw [show vU (xs.drop i) k = v from by rw [hk3e, hv], show min k (xs.length - i) = n from by rw [hk3e, hn]]
          rw [← hv] at hv3 hgi
          rw [← hn] at hst
          have hn3 : n ≤ 3 := by omega
          have hLl : (b64L (xs.take i)).length ≤ 1400000 := by rw [b64_len, List.length_take]; omega
          obtain ⟨L, hL⟩ : ∃ L, L = b64L (xs.take i) := ⟨_, rfl⟩
          rw [← hL] at hst hLl
          have HO2 : Hid (OwnB wr w.heap.size u3 L) := by show OwnB _ _ _ _; rw [hL]; exact HO.out
          have Hst : Hid (b64L (xs.take (i + 3)) = L ++ fr.take (n + 1)) := hst
          have Hgi : Hid (∀ k, k ≤ 3 → sg (v / 2 ^ (18 - 6 * k) % 64) = fr.getD k 0) := hgi
          clear HC HO hL hn hv hfr hdl hst hgi hk3 hk3e hk
          generalize (k : Int) = k3 at *
          go_wp2_with fail
          clear hk3'
          go_loopw [3, 8] (fun ov kv wx => ∃ k : Nat, kv = .int .i64 (k : Int) ∧ k ≤ n + 1 ∧ OwnB wx w.heap.size ov (L ++ fr.take k) ∧ Below w.heap.size w wx) (fun _ kv _ => 5 - (intOf kv).toNat)
          case atStart => exact ⟨0, rfl, by omega, by simpa using HO2.out, hb⟩
          case round =>
            obtain ⟨k, rfl, hk, hown, hbx⟩ := hrel
            have hsx := hbx.size
            by_cases hkn : k ≤ n
            · have hkn' : (k : Int) ≤ (n : Int) := by omega
              have HO3 : Hid (OwnB wr w.heap.size u3 (L ++ fr.take k)) := hown
              have hgk := Hgi.out k (by omega)
              have hfk : fr.take (k + 1) = fr.take k ++ [fr.getD k 0] := by
                rw [List.take_succ_eq_append_getElem (by omega)]; simp [List.getD, List.getElem?_eq_getElem (show k < fr.length by omega)]
              have hll : (L ++ fr.take k).length ≤ 1400004 := by rw [List.length_append, List.length_take]; omega
              obtain ⟨M, hM⟩ : ∃ M, M = L ++ fr.take k := ⟨_, rfl⟩
              have HM : Hid (L ++ fr.take (k + 1) = M ++ [fr.getD k 0]) := by show _ = _; rw [hfk, hM, List.append_assoc]
              rw [← hM] at hown hll
              have HO4 : Hid (OwnB wr w.heap.size u3 M) := hown
              clear hown hM hfk HO3 HO2
              obtain ⟨x, hx⟩ : ∃ x, x = (sg (v / 2 ^ (18 - 6 * k) % 64)).toNat := ⟨_, rfl⟩
              have hix := fun W => sg_index (v / 2 ^ (18 - 6 * k) % 64) (Nat.mod_lt _ (by decide)) x hx W
              have HXk : Hid (x = (fr.getD k 0).toNat) := by show _ = _; rw [hx, hgk]
              clear hx hgk
              rcases (show k = 0 ∨ k = 1 ∨ k = 2 ∨ k = 3 by omega) with rfl | rfl | rfl | rfl
              · have q0 : bits .and .i64 ((v : Int) / 262144) 63 = ((v / 262144 % 64 : Nat) : Int) := by
                  first | (rw [show (v : Int) / 262144 = ((v / 262144 : Nat) : Int) from by omega]; exact and63 _ (by omega)) | (rw [Nat.div_one]; exact and63 _ (by omega))
                rw [show (2 : Nat) ^ (18 - 6 * 0) = 262144 from rfl] at hix
                obtain ⟨j, hj⟩ : ∃ j, j = v / 262144 % 64 := ⟨_, rfl⟩
                rw [← hj] at q0 hix
                clear hj
                go_wp2_with (at_builtin; refine wpList_append_any _ rfl _ _ 43 rfl w.heap.size 5 i5 (.int .u8 0) 1 1 Tryz.underlying43 hi hz0 hz1 hz2 rfl (by decide) u3 M.length (Lib.byteCells M) rfl (HO4.out.alloc _) (some ⟨wr.heap.size, 0, none⟩) 1 1 [.int .u8 (x : Int)] rfl (.inr ⟨_, rfl, rfl, World.news_of_block (t := 5) (fr := (0, 0)) (heap_alloc_new wr _), by simp [Value.oneCell']⟩) (by unfold maxLen; omega) (by omega) (by simp; omega) ?_)
                intro v6 w6 hown6 hgrow6 hat6
                have hb6 : Below w.heap.size w w6 := hbx.trans (below_end HO4.out hgrow6 hat6 hsx)
                have O6 : Hid (OwnB w6 w.heap.size v6 (L ++ fr.take (0 + 1))) := by
                  show OwnB _ _ _ _
                  rw [HM.out]
                  exact append_end hown6 (by rw [HXk.out]; rfl) rfl
                clear hown6 hgrow6 hat6 HO4
                go_wp2_with fail
                go_roundw
                case rel => exact ⟨0 + 1, by simp, by omega, O6.out, hb6⟩
                case measure =>
                  simp [intOf]
              · have q0 : bits .and .i64 ((v : Int) / 4096) 63 = ((v / 4096 % 64 : Nat) : Int) := by
                  first | (rw [show (v : Int) / 4096 = ((v / 4096 : Nat) : Int) from by omega]; exact and63 _ (by omega)) | (rw [Nat.div_one]; exact and63 _ (by omega))
                rw [show (2 : Nat) ^ (18 - 6 * 1) = 4096 from rfl] at hix
                obtain ⟨j, hj⟩ : ∃ j, j = v / 4096 % 64 := ⟨_, rfl⟩
                rw [← hj] at q0 hix
                clear hj
                go_wp2_with (at_builtin; refine wpList_append_any _ rfl _ _ 43 rfl w.heap.size 5 i5 (.int .u8 0) 1 1 Tryz.underlying43 hi hz0 hz1 hz2 rfl (by decide) u3 M.length (Lib.byteCells M) rfl (HO4.out.alloc _) (some ⟨wr.heap.size, 0, none⟩) 1 1 [.int .u8 (x : Int)] rfl (.inr ⟨_, rfl, rfl, World.news_of_block (t := 5) (fr := (0, 0)) (heap_alloc_new wr _), by simp [Value.oneCell']⟩) (by unfold maxLen; omega) (by omega) (by simp; omega) ?_)
                intro v6 w6 hown6 hgrow6 hat6
                have hb6 : Below w.heap.size w w6 := hbx.trans (below_end HO4.out hgrow6 hat6 hsx)
                have O6 : Hid (OwnB w6 w.heap.size v6 (L ++ fr.take (1 + 1))) := by
                  show OwnB _ _ _ _
                  rw [HM.out]
                  exact append_end hown6 (by rw [HXk.out]; rfl) rfl
                clear hown6 hgrow6 hat6 HO4
                go_wp2_with fail
                go_roundw
                case rel => exact ⟨1 + 1, by simp, by omega, O6.out, hb6⟩
                case measure =>
                  simp [intOf]
              · have q0 : bits .and .i64 ((v : Int) / 64) 63 = ((v / 64 % 64 : Nat) : Int) := by
                  first | (rw [show (v : Int) / 64 = ((v / 64 : Nat) : Int) from by omega]; exact and63 _ (by omega)) | (rw [Nat.div_one]; exact and63 _ (by omega))
                rw [show (2 : Nat) ^ (18 - 6 * 2) = 64 from rfl] at hix
                obtain ⟨j, hj⟩ : ∃ j, j = v / 64 % 64 := ⟨_, rfl⟩
                rw [← hj] at q0 hix
                clear hj
                go_wp2_with (at_builtin; refine wpList_append_any _ rfl _ _ 43 rfl w.heap.size 5 i5 (.int .u8 0) 1 1 Tryz.underlying43 hi hz0 hz1 hz2 rfl (by decide) u3 M.length (Lib.byteCells M) rfl (HO4.out.alloc _) (some ⟨wr.heap.size, 0, none⟩) 1 1 [.int .u8 (x : Int)] rfl (.inr ⟨_, rfl, rfl, World.news_of_block (t := 5) (fr := (0, 0)) (heap_alloc_new wr _), by simp [Value.oneCell']⟩) (by unfold maxLen; omega) (by omega) (by simp; omega) ?_)
                intro v6 w6 hown6 hgrow6 hat6
                have hb6 : Below w.heap.size w w6 := hbx.trans (below_end HO4.out hgrow6 hat6 hsx)
                have O6 : Hid (OwnB w6 w.heap.size v6 (L ++ fr.take (2 + 1))) := by
                  show OwnB _ _ _ _
                  rw [HM.out]
                  exact append_end hown6 (by rw [HXk.out]; rfl) rfl
                clear hown6 hgrow6 hat6 HO4
                go_wp2_with fail
                go_roundw
                case rel => exact ⟨2 + 1, by simp, by omega, O6.out, hb6⟩
                case measure =>
                  simp [intOf]
              · have q0 : bits .and .i64 ((v : Int)) 63 = ((v / 1 % 64 : Nat) : Int) := by
                  first | (rw [show (v : Int) = ((v / 1 : Nat) : Int) from by omega]; exact and63 _ (by omega)) | (rw [Nat.div_one]; exact and63 _ (by omega))
                rw [show (2 : Nat) ^ (18 - 6 * 3) = 1 from rfl] at hix
                obtain ⟨j, hj⟩ : ∃ j, j = v / 1 % 64 := ⟨_, rfl⟩
                rw [← hj] at q0 hix
                clear hj
                go_wp2_with (at_builtin; refine wpList_append_any _ rfl _ _ 43 rfl w.heap.size 5 i5 (.int .u8 0) 1 1 Tryz.underlying43 hi hz0 hz1 hz2 rfl (by decide) u3 M.length (Lib.byteCells M) rfl (HO4.out.alloc _) (some ⟨wr.heap.size, 0, none⟩) 1 1 [.int .u8 (x : Int)] rfl (.inr ⟨_, rfl, rfl, World.news_of_block (t := 5) (fr := (0, 0)) (heap_alloc_new wr _), by simp [Value.oneCell']⟩) (by unfold maxLen; omega) (by omega) (by simp; omega) ?_)
                intro v6 w6 hown6 hgrow6 hat6
                have hb6 : Below w.heap.size w w6 := hbx.trans (below_end HO4.out hgrow6 hat6 hsx)
                have O6 : Hid (OwnB w6 w.heap.size v6 (L ++ fr.take (3 + 1))) := by
                  show OwnB _ _ _ _
                  rw [HM.out]
                  exact append_end hown6 (by rw [HXk.out]; rfl) rfl
                clear hown6 hgrow6 hat6 HO4
                go_wp2_with fail
                go_roundw
                case rel => exact ⟨3 + 1, by simp, by omega, O6.out, hb6⟩
                case measure =>
                  simp [intOf]
            · have hkn' : ¬ (k : Int) ≤ (n : Int) := by omega
              obtain rfl : k = n + 1 := by omega
              have HO3 : Hid (OwnB wr w.heap.size u3 (b64L (xs.take (i + 3)))) := by show OwnB _ _ _ _; rw [Hst.out]; exact hown
              clear hown
              go_wp2_with fail
              go_roundw
              case rel => exact ⟨i + 3, by simp, by omega, by omega, HO3.out, hbx⟩
              case measure =>
                simp [intOf]
                omega
    · have hp' : ¬ (i : Int) < (xs.length : Int) := by omega
      have hcv := conv_own hown
      rw [List.take_of_length_le (by omega)] at hcv
      have HO : Hid (OwnB wr w.heap.size u3 (b64L (xs.take i))) := hown
      clear hown
      go_wp2_with fail
      go_ret
      exact ⟨rfl, hb⟩

end Go.Proofs.YtgmmbfnmojjbkaaGreatDoor

namespace Go.Proofs.YtgmmbfnmojjbkaaGreatDoor
open Go.RowKit
set_option linter.unusedVariables false
set_option linter.unusedSimpArgs false

theorem rd_nil (v k : Nat) (acc : List UInt8) : rd v k [] acc = some acc := rfl
theorem rd_bad (v k : Nat) (c : UInt8) (t acc : List UInt8) (h : sgI c < 0) : rd v k (c :: t) acc = none := by rw [rd, if_pos h]
theorem rd_two (v k : Nat) (c : UInt8) (t acc : List UInt8) (h : 0 ≤ sgI c) (hk : 2 ≤ k) : rd v k (c :: t) acc = rd ((v * 64 + sgN c) % 2 ^ (k - 2)) (k - 2) t (acc ++ [UInt8.ofNat ((v * 64 + sgN c) / 2 ^ (k - 2))]) := by rw [rd, if_neg (by omega), if_pos hk]
theorem rd_zero (v : Nat) (c : UInt8) (t acc : List UInt8) (h : 0 ≤ sgI c) : rd v 0 (c :: t) acc = rd (v * 64 + sgN c) 6 t acc := by rw [rd, if_neg (by omega), if_neg (by decide)]

theorem and0 (n : Nat) : bits .and .i64 (n : Int) 0 = 0 := by
  show IntKind.i64.wrap ((BitVec.ofInt 64 (n : Int) &&& BitVec.ofInt 64 ((0 : Nat) : Int)).toNat : Int) = _
  rw [BitVec.toNat_and, show (BitVec.ofInt 64 ((0 : Nat) : Int)).toNat = 0 from rfl, Nat.and_zero]; rfl
theorem and3 (n : Nat) (h : n < 9223372036854775808) : bits .and .i64 (n : Int) 3 = ((n % 4 : Nat) : Int) := by
  show IntKind.i64.wrap ((BitVec.ofInt 64 (n : Int) &&& BitVec.ofInt 64 ((3 : Nat) : Int)).toNat : Int) = _
  rw [BitVec.toNat_and, ofInt_u64 _ (by omega), ofInt_u64 _ (by omega), show (3 : Nat) = 2 ^ 2 - 1 from rfl, Nat.and_two_pow_sub_one_eq_mod, IntKind.wrap_i64]
  omega
theorem and15 (n : Nat) (h : n < 9223372036854775808) : bits .and .i64 (n : Int) 15 = ((n % 16 : Nat) : Int) := by
  show IntKind.i64.wrap ((BitVec.ofInt 64 (n : Int) &&& BitVec.ofInt 64 ((15 : Nat) : Int)).toNat : Int) = _
  rw [BitVec.toNat_and, ofInt_u64 _ (by omega), ofInt_u64 _ (by omega), show (15 : Nat) = 2 ^ 4 - 1 from rfl, Nat.and_two_pow_sub_one_eq_mod, IntKind.wrap_i64]
  omega

def RDec8 (w : World) (s : ByteArray) (ov vv bv iv : Value) (wr : World) : Prop :=
  ∃ (i v k : Nat) (acc : List UInt8), iv = .int .i64 (i : Int) ∧ i ≤ s.size ∧ vv = .int .i64 (v : Int) ∧ bv = .int .i64 (k : Int) ∧ (k = 0 ∨ k = 2 ∨ k = 4 ∨ k = 6) ∧ v < 2 ^ k ∧ OwnB wr w.heap.size ov acc ∧ acc.length ≤ i ∧
    rd v k (s.data.toList.drop i) acc = rd 0 0 s.data.toList [] ∧ Below w.heap.size w wr

theorem drop_cons (s : ByteArray) (i : Nat) (h : i < s.size) : s.data.toList.drop i = s[i]'h :: s.data.toList.drop (i + 1) := by
  rcases s with ⟨a⟩
  have h' : i < a.toList.length := by simpa [ByteArray.size] using h
  rw [List.drop_eq_getElem_cons h']
  rfl

set_option maxRecDepth 100000 in
set_option maxHeartbeats 1000000 in
theorem rbdec_any (s : ByteArray) (w : World) (hm : s.size ≤ 1000000) :
    Calls Tryz.prog 42 #[.string s] w fun e w' => DecEnd w s e w' := by
  obtain ⟨i5, hi, hz0, hz1, hz2⟩ := info_has Tryz.infoByte
  have hcase := rd_case s
  go_enter Tryz.func42, Tryz.ntmps42
  go_wp2_with fail
  have Hcase : Hid ((dN s = 0 ∧ rd 0 0 s.data.toList [] = some (dL s)) ∨ (dN s = 3 ∧ dL s = [] ∧ ∀ r, rd 0 0 s.data.toList [] = some r → b64S r ≠ s)) := hcase
  clear hcase
  go_loopw [4, 5, 6, 7] (fun ov vv bv iv wr => RDec8 w s ov vv bv iv wr) (fun _ _ _ iv _ => s.size - (intOf iv).toNat)
  case atStart => exact ⟨0, 0, 0, [], rfl, by omega, rfl, rfl, .inl rfl, by decide, OwnB.nil _ _, Nat.le_refl _, rfl, Below.refl _ _⟩
  case round =>
    obtain ⟨i, v, k, acc, rfl, hil, rfl, rfl, hk, hv, hown, hacl, hacc, hb⟩ := hrel
    have hsz := hb.size
    by_cases hp : i < s.size
    · have hp' : (i : Int) < (s.size : Int) := by omega
      rw [drop_cons s i hp] at hacc
      have hix : ∀ W, (Instr.index 9 (.string s) (.int .i64 (i : Int))).run Tryz.prog W = .ok (.int .u8 ((s[i]'hp).toNat : Int)) W := fun W => by simp [go_sem, hp]
      generalize s[i]'hp = c at *
      have hsg := fun W => rbsign_any c W
      have hrng := sgI_at c
      by_cases hneg : sgI c < 0
      · have hd : dN s = 3 ∧ dL s = [] := by
          rw [rd_bad _ _ _ _ _ hneg] at hacc
          rcases Hcase.out with ⟨_, h2⟩ | ⟨h1, h2, _⟩
          · rw [← hacc] at h2; cases h2
          · exact ⟨h1, h2⟩
        have HE : Hid (DecEnd w s (.returned (.tuple #[.slice none 0 0, .int .i64 3])) wr) := ⟨none, 0, by rw [hd.1, hd.2]; rfl, by rw [hd.2]; exact .inl rfl, by rw [hd.2]; exact Nat.le_refl _, Nat.zero_le _, hb⟩
        generalize sgI c = sc at *
        clear Hcase hacc hd hown hrng
        go_wp2_with (go_at_call 41; refine (hsg _).mono ?_; rintro e w1 ⟨rfl, hw1⟩; rw [hw1]; clear hw1 w1)
        exact bodyPost_ret (v := .tuple #[.slice none 0 0, .int .i64 3]) (by simp [results, Tryz.results42, go_sem]) rfl HE.out
      · have hsn : sgI c = (sgN c : Int) := by unfold sgN; omega
        have hsl := sgN_lt c
        rw [hsn] at hsg
        obtain ⟨q, hq⟩ : ∃ q, q = sgN c := ⟨_, rfl⟩
        rw [← hq] at hsg hsl
        have HQ : Hid (q = sgN c) := hq
        have HNg : Hid (0 ≤ sgI c) := by show _ ≤ _; omega
        have Hacc : Hid (rd v k (c :: s.data.toList.drop (i + 1)) acc = rd 0 0 s.data.toList []) := hacc
        have HO : Hid (OwnB wr w.heap.size u4 acc) := hown
        clear hq hneg hacc hown hrng hsn
        rcases hk with rfl | rfl | rfl | rfl
        · go_wp2_with (go_at_call 41; refine (hsg _).mono ?_; rintro e w1 ⟨rfl, hw1⟩; rw [hw1]; clear hw1 w1)
          go_roundw
          case rel => exact ⟨i + 1, v * 64 + q, 6, acc, by simp, by omega, by simp, rfl, by simp, by (simp at hv ⊢; omega), HO.out, by omega, by rw [HQ.out, ← rd_zero v c _ _ HNg.out]; exact Hacc.out, hb⟩
          case measure =>
            simp [intOf]
            omega
        · have hv4 : v < 4 := hv
          obtain ⟨T, hT⟩ : ∃ T, T = v * 64 + q := ⟨_, rfl⟩
          have qT : (v : Int) * 64 + (q : Int) = (T : Int) := by omega
          have hTl : T < 4 * 64 := by omega
          obtain ⟨d, hd⟩ : ∃ d, d = T / 1 := ⟨_, rfl⟩
          have hdl : d < 256 := by omega
          have qd : (T : Int) / 1 = (d : Int) := by omega
          obtain ⟨mm, hmm⟩ : ∃ mm, mm = T % 1 := ⟨_, rfl⟩
          have qa : bits .and .i64 (T : Int) 0 = (mm : Int) := by
            first | (rw [and3 _ (by omega), hmm]) | (rw [and15 _ (by omega), hmm]) | (rw [and0]; omega)
          have hml : mm < 2 ^ 0 := by show mm < 1; omega
          have Hnext : Hid (rd mm 0 (s.data.toList.drop (i + 1)) (acc ++ [UInt8.ofNat d]) = rd 0 0 s.data.toList []) := by
            show _ = _
            rw [← Hacc.out, rd_two v 2 c _ _ HNg.out (by decide), ← HQ.out, ← hT, hmm, hd]
          have Hd : Hid ([Value.int .u8 (d : Int)] = Lib.byteCells [UInt8.ofNat d]) := by
            show _ = _
            simp [Lib.byteCells] <;> omega
          have Hml : Hid (mm < 2 ^ 0) := hml
          have had : acc.length ≤ 1000000 := by omega
          clear hT hd hmm hv hv4 Hacc HQ HNg hml
          try rw [Int.ediv_one] at qd
          first | (have qa2 : bits .and .i64 (d : Int) 0 = (mm : Int) := by rw [← qd]; exact qa) | skip
          go_wp2_with (first | (go_at_call 41; refine (hsg _).mono ?_; rintro e w1 ⟨rfl, hw1⟩; rw [hw1]; clear hw1 w1) | (at_builtin; refine wpList_append_any _ rfl _ _ 43 rfl w.heap.size 5 i5 (.int .u8 0) 1 1 Tryz.underlying43 hi hz0 hz1 hz2 rfl (by decide) u4 acc.length (Lib.byteCells acc) rfl (HO.out.alloc _) (some ⟨wr.heap.size, 0, none⟩) 1 1 [.int .u8 (d : Int)] rfl (.inr ⟨_, rfl, rfl, World.news_of_block (t := 5) (fr := (0, 0)) (heap_alloc_new wr _), by simp [Value.oneCell']⟩) (by unfold maxLen; omega) (by omega) (by simp; omega) ?_))
          intro v6 w6 hown6 hgrow6 hat6
          have hb6 : Below w.heap.size w w6 := hb.trans (below_end HO.out hgrow6 hat6 hsz)
          have O6 : Hid (OwnB w6 w.heap.size v6 (acc ++ [UInt8.ofNat d])) := append_end hown6 Hd.out rfl
          clear hown6 hgrow6 hat6 HO
          go_wp2_with fail
          go_roundw
          case rel => exact ⟨i + 1, mm, 0, acc ++ [UInt8.ofNat d], by simp, by omega, rfl, rfl, by simp, Hml.out, O6.out, by simp; omega, Hnext.out, hb6⟩
          case measure =>
            simp [intOf]
            omega
        · have hv4 : v < 16 := hv
          obtain ⟨T, hT⟩ : ∃ T, T = v * 64 + q := ⟨_, rfl⟩
          have qT : (v : Int) * 64 + (q : Int) = (T : Int) := by omega
          have hTl : T < 16 * 64 := by omega
          obtain ⟨d, hd⟩ : ∃ d, d = T / 4 := ⟨_, rfl⟩
          have hdl : d < 256 := by omega
          have qd : (T : Int) / 4 = (d : Int) := by omega
          obtain ⟨mm, hmm⟩ : ∃ mm, mm = T % 4 := ⟨_, rfl⟩
          have qa : bits .and .i64 (T : Int) 3 = (mm : Int) := by
            first | (rw [and3 _ (by omega), hmm]) | (rw [and15 _ (by omega), hmm]) | (rw [and0]; omega)
          have hml : mm < 2 ^ 2 := by show mm < 4; omega
          have Hnext : Hid (rd mm 2 (s.data.toList.drop (i + 1)) (acc ++ [UInt8.ofNat d]) = rd 0 0 s.data.toList []) := by
            show _ = _
            rw [← Hacc.out, rd_two v 4 c _ _ HNg.out (by decide), ← HQ.out, ← hT, hmm, hd]
          have Hd : Hid ([Value.int .u8 (d : Int)] = Lib.byteCells [UInt8.ofNat d]) := by
            show _ = _
            simp [Lib.byteCells] <;> omega
          have Hml : Hid (mm < 2 ^ 2) := hml
          have had : acc.length ≤ 1000000 := by omega
          clear hT hd hmm hv hv4 Hacc HQ HNg hml
          try rw [Int.ediv_one] at qd
          first | (have qa2 : bits .and .i64 (d : Int) 3 = (mm : Int) := by rw [← qd]; exact qa) | skip
          go_wp2_with (first | (go_at_call 41; refine (hsg _).mono ?_; rintro e w1 ⟨rfl, hw1⟩; rw [hw1]; clear hw1 w1) | (at_builtin; refine wpList_append_any _ rfl _ _ 43 rfl w.heap.size 5 i5 (.int .u8 0) 1 1 Tryz.underlying43 hi hz0 hz1 hz2 rfl (by decide) u4 acc.length (Lib.byteCells acc) rfl (HO.out.alloc _) (some ⟨wr.heap.size, 0, none⟩) 1 1 [.int .u8 (d : Int)] rfl (.inr ⟨_, rfl, rfl, World.news_of_block (t := 5) (fr := (0, 0)) (heap_alloc_new wr _), by simp [Value.oneCell']⟩) (by unfold maxLen; omega) (by omega) (by simp; omega) ?_))
          intro v6 w6 hown6 hgrow6 hat6
          have hb6 : Below w.heap.size w w6 := hb.trans (below_end HO.out hgrow6 hat6 hsz)
          have O6 : Hid (OwnB w6 w.heap.size v6 (acc ++ [UInt8.ofNat d])) := append_end hown6 Hd.out rfl
          clear hown6 hgrow6 hat6 HO
          go_wp2_with fail
          go_roundw
          case rel => exact ⟨i + 1, mm, 2, acc ++ [UInt8.ofNat d], by simp, by omega, rfl, rfl, by simp, Hml.out, O6.out, by simp; omega, Hnext.out, hb6⟩
          case measure =>
            simp [intOf]
            omega
        · have hv4 : v < 64 := hv
          obtain ⟨T, hT⟩ : ∃ T, T = v * 64 + q := ⟨_, rfl⟩
          have qT : (v : Int) * 64 + (q : Int) = (T : Int) := by omega
          have hTl : T < 64 * 64 := by omega
          obtain ⟨d, hd⟩ : ∃ d, d = T / 16 := ⟨_, rfl⟩
          have hdl : d < 256 := by omega
          have qd : (T : Int) / 16 = (d : Int) := by omega
          obtain ⟨mm, hmm⟩ : ∃ mm, mm = T % 16 := ⟨_, rfl⟩
          have qa : bits .and .i64 (T : Int) 15 = (mm : Int) := by
            first | (rw [and3 _ (by omega), hmm]) | (rw [and15 _ (by omega), hmm]) | (rw [and0]; omega)
          have hml : mm < 2 ^ 4 := by show mm < 16; omega
          have Hnext : Hid (rd mm 4 (s.data.toList.drop (i + 1)) (acc ++ [UInt8.ofNat d]) = rd 0 0 s.data.toList []) := by
            show _ = _
            rw [← Hacc.out, rd_two v 6 c _ _ HNg.out (by decide), ← HQ.out, ← hT, hmm, hd]
          have Hd : Hid ([Value.int .u8 (d : Int)] = Lib.byteCells [UInt8.ofNat d]) := by
            show _ = _
            simp [Lib.byteCells] <;> omega
          have Hml : Hid (mm < 2 ^ 4) := hml
          have had : acc.length ≤ 1000000 := by omega
          clear hT hd hmm hv hv4 Hacc HQ HNg hml
          try rw [Int.ediv_one] at qd
          first | (have qa2 : bits .and .i64 (d : Int) 15 = (mm : Int) := by rw [← qd]; exact qa) | skip
          go_wp2_with (first | (go_at_call 41; refine (hsg _).mono ?_; rintro e w1 ⟨rfl, hw1⟩; rw [hw1]; clear hw1 w1) | (at_builtin; refine wpList_append_any _ rfl _ _ 43 rfl w.heap.size 5 i5 (.int .u8 0) 1 1 Tryz.underlying43 hi hz0 hz1 hz2 rfl (by decide) u4 acc.length (Lib.byteCells acc) rfl (HO.out.alloc _) (some ⟨wr.heap.size, 0, none⟩) 1 1 [.int .u8 (d : Int)] rfl (.inr ⟨_, rfl, rfl, World.news_of_block (t := 5) (fr := (0, 0)) (heap_alloc_new wr _), by simp [Value.oneCell']⟩) (by unfold maxLen; omega) (by omega) (by simp; omega) ?_))
          intro v6 w6 hown6 hgrow6 hat6
          have hb6 : Below w.heap.size w w6 := hb.trans (below_end HO.out hgrow6 hat6 hsz)
          have O6 : Hid (OwnB w6 w.heap.size v6 (acc ++ [UInt8.ofNat d])) := append_end hown6 Hd.out rfl
          clear hown6 hgrow6 hat6 HO
          go_wp2_with fail
          go_roundw
          case rel => exact ⟨i + 1, mm, 4, acc ++ [UInt8.ofNat d], by simp, by omega, rfl, rfl, by simp, Hml.out, O6.out, by simp; omega, Hnext.out, hb6⟩
          case measure =>
            simp [intOf]
            omega
    · have hp' : ¬ (i : Int) < (s.size : Int) := by omega
      have hend : s.data.toList.drop i = [] := List.drop_of_length_le (by rw [size_list]; omega)
      rw [hend, rd_nil] at hacc
      have hal : acc.length ≤ 1000000 := by omega
      obtain ⟨A3, cap3, rfl, hby, hc3, hm3⟩ := hown.byAt
      have he := rbenc_any A3 acc cap3 wr hby hc3 hal
      clear hown hend hacl
      by_cases hq : b64S acc = s
      · have hd : dN s = 0 ∧ dL s = acc := by
          rcases Hcase.out with ⟨h1, h2⟩ | ⟨_, _, h3⟩
          · rw [← hacc] at h2; injection h2 with h2; exact ⟨h1, h2.symm⟩
          · exact absurd hq (h3 acc hacc.symm)
        have HE : ∀ w2, Below wr.heap.size wr w2 → Hid (DecEnd w s (.returned (.tuple #[.slice A3 acc.length cap3, .int .i64 0])) w2) := fun w2 hb2 => ⟨A3, cap3, by rw [hd.1, hd.2], by rw [hd.2]; exact (hby.below hb2).keep hb2.size (fun _ _ _ => rfl), by rw [hd.2]; exact hc3, hm3, hb.trans (hb2.mono hsz)⟩
        rw [hq] at he
        clear Hcase hacc hq hd hby
        go_wp2_with fail
        refine he.mono ?_
        rintro e w2 ⟨rfl, hb2⟩
        go_wp2_with fail
        exact bodyPost_ret (v := .tuple #[.slice A3 acc.length cap3, .int .i64 0]) (by simp [results, Tryz.results42, go_sem]) rfl (HE w2 hb2).out
      · have hd : dN s = 3 ∧ dL s = [] := by
          rcases Hcase.out with ⟨h1, h2⟩ | ⟨h1, h2, _⟩
          · rw [← hacc] at h2; injection h2 with h2
            rcases d_case s with ⟨_, h5, _⟩ | ⟨h5, h6, _⟩
            · exact absurd (by rw [h2]; exact h5) hq
            · exact ⟨h5, h6⟩
          · exact ⟨h1, h2⟩
        have HE : ∀ w2, Below wr.heap.size wr w2 → Hid (DecEnd w s (.returned (.tuple #[.slice none 0 0, .int .i64 3])) w2) := fun w2 hb2 => ⟨none, 0, by rw [hd.1, hd.2]; rfl, by rw [hd.2]; exact .inl rfl, by rw [hd.2]; exact Nat.le_refl _, Nat.zero_le _, hb.trans (hb2.mono hsz)⟩
        have hnb := toList_ne hq
        generalize b64S acc = st at *
        clear Hcase hacc hd hby
        go_wp2_with fail
        refine he.mono ?_
        rintro e w2 ⟨rfl, hb2⟩
        go_wp2_with fail
        exact bodyPost_ret (v := .tuple #[.slice none 0 0, .int .i64 3]) (by simp [results, Tryz.results42, go_sem]) rfl (HE w2 hb2).out

end Go.Proofs.YtgmmbfnmojjbkaaGreatDoor

namespace Go.Proofs.YtgmmbfnmojjbkaaGreatDoor
open Go.RowKit
set_option linter.unusedVariables false
set_option linter.unusedSimpArgs false

theorem below_tr8 {w w1 w2 : World} (h : Below w.heap.size w w1) (k : Below w1.heap.size w1 w2) : Below w.heap.size w w2 := h.trans (k.mono h.size)

/-- Dec, what it answers said by name. -/
theorem bdec_is (s : ByteArray) (w : World) (hm : s.size ≤ 1000000) (y : List UInt8) (n : Int) (m : Nat) (e1 : dL s = y) (e2 : dN s = n) (e3 : y.length = m) :
    Calls Tryz.prog 49 #[.string s] w fun e w' => ∃ A cap, e = .returned (.tuple #[.slice A m cap, .int .i64 n]) ∧ ByAt w' w'.heap.size A y ∧ m ≤ cap ∧ Below w.heap.size w w' := by
  subst e1 e2 e3
  exact (bdec_any s w hm).mono fun e w' ⟨A, cap, h1, h2, h3, h4, h5⟩ => ⟨A, cap, h1, h2, h3, h5⟩

theorem ByAt.up {w w' : World} {A : Option Addr} {xs : List UInt8} (h : ByAt w w.heap.size A xs) (hb : Below w.heap.size w w') : ByAt w' w'.heap.size A xs := (h.below hb).keep hb.size (fun _ _ _ => rfl)

theorem byAt_one (w : World) (c : UInt8) (T : TypeId) : ByAt (w.alloc (.cells #[.int .u8 (c.toNat : Int)] T)) (w.alloc (.cells #[.int .u8 (c.toNat : Int)] T)).heap.size (some ⟨w.heap.size, 0, none⟩) [c] := by
  refine .inr ⟨_, _, rfl, by simp, fun i hi => ?_⟩
  obtain rfl : i = 0 := by simpa using hi
  simp [go_sem]

theorem ByAt.row {w : World} {B : Nat} {A : Option Addr} {xs : List UInt8} (h : ByAt w B A xs) : SrcAt w 1 A xs.length (Lib.byteCells xs) := by
  rcases h with rfl | ⟨b, o, rfl, hb, hc⟩
  · exact .inl ⟨rfl, rfl⟩
  · refine .inr ⟨_, rfl, by simp [Lib.byteCells], fun j u hj => ?_, by simp [Lib.byteCells, Value.oneCell']⟩
    obtain ⟨h1, h2⟩ := List.getElem?_eq_some_iff.1 hj
    have h1 : j < xs.length := by simpa [Lib.byteCells] using h1
    rw [show (⟨b, o, none⟩ : Addr).add j = ⟨b, o + j, none⟩ from by cases j <;> simp [Addr.add], hc j h1, ← h2]
    simp [Lib.byteCells, List.getD, List.getElem?_eq_getElem h1]

/-- Enc, what it answers said by name. -/
theorem benc_is (A : Option Addr) (xs : List UInt8) (cap : Nat) (W : World) (hx : ByAt W W.heap.size A xs) (hc : xs.length ≤ cap) (hm : xs.length ≤ 1000000) (n : Nat) (hn : xs.length = n) (st : ByteArray) (e : b64S xs = st) :
    Calls Tryz.prog 37 #[.slice A n cap] W fun e w' => e = .returned (.string st) ∧ Below W.heap.size W w' := by
  subst hn e
  exact benc_any A xs cap W hx hc hm

theorem b64S_app (l r : List UInt8) (h : l.length % 3 = 0) : b64S (l ++ r) = b64S l ++ b64S r := ba_ext (by rw [ba_app]; simp only [b64S, ba_list, b64_app l r h])
theorem b64S_size (l : List UInt8) : (b64S l).size = (l.length * 8 + 5) / 6 := by
  rw [← size_list]; unfold b64S; rw [ba_list, b64_len]

end Go.Proofs.YtgmmbfnmojjbkaaGreatDoor
