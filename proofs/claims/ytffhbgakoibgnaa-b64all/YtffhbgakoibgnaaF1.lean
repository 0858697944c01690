import Derived.Test.YtffhbgakoibgnaaF0
import Derived.Test.YtffhbgakoibgnaaAB
import Derived.Test.YtffhbgakoibgnaaBY
import Derived.Test.YtffhbgakoibgnaaShelf
import Derived.Laws.BitsAllLaws
import Derived.Deep.RegionHeld3
namespace Go.Proofs.Ytffhbgakoibgnaa
open Go.RowKit
set_option linter.unusedVariables false
set_option linter.unusedSimpArgs false

theorem sg_idx_fin : ∀ n : Fin 64, (⟨#[65, 66, 67, 68, 69, 70, 71, 72, 73, 74, 75, 76, 77, 78, 79, 80, 81, 82, 83, 84, 85, 86, 87, 88, 89, 90, 97, 98, 99, 100, 101, 102, 103, 104, 105, 106, 107, 108, 109, 110, 111, 112, 113, 114, 115, 116, 117, 118, 119, 120, 121, 122, 48, 49, 50, 51, 52, 53, 54, 55, 56, 57, 45, 95]⟩ : ByteArray).get! n.1 = sg n.1 := by decide +kernel

theorem or_byte3 (a b c : Nat) (ha : a < 256) (hb : b < 256) (hc : c < 256) : bits .or .i64 (bits .or .i64 ((a : Int) * 65536) ((b : Int) * 256)) (c : Int) = ((a * 65536 + b * 256 + c : Nat) : Int) := by
  have w1 : IntKind.i64.wrap ((a * 65536 ||| b * 256 : Nat) : Int) = ((a * 65536 + b * 256 : Nat) : Int) := by
    have e : a * 65536 ||| b * 256 = a * 65536 + b * 256 := by
      have := Nat.two_pow_add_eq_or_of_lt (i := 16) (b := b * 256) (by omega) a
      rw [show 2 ^ 16 * a = a * 65536 from by omega] at this
      exact this.symm
    rw [e, IntKind.wrap_i64]; omega
  have h1 : bits .or .i64 ((a : Int) * 65536) ((b : Int) * 256) = ((a * 65536 + b * 256 : Nat) : Int) := by
    rw [show (a : Int) * 65536 = ((a * 65536 : Nat) : Int) from by omega, show (b : Int) * 256 = ((b * 256 : Nat) : Int) from by omega]
    show IntKind.i64.wrap ((BitVec.ofInt 64 ((a * 65536 : Nat) : Int) ||| BitVec.ofInt 64 ((b * 256 : Nat) : Int)).toNat : Int) = _
    rw [BitVec.toNat_or, ofInt_u64 _ (by omega), ofInt_u64 _ (by omega), w1]
  rw [h1]
  show IntKind.i64.wrap ((BitVec.ofInt 64 ((a * 65536 + b * 256 : Nat) : Int) ||| BitVec.ofInt 64 (c : Int)).toNat : Int) = _
  have e : a * 65536 + b * 256 ||| c = a * 65536 + b * 256 + c := by
    have := Nat.two_pow_add_eq_or_of_lt (i := 8) (b := c) (by omega) (a * 256 + b)
    rw [show 2 ^ 8 * (a * 256 + b) = a * 65536 + b * 256 from by omega] at this
    exact this.symm
  rw [BitVec.toNat_or, ofInt_u64 _ (by omega), ofInt_u64 _ (by omega), e, IntKind.wrap_i64]
  omega

theorem and63 (n : Nat) (h : n < 9223372036854775808) : bits .and .i64 (n : Int) 63 = ((n % 64 : Nat) : Int) := by
  show IntKind.i64.wrap ((BitVec.ofInt 64 (n : Int) &&& BitVec.ofInt 64 ((63 : Nat) : Int)).toNat : Int) = _
  rw [BitVec.toNat_and, ofInt_u64 _ (by omega), ofInt_u64 _ (by omega), show (63 : Nat) = 2 ^ 6 - 1 from rfl, Nat.and_two_pow_sub_one_eq_mod, IntKind.wrap_i64]
  omega

theorem sg_index (i : Nat) (h : i < 64) (x : Nat) (hx : x = (sg i).toNat) (W : World) : (Instr.index 9 (.string ⟨#[65, 66, 67, 68, 69, 70, 71, 72, 73, 74, 75, 76, 77, 78, 79, 80, 81, 82, 83, 84, 85, 86, 87, 88, 89, 90, 97, 98, 99, 100, 101, 102, 103, 104, 105, 106, 107, 108, 109, 110, 111, 112, 113, 114, 115, 116, 117, 118, 119, 120, 121, 122, 48, 49, 50, 51, 52, 53, 54, 55, 56, 57, 45, 95]⟩) (.int .i64 (i : Int))).run Try.prog W = .ok (.int .u8 (x : Int)) W := by
  subst hx
  have h2 := sg_idx_fin ⟨i, h⟩
  simp only at h2
  rw [← h2]
  generalize hs : (⟨#[65, 66, 67, 68, 69, 70, 71, 72, 73, 74, 75, 76, 77, 78, 79, 80, 81, 82, 83, 84, 85, 86, 87, 88, 89, 90, 97, 98, 99, 100, 101, 102, 103, 104, 105, 106, 107, 108, 109, 110, 111, 112, 113, 114, 115, 116, 117, 118, 119, 120, 121, 122, 48, 49, 50, 51, 52, 53, 54, 55, 56, 57, 45, 95]⟩ : ByteArray) = s at *
  have hp : i < s.size := by rw [← hs]; exact h
  have e : s.get! i = s[i]'hp := by
    rcases s with ⟨a⟩
    show a[i]! = a[i]
    exact getElem!_pos a i hp
  rw [e]
  simp [go_sem, hp]

set_option maxHeartbeats 1000000 in
theorem bwritten_any (a b c : Nat) (ha : a < 256) (hb : b < 256) (hc : c < 256) (w : World) :
    Calls Try.prog 14 #[.agg #[.int .u8 (a : Int), .int .u8 (b : Int), .int .u8 (c : Int)]] w fun e w' => e = .returned (.agg #[.int .u8 ((sg (a / 4)).toNat : Int), .int .u8 ((sg (a % 4 * 16 + b / 16)).toNat : Int), .int .u8 ((sg (b % 16 * 4 + c / 64)).toNat : Int), .int .u8 ((sg (c % 64)).toNat : Int)]) ∧ Below w.heap.size w w' := by
  have hor := or_byte3 a b c ha hb hc
  have Hor : Hid (bits .or .i64 (bits .or .i64 ((a : Int) * 65536) ((b : Int) * 256)) (c : Int) = ((a * 65536 + b * 256 + c : Nat) : Int)) := hor
  clear hor
  go_enter Try.func14, Try.ntmps14
  go_wp2_with fail
  rw [Hor.out]
  generalize hn : a * 65536 + b * 256 + c = n
  have hn1 : n < 16777216 := by omega
  obtain ⟨i0, hi0⟩ : ∃ i, i = a / 4 := ⟨_, rfl⟩
  obtain ⟨i1, hi1⟩ : ∃ i, i = a % 4 * 16 + b / 16 := ⟨_, rfl⟩
  obtain ⟨i2, hi2⟩ : ∃ i, i = b % 16 * 4 + c / 64 := ⟨_, rfl⟩
  obtain ⟨i3, hi3⟩ : ∃ i, i = c % 64 := ⟨_, rfl⟩
  have q0 : (n : Int) / 262144 = (i0 : Int) := by omega
  have q1 : bits .and .i64 ((n : Int) / 4096) 63 = (i1 : Int) := by
    rw [show (n : Int) / 4096 = ((n / 4096 : Nat) : Int) from by omega, and63 _ (by omega)]; congr 1; omega
  have q2 : bits .and .i64 ((n : Int) / 64) 63 = (i2 : Int) := by
    rw [show (n : Int) / 64 = ((n / 64 : Nat) : Int) from by omega, and63 _ (by omega)]; congr 1; omega
  have q3 : bits .and .i64 (n : Int) 63 = (i3 : Int) := by
    rw [and63 _ (by omega)]; congr 1; omega
  obtain ⟨y0, hy0⟩ : ∃ y, y = (sg i0).toNat := ⟨_, rfl⟩
  obtain ⟨y1, hy1⟩ : ∃ y, y = (sg i1).toNat := ⟨_, rfl⟩
  obtain ⟨y2, hy2⟩ : ∃ y, y = (sg i2).toNat := ⟨_, rfl⟩
  obtain ⟨y3, hy3⟩ : ∃ y, y = (sg i3).toNat := ⟨_, rfl⟩
  have x0 := sg_index i0 (by omega) y0 hy0
  have x1 := sg_index i1 (by omega) y1 hy1
  have x2 := sg_index i2 (by omega) y2 hy2
  have x3 := sg_index i3 (by omega) y3 hy3
  have HY : Hid ((y0 = (sg i0).toNat ∧ y1 = (sg i1).toNat ∧ y2 = (sg i2).toNat ∧ y3 = (sg i3).toNat) ∧ i0 = a / 4 ∧ i1 = a % 4 * 16 + b / 16 ∧ i2 = b % 16 * 4 + c / 64 ∧ i3 = c % 64) := ⟨⟨hy0, hy1, hy2, hy3⟩, hi0, hi1, hi2, hi3⟩
  clear hn hy0 hy1 hy2 hy3 hi0 hi1 hi2 hi3
  go_region
  clear x0 x1 x2 x3 q0 q1 q2 q3
  go_wp2_with fail
  refine bodyPost_ret (v := .agg #[.int .u8 (y0 : Int), .int .u8 (y1 : Int), .int .u8 (y2 : Int), .int .u8 (y3 : Int)]) (by simp [results, Try.results14, go_sem]) rfl ⟨?_, (((Below.refl _ _).alloc (Nat.le_refl _) _).alloc (by simp) _).drew⟩
  obtain ⟨⟨e0, e1, e2, e3⟩, j0, j1, j2, j3⟩ := HY.out
  rw [e0, e1, e2, e3, j0, j1, j2, j3]

end Go.Proofs.Ytffhbgakoibgnaa
