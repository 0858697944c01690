import Derived.Test.YtffhbgakoibgnaaF1
namespace Go.Proofs.Ytffhbgakoibgnaa
open Go.RowKit
set_option linter.unusedVariables false
set_option linter.unusedSimpArgs false

theorem sgN_max (c : UInt8) : max (sgI c) 0 = (sgN c : Int) := by unfold sgN; omega

set_option maxHeartbeats 1000000 in
theorem bnumber_any (c : UInt8) (w : World) :
    Calls Try.prog 16 #[.int .u8 (c.toNat : Int)] w fun e w' => e = .returned (.int .i64 (sgN c : Int)) ∧ w' = w := by
  have hx := fun W => Try.strings_IndexByte ⟨#[65, 66, 67, 68, 69, 70, 71, 72, 73, 74, 75, 76, 77, 78, 79, 80, 81, 82, 83, 84, 85, 86, 87, 88, 89, 90, 97, 98, 99, 100, 101, 102, 103, 104, 105, 106, 107, 108, 109, 110, 111, 112, 113, 114, 115, 116, 117, 118, 119, 120, 121, 122, 48, 49, 50, 51, 52, 53, 54, 55, 56, 57, 45, 95]⟩ (c.toNat : Int) W
  have e : Lib.indexByte (⟨#[65, 66, 67, 68, 69, 70, 71, 72, 73, 74, 75, 76, 77, 78, 79, 80, 81, 82, 83, 84, 85, 86, 87, 88, 89, 90, 97, 98, 99, 100, 101, 102, 103, 104, 105, 106, 107, 108, 109, 110, 111, 112, 113, 114, 115, 116, 117, 118, 119, 120, 121, 122, 48, 49, 50, 51, 52, 53, 54, 55, 56, 57, 45, 95]⟩ : ByteArray).data.toList (c.toNat : Int).toNat.toUInt8 = sgI c := by
    rw [show (c.toNat : Int).toNat.toUInt8 = c from by simp]; rfl
  rw [e] at hx
  have hm := sgN_max c
  generalize sgI c = si at *
  generalize sgN c = sn at *
  have Hm : Hid (max si 0 = (sn : Int)) := hm
  clear e hm
  go_enter Try.func16, Try.ntmps16
  go_wp2_with fail
  refine (hx _).mono ?_
  rintro e w1 ⟨rfl, rfl⟩
  go_wp2_with fail
  go_ret
  exact ⟨ret_int Hm.out, rfl⟩

def upTo (l : List UInt8) (i : Nat) : Nat := (l.take i).foldl (fun v c => v * 64 + sgN c) 0

theorem upTo_next (a b c d : UInt8) (i : Nat) (hi : i < 4) : upTo [a, b, c, d] (i + 1) = upTo [a, b, c, d] i * 64 + sgN ([a, b, c, d].getD i 0) := by
  rcases (show i = 0 ∨ i = 1 ∨ i = 2 ∨ i = 3 by omega) with rfl | rfl | rfl | rfl <;> simp [upTo]
theorem upTo_lt (a b c d : UInt8) (i : Nat) (hi : i < 4) : upTo [a, b, c, d] i < 262144 := by
  have la := sgN_lt a
  have lb := sgN_lt b
  have lc := sgN_lt c
  rcases (show i = 0 ∨ i = 1 ∨ i = 2 ∨ i = 3 by omega) with rfl | rfl | rfl | rfl <;> simp [upTo] <;> omega
theorem upTo_all (a b c d : UInt8) : upTo [a, b, c, d] 4 = bits4 a b c d := by simp [upTo, bits4]

theorem or_six (v n : Nat) (hv : v < 262144) (hn : n < 64) : bits .or .i64 ((v : Int) * 64) (n : Int) = ((v * 64 + n : Nat) : Int) := by
  rw [show (v : Int) * 64 = ((v * 64 : Nat) : Int) from by omega]
  show IntKind.i64.wrap ((BitVec.ofInt 64 ((v * 64 : Nat) : Int) ||| BitVec.ofInt 64 (n : Int)).toNat : Int) = _
  have e : v * 64 ||| n = v * 64 + n := by
    have := Nat.two_pow_add_eq_or_of_lt (i := 6) (b := n) (by omega) v
    rw [show 2 ^ 6 * v = v * 64 from by omega] at this
    exact this.symm
  rw [BitVec.toNat_or, ofInt_u64 _ (by omega), ofInt_u64 _ (by omega), e, IntKind.wrap_i64]
  omega

theorem idx4 (a b c d : Int) (W : World) (i : Nat) (hi : i < 4) : (Instr.index 35 (.agg #[.int .u8 a, .int .u8 b, .int .u8 c, .int .u8 d]) (.int .i64 (i : Int))).run Try.prog W = .ok (.int .u8 ([a, b, c, d].getD i 0)) W := by
  rcases (show i = 0 ∨ i = 1 ∨ i = 2 ∨ i = 3 by omega) with rfl | rfl | rfl | rfl <;> kernel_rfl

theorem getD4 (a b c d : UInt8) (i : Nat) (hi : i < 4) : [(a.toNat : Int), (b.toNat : Int), (c.toNat : Int), (d.toNat : Int)].getD i 0 = (([a, b, c, d].getD i 0).toNat : Int) := by
  rcases (show i = 0 ∨ i = 1 ∨ i = 2 ∨ i = 3 by omega) with rfl | rfl | rfl | rfl <;> rfl

theorem u8_nat (n : Nat) : ((UInt8.ofNat n).toNat : Int) = (n : Int) % 256 := by simp

set_option maxHeartbeats 1000000 in
theorem bread_any (a b c d : UInt8) (w : World) :
    Calls Try.prog 15 #[.agg #[.int .u8 (a.toNat : Int), .int .u8 (b.toNat : Int), .int .u8 (c.toNat : Int), .int .u8 (d.toNat : Int)]] w fun e w' => e = .returned (.agg #[.int .u8 ((UInt8.ofNat (bits4 a b c d / 65536)).toNat : Int), .int .u8 ((UInt8.ofNat (bits4 a b c d / 256)).toNat : Int), .int .u8 ((UInt8.ofNat (bits4 a b c d)).toNat : Int)]) ∧ Below w.heap.size w w' := by
  go_enter Try.func15, Try.ntmps15
  go_wp2_with fail
  go_loopw [3, 7] (fun bv iv wr => ∃ i : Nat, iv = .int .i64 (i : Int) ∧ i ≤ 4 ∧ bv = .int .i64 (upTo [a, b, c, d] i : Int) ∧ wr = ((w.alloc (.cells #[.int .u8 (a.toNat : Int), .int .u8 (b.toNat : Int), .int .u8 (c.toNat : Int), .int .u8 (d.toNat : Int)] 35)).alloc (.cells #[.int .u8 0, .int .u8 0, .int .u8 0] 37))) (fun _ iv _ => 4 - (intOf iv).toNat)
  case atStart => exact ⟨0, rfl, by omega, rfl, rfl⟩
  case round =>
    obtain ⟨i, rfl, hi, rfl, rfl⟩ := hrel
    by_cases hp : i < 4
    · have hp' : (i : Int) < 4 := by omega
      have hix := fun W => idx4 (a.toNat : Int) (b.toNat : Int) (c.toNat : Int) (d.toNat : Int) W i hp
      rw [getD4 a b c d i hp] at hix
      have hup := upTo_next a b c d i hp
      have hlt := upTo_lt a b c d i hp
      have hn := fun W => bnumber_any ([a, b, c, d].getD i 0) W
      have hnl := sgN_lt ([a, b, c, d].getD i 0)
      have hor := or_six _ _ hlt hnl
      generalize [a, b, c, d].getD i 0 = x at *
      have Hup : Hid (upTo [a, b, c, d] (i + 1) = upTo [a, b, c, d] i * 64 + sgN x) := hup
      generalize hv0 : upTo [a, b, c, d] i = v at *
      have Hv : Hid (upTo [a, b, c, d] i = v) := hv0
      clear hup hv0
      have Hor : Hid (bits .or .i64 ((v : Int) * 64) (sgN x : Int) = ((v * 64 + sgN x : Nat) : Int)) := hor
      clear hor
      go_wp2_with (go_at_call 16; refine (hn _).mono ?_; rintro e w1 ⟨rfl, rfl⟩)
      rw [Hor.out]
      go_roundw
      case rel => exact ⟨i + 1, by simp, by omega, by rw [Hup.out], trivial⟩
      case measure =>
        simp [intOf]
        omega
    · have hp' : ¬ (i : Int) < 4 := by omega
      obtain rfl : i = 4 := by omega
      have hb : bits4 a b c d < 16777216 := by
        have la := sgN_lt a
        have lb := sgN_lt b
        have lc := sgN_lt c
        have ld := sgN_lt d
        unfold bits4; omega
      rw [upTo_all]
      obtain ⟨n, hn0⟩ : ∃ n, n = bits4 a b c d := ⟨_, rfl⟩
      rw [← hn0] at hb ⊢
      have HN : Hid (n = bits4 a b c d) := hn0
      clear hn0
      go_wp2_with fail
      refine bodyPost_ret (v := .agg #[.int .u8 ((n : Int) / 65536), .int .u8 ((n : Int) / 256 % 256), .int .u8 ((n : Int) % 256)]) (by simp [results, Try.results15, go_sem]) rfl ⟨?_, (by repeat (first | exact Below.refl _ _ | assumption | refine below_drewN ?_ _ | refine Below.drew ?_ | refine Below.alloc ?_ (by simp <;> omega) _ | refine Below.setCell ?_ (by simp <;> omega) _))⟩
      rw [← HN.out]
      simp
      omega

end Go.Proofs.Ytffhbgakoibgnaa
