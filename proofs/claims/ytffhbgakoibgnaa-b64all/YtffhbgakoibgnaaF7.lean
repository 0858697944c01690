import Derived.Test.YtffhbgakoibgnaaF6
namespace Go.Proofs.Ytffhbgakoibgnaa
open Go.RowKit
set_option linter.unusedVariables false
set_option linter.unusedSimpArgs false

theorem sgI_none (c : UInt8) (h : ∀ k, k < 64 → sg k ≠ c) : sgI c = -1 := by
  have h1 := sgI_at c
  by_cases h0 : 0 ≤ sgI c
  · exact absurd (h1.2.2 h0) (h _ (sgN_lt c))
  · omega

set_option maxHeartbeats 1000000 in
theorem rbsign_any (c : UInt8) (w : World) :
    Calls Try.prog 12 #[.int .u8 (c.toNat : Int)] w fun e w' => e = .returned (.int .i64 (sgI c)) ∧ w' = w := by
  go_enter Try.func12, Try.ntmps12
  go_wp2_with fail
  go_loopw [3] (fun iv wr => ∃ i : Nat, iv = .int .i64 (i : Int) ∧ i ≤ 64 ∧ (∀ k, k < i → sg k ≠ c) ∧ wr = w) (fun iv _ => 64 - (intOf iv).toNat)
  case atStart => exact ⟨0, rfl, by omega, fun k h => absurd h (by omega), rfl⟩
  case round =>
    obtain ⟨i, rfl, hi, hno, rfl⟩ := hrel
    have Hno : Hid (∀ k, k < i → sg k ≠ c) := hno
    clear hno
    by_cases hp : i < 64
    · have hp' : (i : Int) < 64 := by omega
      obtain ⟨x, hx⟩ : ∃ x, x = (sg i).toNat := ⟨_, rfl⟩
      have hix := fun W => sg_index i hp x hx W
      obtain ⟨y, hy⟩ : ∃ y, y = c.toNat := ⟨_, rfl⟩
      rw [← hy]
      have HX : Hid (x = (sg i).toNat) := hx
      have HY : Hid (y = c.toNat) := hy
      clear hx hy
      by_cases he : x = y
      · have HE : Hid (sg i = c) := UInt8.toNat_inj.1 (by rw [← HX.out, ← HY.out]; exact he)
        have hb : ((x : Int) == (y : Int)) = true := by simp [he]
        clear he
        go_wp2_with fail
        go_ret
        exact ⟨ret_int (by rw [← HE.out, sgI_sg i hp]), rfl⟩
      · have HE : Hid (sg i ≠ c) := fun e => he (by rw [HX.out, HY.out, e])
        have hb : ((x : Int) == (y : Int)) = false := by simp; omega
        clear he
        go_wp2_with fail
        go_roundw
        case rel =>
          refine ⟨i + 1, by simp, by omega, fun k hk => ?_, trivial⟩
          by_cases e : k = i
          · rw [e]; exact HE.out
          · exact Hno.out k (by omega)
        case measure =>
          simp [intOf]
          omega
    · have hp' : ¬ (i : Int) < 64 := by omega
      obtain rfl : i = 64 := by omega
      go_wp2_with fail
      go_ret
      exact ⟨ret_int (sgI_none c Hno.out).symm, rfl⟩

/-- The bits of the first k bytes of r, 0 where there is none. -/
def vU (r : List UInt8) : Nat → Nat
  | 0 => 0
  | k + 1 => vU r k * 256 + (r.getD k 0).toNat
theorem vU_lt (r : List UInt8) : ∀ k, vU r k < 256 ^ k
  | 0 => by simp [vU]
  | k + 1 => by
    have h1 := vU_lt r k
    have h2 := (r.getD k 0).toNat_lt
    rw [vU, Nat.pow_succ]; omega

/-- What stands for the first three bytes of r. -/
def grp (r : List UInt8) : List UInt8 := (four (r.getD 0 0).toNat (r.getD 1 0).toNat (r.getD 2 0).toNat).take (min 3 r.length + 1)
theorem grp_take (r : List UInt8) (h : r ≠ []) : b64L (r.take 3) = grp r := by
  match r, h with
  | [a], _ => rfl
  | [a, b], _ => rfl
  | a :: b :: c :: t, _ => simp [grp, b64L]; rfl
theorem b64_step (xs : List UInt8) (i : Nat) (h : i < xs.length) (h3 : i % 3 = 0) : b64L (xs.take (i + 3)) = b64L (xs.take i) ++ grp (xs.drop i) := by
  rw [List.take_add, b64_app _ _ (by rw [List.length_take]; omega), grp_take _ (by intro e; have := congrArg List.length e; simp at this; omega)]

theorem grp_idx (r : List UInt8) (k : Nat) (hk : k ≤ 3) : sg (vU r 3 / 2 ^ (18 - 6 * k) % 64) = (four (r.getD 0 0).toNat (r.getD 1 0).toNat (r.getD 2 0).toNat).getD k 0 := by
  have h0 := (r.getD 0 0).toNat_lt
  have h1 := (r.getD 1 0).toNat_lt
  have h2 := (r.getD 2 0).toNat_lt
  have e : vU r 3 = ((r.getD 0 0).toNat * 256 + (r.getD 1 0).toNat) * 256 + (r.getD 2 0).toNat := by simp [vU]
  rw [e]
  clear e
  generalize (r.getD 0 0).toNat = a at *
  generalize (r.getD 1 0).toNat = b at *
  generalize (r.getD 2 0).toNat = c at *
  rcases (show k = 0 ∨ k = 1 ∨ k = 2 ∨ k = 3 by omega) with rfl | rfl | rfl | rfl
  · show sg _ = sg _; congr 1; simp; omega
  · show sg _ = sg _; congr 1; simp; omega
  · show sg _ = sg _; congr 1; simp; omega
  · show sg _ = sg _; congr 1; simp; omega

end Go.Proofs.Ytffhbgakoibgnaa
