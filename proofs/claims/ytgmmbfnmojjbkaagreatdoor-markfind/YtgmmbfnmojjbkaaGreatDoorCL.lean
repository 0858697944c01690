import Derived.Test.YtgmmbfnmojjbkaaGreatDoorKQ
import Derived.Test.YtgmmbfnmojjbkaaGreatDoorRows
import Derived.Test.YtgmmbfnmojjbkaaGreatDoorA1
import Derived.Lib.AppendStr
import Derived.Lib.UnsafeStr
import Derived.Deep.AppendLies
namespace Go.Proofs.YtgmmbfnmojjbkaaGreatDoor
open Go.RowKit
set_option linter.unusedVariables false
set_option linter.unusedSimpArgs false

section
variable {P : Program} (w : World)

end

theorem u8_int (x : Int) (h : 0 ≤ x) : Value.int .u8 (x % 256) = Value.int .u8 (((UInt8.ofNat x.toNat).toNat : Nat) : Int) := by
  rw [u8_mod]; congr 1; omega

set_option maxRecDepth 100000 in
set_option maxHeartbeats 1000000 in
theorem putNum_any (w : World) (v : Value) (xs : List UInt8) (wide n B : Nat) (hown : OwnB w B v xs) (hB : B ≤ w.heap.size) (hx : xs.length ≤ 1000000) (hw : wide ≤ 4) (hn : n < 2147483648) :
    Calls Tryz.prog 73 #[v, .int .i64 wide, .int .i64 n] w fun e w' => ∃ v', e = .returned v' ∧ OwnB w' B v' (xs ++ be wide n) ∧ Grew w w' v v' := by
  obtain ⟨i5, hi, hz0, hz1, hz2⟩ := info_has Tryz.infoByte
  go_enter Tryz.func73, Tryz.ntmps73
  go_wp2_with fail
  go_loopw [0, 7] (fun bv iv wr => ∃ (i : Nat) (ys : List UInt8), i ≤ wide ∧ iv = .int .i64 ((i : Int) - 1) ∧ ys ++ be i n = xs ++ be wide n ∧ OwnB wr B bv ys ∧ Grew w wr v bv) (fun _ iv _ => (intOf iv + 1).toNat)
  case atStart => exact ⟨wide, xs, Nat.le_refl _, rfl, rfl, hown, Grew.refl _ _⟩
  case round =>
    obtain ⟨i, ys, hi0, rfl, hys, ho, hg⟩ := hrel
    have HY : Hid (ys ++ be i n = xs ++ be wide n) := hys
    have HG : Hid (Grew w wr v u0) := hg
    have hlen : ys.length + i = xs.length + wide := by have := congrArg List.length hys; simp [be_length] at this; omega
    clear hys
    cases i with
    | zero =>
      have HO : Hid (OwnB wr B u0 ys) := ho
      clear ho
      go_wp2_with fail
      go_ret
      refine ⟨_, rfl, ?_, HG.out⟩
      have := HY.out; rw [be, List.append_nil] at this; rw [← this]; exact HO.out
    | succ i =>
      have hsz := hg.size
      go_wp2_with (at_builtin; refine wpList_append_any _ rfl _ _ 43 rfl B 5 i5 (.int .u8 0) 1 1 Tryz.underlying43 hi hz0 hz1 hz2 rfl (by decide) u0 ys.length (Lib.byteCells ys) rfl ?own (some ⟨wr.heap.size, 0, none⟩) 1 1 [.int .u8 ((n : Int) / 2 ^ (8 * i) % 256)] rfl ?src ?c3 ?c4 ?c5 ?_)
      case own => exact ho.alloc _
      case src => exact .inr ⟨_, rfl, rfl, World.news_of_block (t := 5) (fr := (0, 0)) (heap_alloc_new wr _), by simp [Value.oneCell']⟩
      case c3 => unfold maxLen; omega
      case c4 => omega
      case c5 => simp; omega
      intro v6 w6 hown6 hgrow6 hat6
      have e0 : ((n : Int) / 2 ^ (8 * i)).toNat = n / 256 ^ i := by
        rw [show (2 : Int) ^ (8 * i) = ((256 ^ i : Nat) : Int) from by rw [Int.pow_mul]; simp]
        exact Int.toNat_natCast (n / 256 ^ i)
      have e1 : [Value.int .u8 ((n : Int) / 2 ^ (8 * i) % 256)] = Lib.byteCells [UInt8.ofNat (n / 256 ^ i)] := by
        rw [u8_int _ (Int.ediv_nonneg (by omega) (Int.le_of_lt (Int.pow_pos (by decide)))), e0]; rfl
      have o6 : OwnB w6 B v6 (ys ++ [UInt8.ofNat (n / 256 ^ i)]) := by
        rw [e1, byteCells_append] at hown6
        simpa [OwnB] using hown6
      have g6 : Grew w w6 v v6 := Grew.step (HG.out.alloc _) hgrow6 (by simpa using hat6)
      have O6 : Hid (OwnB w6 B v6 (ys ++ [UInt8.ofNat (n / 256 ^ i)])) := o6
      have G6 : Hid (Grew w w6 v v6) := g6
      clear hown6 hgrow6 hat6 o6 g6 e1 e0 ho hg
      go_wp2_with fail
      go_roundw
      case rel =>
        refine ⟨i, ys ++ [UInt8.ofNat (n / 256 ^ i)], by omega, by go_num, ?_, O6.out, G6.out⟩
        rw [← HY.out, be, List.append_assoc]; rfl
      case measure => simp [intOf]

theorem putNum_int (w : World) (v : Value) (xs : List UInt8) (wd : Int) (wide : Nat) (z : Int) (B : Nat) (hwd : wd = (wide : Int)) (hown : OwnB w B v xs) (hB : B ≤ w.heap.size) (hx : xs.length ≤ 1000000) (hw : wide ≤ 4) (h0 : 0 ≤ z) (hn : z < 2147483648) :
    Calls Tryz.prog 73 #[v, .int .i64 wd, .int .i64 z] w fun e w' => ∃ v', e = .returned v' ∧ OwnB w' B v' (xs ++ be wide z.toNat) ∧ Grew w w' v v' := by
  subst hwd
  obtain ⟨n, rfl⟩ := Int.eq_ofNat_of_zero_le h0
  exact putNum_any w v xs wide n B hown hB hx hw (by omega)

end Go.Proofs.YtgmmbfnmojjbkaaGreatDoor
