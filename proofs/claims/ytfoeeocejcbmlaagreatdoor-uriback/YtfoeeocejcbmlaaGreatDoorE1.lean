import Derived.Test.YtfoeeocejcbmlaaGreatDoorE0
import Derived.Test.YtfoeeocejcbmlaaGreatDoorTS
import Derived.Test.YtfoeeocejcbmlaaGreatDoorAB
import Derived.Test.YtfoeeocejcbmlaaGreatDoorShelf
import Derived.Lib.AppendIntMem
namespace Go.Proofs.YtfoeeocejcbmlaaGreatDoor
open Go.RowKit
set_option linter.unusedVariables false
set_option linter.unusedSimpArgs false

/-- The signs of the halves of a byte. -/
def digL : List Int := [48, 49, 50, 51, 52, 53, 54, 55, 56, 57, 65, 66, 67, 68, 69, 70]
abbrev Tab16 (B : Nat) (w : World) : Prop := Lib.TabBelow Tryz.prog B w "countersign/pct.digits" .i32 digL

theorem Tab16.cell {B : Nat} {w : World} (h : Tab16 B w) (i : Nat) (hi : i < 16) : w.cell? ⟨1, i, none⟩ = some (.int .i32 (digL.getD i 0)) :=
  Lib.TabIs.cell h.here (by kernel_rfl) i hi

theorem idx16 (i : Nat) (hi : i < 16) (w : World) : (Instr.index 111 (.agg #[.int .i32 48, .int .i32 49, .int .i32 50, .int .i32 51, .int .i32 52, .int .i32 53, .int .i32 54, .int .i32 55, .int .i32 56, .int .i32 57, .int .i32 65, .int .i32 66, .int .i32 67, .int .i32 68, .int .i32 69, .int .i32 70]) (.int .i64 (i : Int))).run Tryz.prog w = .ok (.int .i32 (digL.getD i 0)) w := by
  rcases (show i = 0 ∨ i = 1 ∨ i = 2 ∨ i = 3 ∨ i = 4 ∨ i = 5 ∨ i = 6 ∨ i = 7 ∨ i = 8 ∨ i = 9 ∨ i = 10 ∨ i = 11 ∨ i = 12 ∨ i = 13 ∨ i = 14 ∨ i = 15 by omega) with rfl | rfl | rfl | rfl | rfl | rfl | rfl | rfl | rfl | rfl | rfl | rfl | rfl | rfl | rfl | rfl <;> kernel_rfl

theorem half_not : ∀ c : Fin 256, (∀ j : Fin 16, digL.getD j.1 0 ≠ (c.1 : Int)) → halfN c.1 = 0 := by decide +kernel
theorem half_at : ∀ (c : Fin 256) (j : Fin 16), digL.getD j.1 0 = (c.1 : Int) → halfN c.1 = j.1 := by decide +kernel

set_option maxHeartbeats 1000000 in
theorem half_any (c : Nat) (hc : c < 256) (B : Nat) (w : World) (ht : Tab16 B w) :
    Calls Tryz.prog 110 #[.int .i32 (c : Int)] w fun e w' => e = .returned (.int .u8 (halfN c : Int)) ∧ w' = w := by
  have c0 : w.cell? ⟨1, 0, none⟩ = some (.int .i32 48) := ht.cell 0 (by decide)
  have c1 : w.cell? ⟨1, 1, none⟩ = some (.int .i32 49) := ht.cell 1 (by decide)
  have c2 : w.cell? ⟨1, 2, none⟩ = some (.int .i32 50) := ht.cell 2 (by decide)
  have c3 : w.cell? ⟨1, 3, none⟩ = some (.int .i32 51) := ht.cell 3 (by decide)
  have c4 : w.cell? ⟨1, 4, none⟩ = some (.int .i32 52) := ht.cell 4 (by decide)
  have c5 : w.cell? ⟨1, 5, none⟩ = some (.int .i32 53) := ht.cell 5 (by decide)
  have c6 : w.cell? ⟨1, 6, none⟩ = some (.int .i32 54) := ht.cell 6 (by decide)
  have c7 : w.cell? ⟨1, 7, none⟩ = some (.int .i32 55) := ht.cell 7 (by decide)
  have c8 : w.cell? ⟨1, 8, none⟩ = some (.int .i32 56) := ht.cell 8 (by decide)
  have c9 : w.cell? ⟨1, 9, none⟩ = some (.int .i32 57) := ht.cell 9 (by decide)
  have c10 : w.cell? ⟨1, 10, none⟩ = some (.int .i32 65) := ht.cell 10 (by decide)
  have c11 : w.cell? ⟨1, 11, none⟩ = some (.int .i32 66) := ht.cell 11 (by decide)
  have c12 : w.cell? ⟨1, 12, none⟩ = some (.int .i32 67) := ht.cell 12 (by decide)
  have c13 : w.cell? ⟨1, 13, none⟩ = some (.int .i32 68) := ht.cell 13 (by decide)
  have c14 : w.cell? ⟨1, 14, none⟩ = some (.int .i32 69) := ht.cell 14 (by decide)
  have c15 : w.cell? ⟨1, 15, none⟩ = some (.int .i32 70) := ht.cell 15 (by decide)
  go_enter Tryz.func110, Tryz.ntmps110
  go_wp2_with fail
  clear c0 c1 c2 c3 c4 c5 c6 c7 c8 c9 c10 c11 c12 c13 c14 c15
  go_loopw [6] (fun iv wr => ∃ i : Nat, iv = .int .i64 (i : Int) ∧ wr = w ∧ i ≤ 16 ∧ ∀ j : Fin 16, j.1 < i → digL.getD j.1 0 ≠ (c : Int)) (fun iv _ => 16 - (intOf iv).toNat)
  case atStart => exact ⟨0, rfl, rfl, by omega, fun j hj => by omega⟩
  case round =>
    obtain ⟨i, rfl, rfl, hi, hno⟩ := hrel
    have Hno : Hid (∀ j : Fin 16, j.1 < i → digL.getD j.1 0 ≠ (c : Int)) := hno
    clear hno
    by_cases hp : i < 16
    · have hp' : (i : Int) < 16 := by omega
      have hx := idx16 i hp wr
      have Hat : Hid (digL.getD i 0 = (c : Int) → halfN c = i) := half_at ⟨c, hc⟩ ⟨i, hp⟩
      generalize hd0 : digL.getD i 0 = d at *
      have Hd : Hid (digL.getD i 0 = d) := hd0
      clear hd0
      by_cases he : d = (c : Int)
      · have he' : (d == (c : Int)) = true := by simp [he]
        have He : Hid (d = (c : Int)) := he
        clear he
        have hw8 : IntKind.u8.wrap (i : Int) = (i : Int) := by rw [IntKind.wrap_u8]; omega
        go_wp2_with fail
        go_ret
        exact ⟨ret_int (by have := Hat.out He.out; omega), rfl⟩
      · have he' : (d == (c : Int)) = false := by simp [he]
        have He : Hid (¬ d = (c : Int)) := he
        clear he
        go_wp2_with fail
        go_roundw
        case rel =>
          refine ⟨i + 1, by simp, by trivial, by omega, fun j hj => ?_⟩
          by_cases e : j.1 = i
          · rw [e, Hd.out]; exact He.out
          · exact Hno.out j (by omega)
        case measure =>
          simp [intOf]
          omega
    · have hp' : ¬ (i : Int) < 16 := by omega
      go_wp2_with fail
      go_ret
      exact ⟨ret_int (by rw [half_not ⟨c, hc⟩ (fun j => Hno.out j (by omega))]; rfl), rfl⟩


theorem getD_bN (s : ByteArray) (i : Nat) (h : i < s.size) : (s.data.toList.getD i 0).toNat = bN s i := by
  rw [← bN_at s i h, List.getD_eq_getElem?_getD, List.getElem?_eq_getElem (by simpa using h)]
  rfl
theorem half_lt (c : Nat) : halfN c < 16 := by unfold halfN; repeat' split
                                               all_goals omega

theorem or16 : ∀ a b : Fin 16, bits .or .u8 ((a.1 : Int) * 16 % 256) (b.1 : Int) = ((a.1 * 16 + b.1 : Nat) : Int) := by decide +kernel

theorem guess_val (s : ByteArray) (h : 1 ≤ s.size) : ((guessL s.data.toList).toNat : Int) = if bN s 0 = 43 then 32 else if bN s 0 = 37 ∧ 3 ≤ s.size then ((halfN (bN s 1) * 16 + halfN (bN s 2) : Nat) : Int) else (bN s 0 : Int) := by
  unfold guessL
  rw [getD_bN s 0 (by omega), size_list]
  split
  · rfl
  · split
    · rename_i h1 h2
      rw [getD_bN s 1 (by omega), getD_bN s 2 (by omega)]
      have a := half_lt (bN s 1)
      have b := half_lt (bN s 2)
      simp; omega
    · rw [getD_bN s 0 (by omega)]

set_option maxHeartbeats 1000000 in
theorem guess_any (s : ByteArray) (hs : 1 ≤ s.size) (hm : s.size ≤ 9223372036854775807) (B : Nat) (w : World) (ht : Tab16 B w) :
    Calls Tryz.prog 100 #[.string s] w fun e w' => e = .returned (.int .u8 ((guessL s.data.toList).toNat : Int)) ∧ Below w.heap.size w w' := by
  have Hg : Hid (_ = _) := guess_val s hs
  have h0 : 0 < s.size := hs
  have b0 := bN_at s 0 h0
  by_cases e43 : bN s 0 = 43
  · have f43 : (((s[0]'h0).toNat : Int) == 43) = true := by rw [b0, e43]; rfl
    have E : Hid (bN s 0 = 43) := e43
    clear b0 e43
    go_enter Tryz.func100, Tryz.ntmps100
    go_wp2_with fail
    go_ret
    exact ⟨ret_int (by rw [Hg.out, if_pos E.out]), (by repeat (first | exact Below.refl _ _ | assumption | refine below_drewN ?_ _ | refine Below.drew ?_ | refine Below.alloc ?_ (by simp <;> omega) _ | refine Below.setCell ?_ (by simp <;> omega) _))⟩
  · have f43 : (((s[0]'h0).toNat : Int) == 43) = false := by rw [b0]; simp; omega
    by_cases e37 : bN s 0 = 37
    · have f37 : (((s[0]'h0).toNat : Int) == 37) = true := by rw [b0, e37]; rfl
      have E1 : Hid (¬ bN s 0 = 43) := e43
      have E2 : Hid (bN s 0 = 37) := e37
      have b0' : Hid ((s[0]'h0).toNat = bN s 0) := b0
      clear b0 e43 e37
      by_cases h3 : 3 ≤ s.size
      · have h3' : (3 : Int) ≤ (s.size : Int) := by omega
        have h1 : 1 < s.size := by omega
        have h2 : 2 < s.size := by omega
        have l1 : (s[1]'h1).toNat < 256 := (s[1]'h1).toNat_lt
        have l2 : (s[2]'h2).toNat < 256 := (s[2]'h2).toNat_lt
        have x1 : (1 : Int) < (s.size : Int) := by omega
        have x2 : (2 : Int) < (s.size : Int) := by omega
        go_enter Tryz.func100, Tryz.ntmps100
        go_wp2_with fail
        go_quiet ((go_at_call 110; exact Calls.quiet_of_same (half_any _ (by with_reducible first | exact l1 | exact l2) B _ (ht.on (below_drewN (Below.refl _ _) _)))))
        go_wp2_with fail
        go_ret
        exact ⟨ret_int (by
          rw [Hg.out, if_neg E1.out, if_pos ⟨E2.out, h3⟩, ← bN_at s 1 h1, ← bN_at s 2 h2]
          have := or16 ⟨halfN (s[1]'h1).toNat, half_lt _⟩ ⟨halfN (s[2]'h2).toNat, half_lt _⟩
          simpa using this), (by repeat (first | exact Below.refl _ _ | assumption | refine below_drewN ?_ _ | refine Below.drew ?_ | refine Below.alloc ?_ (by simp <;> omega) _ | refine Below.setCell ?_ (by simp <;> omega) _))⟩
      · have h3' : ¬ (3 : Int) ≤ (s.size : Int) := by omega
        go_enter Tryz.func100, Tryz.ntmps100
        go_wp2_with fail
        go_ret
        exact ⟨ret_int (by rw [Hg.out, if_neg E1.out, if_neg (fun h => h3 h.2), ← b0'.out]), (by repeat (first | exact Below.refl _ _ | assumption | refine below_drewN ?_ _ | refine Below.drew ?_ | refine Below.alloc ?_ (by simp <;> omega) _ | refine Below.setCell ?_ (by simp <;> omega) _))⟩
    · have f37 : (((s[0]'h0).toNat : Int) == 37) = false := by rw [b0]; simp; omega
      have E1 : Hid (¬ bN s 0 = 43) := e43
      have E2 : Hid (¬ bN s 0 = 37) := e37
      have b0' : Hid ((s[0]'h0).toNat = bN s 0) := b0
      clear b0 e43 e37
      go_enter Tryz.func100, Tryz.ntmps100
      go_wp2_with fail
      go_ret
      exact ⟨ret_int (by rw [Hg.out, if_neg E1.out, if_neg (fun h => E2.out h.1), ← b0'.out]), (by repeat (first | exact Below.refl _ _ | assumption | refine below_drewN ?_ _ | refine Below.drew ?_ | refine Below.alloc ?_ (by simp <;> omega) _ | refine Below.setCell ?_ (by simp <;> omega) _))⟩

end Go.Proofs.YtfoeeocejcbmlaaGreatDoor
