import Derived.Test.YteohbkfogebldaaT10
namespace Go.Proofs.Yteohbkfogebldaa
open Go.RowKit
set_option linter.unusedVariables false
set_option linter.unusedSimpArgs false

theorem clipS_any (s : ByteArray) (n : Int) (w : World) (hs : s.size ≤ 281474976710656) (h1 : -9223372036854775808 ≤ n) (h2 : n ≤ 9223372036854775807) :
    Calls Try.prog 16 #[.string s, .int .i64 n] w fun e w' => e = .returned (.string (clipS s n.toNat)) ∧ Below w.heap.size w w' := clip_any s n w hs h1 h2

set_option maxRecDepth 20000 in
set_option maxHeartbeats 4000000 in
theorem textClip_any (raw : ByteArray) (ns : List Int) (LA : Option Addr) (cap : Nat) (n m : Int) (w : World) (hr0 : raw.size ≤ 9223372036854775807) (hns : NumsAt w w.heap.size ns LA) (hf : NumsFit ns) (n1 : -9223372036854775808 ≤ n) (n2 : n ≤ 9223372036854775807) (m1 : -9223372036854775808 ≤ m) (m2 : m ≤ 9223372036854775807) :
    Calls Try.prog 6 #[.string raw, .slice LA ns.length cap, .int .i64 n, .int .i64 m] w fun e w' => e = .returned (.bool true) ∧ Below w.heap.size w w' := by
  go_enter Try.func6, Try.ntmps6
  go_wp2_with fail
  refine (known6_any w).mono ?_
  rintro e w1 ⟨rfl, b1⟩
  have s1 := b1.size
  by_cases hr : raw.size ≤ 200
  · have hr' : ¬ (raw.size : Int) > 200 := by omega
    go_wp2_with fail
    refine (some_any ns LA cap w.heap.size 30 (by omega) w1 s1 (hns.below b1) hf).mono ?_
    rintro e w2 ⟨rfl, b2⟩
    replace b2 := below_tr b1 b2
    clear b1 s1
    have hx := someF_small ns 30 0 ByteArray.empty
    generalize someF ns 30 0 ByteArray.empty = x at *
    have hx' : x.size ≤ 120 := by simpa using hx
    clear hx
    have hlen : x.size + raw.size ≤ 9223372036854775807 := by omega
    go_wp2_with fail
    have hss : (x ++ raw).size ≤ 320 := by rw [ByteArray.size_append]; omega
    generalize x ++ raw = s at *
    clear hlen hx' hr hr' hr0
    refine (within6_any n 50 _ (by omega) (by omega) n1 n2).mono ?_
    rintro e v9 ⟨rfl, rfl⟩
    have e1 := Int.emod_nonneg n (show (50 : Int) ≠ 0 by omega)
    have e2 := Int.emod_lt_of_pos n (show (0 : Int) < 50 by omega)
    obtain ⟨a, ha⟩ : ∃ k : Nat, n % 50 = (k : Int) := ⟨(n % 50).toNat, by omega⟩
    rw [ha]
    have ha50 : a < 50 := by omega
    clear ha e1 e2
    go_wp2_with fail
    refine (within6_any m 50 _ (by omega) (by omega) m1 m2).mono ?_
    rintro e v8 ⟨rfl, rfl⟩
    have e1 := Int.emod_nonneg m (show (50 : Int) ≠ 0 by omega)
    have e2 := Int.emod_lt_of_pos m (show (0 : Int) < 50 by omega)
    obtain ⟨b, hb⟩ : ∃ k : Nat, m % 50 = (k : Int) := ⟨(m % 50).toNat, by omega⟩
    rw [hb]
    have hb50 : b < 50 := by omega
    clear hb e1 e2
    go_wp2_with fail
    refine (clipS_any s a v8 (by omega) (by omega) (by omega)).mono ?_
    rintro e w3 ⟨rfl, b3⟩
    replace b3 := below_tr b2 b3
    clear b2
    have Q1 : Hid (∀ b, clipS (clipS s a) b = clipS s (min a b)) := clipS_clip s a
    have Q2 : Hid (runesF (clipS s a) (clipS s a).size 0 = min a (runesF s s.size 0)) := clipS_runes s a
    have Q3 := clipS_back s a
    have hxs := clipS_le s a
    have Q4 : Hid (clipS s 0 = ⟨#[]⟩) := clipS_zero s
    have Q5 : Hid (clipS s (runesF s s.size 0) = s) := clipS_all s
    have hrl := runesF_le s s.size 0
    rw [show ((a : Nat) : Int).toNat = a by omega]
    generalize clipS s a = x at *
    have hxs' : (x.size : Int) ≤ (s.size : Int) := by omega
    go_wp2_with fail
    refine (runes_any x _ (by omega)).mono ?_
    rintro e w4 ⟨rfl, b4⟩
    replace b4 := below_tr b3 b4
    clear b3
    go_wp2_with fail
    refine (runes_any s _ (by omega)).mono ?_
    rintro e w5 ⟨rfl, b5⟩
    replace b5 := below_tr b4 b5
    clear b4
    rw [Q2.out]
    generalize hR0 : runesF s s.size 0 = R at *
    have HR : Hid (runesF s s.size 0 = R) := hR0
    clear hR0
    have hm : ((min a R : Nat) : Int) = min (a : Int) (R : Int) := by omega
    rw [hm]
    clear hm
    go_wp2_with fail
    refine (clipS_any x b _ (by omega) (by omega) (by omega)).mono ?_
    rintro e w6 ⟨rfl, b6⟩
    replace b6 := below_tr b5 b6
    clear b5
    rw [show ((b : Nat) : Int).toNat = b by omega, Q1.out b]
    go_wp2_with fail
    refine (clipS_any s (min (a : Int) (b : Int)) _ (by omega) (by omega) (by omega)).mono ?_
    rintro e w7 ⟨rfl, b7⟩
    replace b7 := below_tr b6 b7
    clear b6
    rw [show (min (a : Int) (b : Int)).toNat = min a b by omega]
    generalize clipS s (min a b) = Y
    have hwr : IntKind.i64.wrap (-1 - (a : Int)) = -1 - (a : Int) := by rw [IntKind.wrap_i64]; omega
    go_wp2_with fail
    refine (clipS_any s (-1 - (a : Int)) _ (by omega) (by omega) (by omega)).mono ?_
    rintro e w8 ⟨rfl, b8⟩
    replace b8 := below_tr b7 b8
    clear b7
    rw [show (-1 - (a : Int)).toNat = 0 by omega, Q4.out]
    go_wp2_with fail
    refine (runes_any s _ (by omega)).mono ?_
    rintro e w9 ⟨rfl, b9⟩
    replace b9 := below_tr b8 b9
    clear b8
    rw [HR.out]
    go_wp2_with fail
    refine (clipS_any s (R : Int) _ (by omega) (by omega) (by omega)).mono ?_
    rintro e w10 ⟨rfl, b10⟩
    replace b10 := below_tr b9 b10
    clear b9
    rw [show ((R : Nat) : Int).toNat = R by omega, Q5.out]
    go_wp2_with fail
    go_ret
    exact ⟨rfl, b10⟩
  · have hr' : (raw.size : Int) > 200 := by omega
    go_wp2_with fail
    go_ret
    exact ⟨rfl, b1⟩

end Go.Proofs.Yteohbkfogebldaa
