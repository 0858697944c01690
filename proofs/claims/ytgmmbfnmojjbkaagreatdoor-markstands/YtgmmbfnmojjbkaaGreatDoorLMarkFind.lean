import Derived.Test.YtgmmbfnmojjbkaaGreatDoorMV
namespace Go.Proofs.YtgmmbfnmojjbkaaGreatDoor
open Go.RowKit
set_option linter.unusedVariables false
set_option linter.unusedSimpArgs false

def FiEnd (w : World) (s : ByteArray) (e : Ending) (w' : World) : Prop :=
  ∃ (M : List Kd) (u : Value), e = .returned u ∧ SlT w' u M ∧ FS M (finP s.data.toList) ∧ M.length ≤ 100000 ∧ Below w.heap.size w w'

theorem mfind_fi (s : ByteArray) (hm : s.size ≤ 30000) (W : World) : Calls Tryz.prog 21 #[.string s] W fun e w' => FiEnd W s e w' := by
  refine (mfind_any s W hm).mono ?_
  rintro e w' ⟨M, u, rfl, h1, h2, h3⟩
  have hl := finP_len s.data.toList
  rw [size_list] at hl
  exact ⟨M, u, rfl, h1, h2, by have := h2.len; omega, h3⟩
theorem FS.re {L : List Kd} {P R : List (List UInt8)} (h : FS L R) (h1 : ∀ p ∈ P, p ∈ R) (h2 : ∀ p ∈ R, p ∈ P) (hl : L.length ≤ P.length) : FS L P :=
  ⟨h.rises, fun x hx => by obtain ⟨q, hq, r⟩ := h.sound x hx; exact ⟨q, h2 q hq, r⟩, fun q hq a l e => h.whole q (h1 q hq) a l e, hl⟩

def FrEnd (w : World) (s : ByteArray) (e : Ending) (w' : World) : Prop :=
  ∃ (L : List Kd) (u : Value), e = .returned u ∧ SlT w' u L ∧ FS L (finR s.data.toList) ∧ Below w.heap.size w w'
theorem rfind_fr (s : ByteArray) (hm : s.size ≤ 30000) (W : World) : Calls Tryz.prog 22 #[.string s] W fun e w' => FrEnd W s e w' := by
  refine (rfind_any s W hm).mono ?_
  rintro e w' ⟨L, u, rfl, h1, h2, h3⟩
  exact ⟨L, u, rfl, h1.sl, h2, h3⟩

set_option maxRecDepth 100000 in
set_option maxHeartbeats 2000000 in
theorem markFind_any (ns : List Int) (LA : Option Addr) (cap : Nat) (raw : ByteArray) (w : World) (hns : NumsAt w w.heap.size ns LA) (hf : NumsFit ns) :
    Calls Tryz.prog 4 #[.slice LA ns.length cap, .string raw] w fun e w' => e = .returned (.bool true) ∧ Below w.heap.size w w' := by
  go_enter Tryz.func4, Tryz.ntmps4
  go_wp2_with fail
  refine (known9_any _).mono ?_
  rintro e w1 ⟨rfl, hb1⟩
  by_cases h300 : raw.size ≤ 300
  · have h300' : ¬ (raw.size : Int) > 300 := by omega
    have hn1 := nums_below9 hns hb1 (Nat.le_refl _)
    go_wp2_with fail
    refine (texts_any ns LA cap w.heap.size 12 12 rfl (by decide) w1 hb1.size hn1 hf).mono ?_
    rintro e w2 ⟨s1, rfl, hz1, hb2'⟩
    have hb2 := below_tr8 hb1 hb2'
    have hn2 := nums_below9 hn1 hb2' hb1.size
    clear hb2'
    go_wp2_with fail
    refine (texts_any ns LA cap w.heap.size 5 5 rfl (by decide) w2 hb2.size hn2 hf).mono ?_
    rintro e w3 ⟨s2, rfl, hz2, hb3'⟩
    have hb3 := below_tr8 hb2 hb3'
    have hn3 := nums_below9 hn2 hb3' hb2.size
    have q1 : ¬ 9223372036854775807 < s2.size + raw.size := by omega
    clear hb3'
    go_wp2_with fail
    refine (texts_any ns LA cap w.heap.size 3 3 rfl (by decide) w3 hb3.size hn3 hf).mono ?_
    rintro e w4 ⟨s3, rfl, hz3, hb4'⟩
    have hb4 := below_tr8 hb3 hb4'
    have q2 : ¬ 9223372036854775807 < s2.size + raw.size + s3.size := by omega
    have hbig : (s2 ++ raw ++ s3).size ≤ 30000 := by rw [ByteArray.size_append, ByteArray.size_append]; omega
    obtain ⟨w5, hw5⟩ : ∃ W : World, W = w4.alloc (.cells #[.string s1, .string raw, .string (s2 ++ raw ++ s3)] 9) := ⟨_, rfl⟩
    have hsz5 : w4.heap.size < w5.heap.size := by rw [hw5]; simp
    have hb5 : Below w.heap.size w w5 := by rw [hw5]; exact Below.alloc hb4 hb4.size _
    have HC : Hid (∀ i, i < 3 → ∃ x : ByteArray, w5.cell? ⟨w4.heap.size, i, none⟩ = some (.string x) ∧ x.size ≤ 30000) := fun i hi => by
      rcases (show i = 0 ∨ i = 1 ∨ i = 2 by omega) with rfl | rfl | rfl
      · exact ⟨s1, by rw [hw5]; simp [go_sem], by omega⟩
      · exact ⟨raw, by rw [hw5]; simp [go_sem], by omega⟩
      · exact ⟨_, by rw [hw5]; simp [go_sem], hbig⟩
    clear hb1 hb2 hb3 hb4 hb4' hn1 hn2 hn3 hbig
    go_wp2_with fail
    rw [← hw5]
    clear hw5
    go_loopw [6] (fun iv wr => ∃ i : Nat, iv = .int .i64 (i : Int) ∧ i ≤ 3 ∧ Below w5.heap.size w5 wr) (fun iv _ => 3 - (intOf iv).toNat)
    case atStart => exact ⟨0, rfl, by omega, Below.refl _ _⟩
    case round =>
      obtain ⟨i, rfl, hi3, hb⟩ := hrel
      have hsz := hb.size
      by_cases hlt : i < 3
      · have hlt' : (i : Int) < 3 := by omega
        obtain ⟨x, hc, hxs⟩ := HC.out i hlt
        have hcw : wr.cell? ⟨w4.heap.size, i, none⟩ = some (.string x) := by rw [hb.cell (by simpa using hsz5)]; exact hc
        have hmf := mfind_fi x hxs
        have hrf := rfind_fr x hxs
        have HS : Hid (∀ W, Below wr.heap.size wr W → (W.cell? ⟨w4.heap.size, i, none⟩ = some (.string x) ∧ Below wr.heap.size wr W)) := fun W hW => ⟨by rw [hW.cell (by simp; omega)]; exact hcw, hW⟩
        have HAL : Hid (∀ (M L : List Kd) (u v : Value) (W : World), SlT W u M → SlT W v L → FS M (finP x.data.toList) → FS L (finR x.data.toList) → M.length ≤ 100000 → Calls Tryz.prog 20 #[u, v] W fun e w' => e = .returned (.bool true) ∧ Below W.heap.size W w') := fun M L u v W h1 h2 h3 h4 h5 => by
          obtain ⟨e1, e2⟩ := fs_same h3 h4 (fun p h => finP_R _ p h) (fun p h => finR_P _ p h)
          exact refAll_any M L u v W h1 h2 h5 e1 e2
        have hb0 : Below wr.heap.size wr wr.drew := (Below.refl _ _).drew
        have HB : Hid (Below w5.heap.size w5 wr) := hb
        clear hc hcw hb
        go_wp2_with fail
        go_region_held3 (fun W => W.cell? ⟨w4.heap.size, i, none⟩ = some (.string x) ∧ Below wr.heap.size wr W)
          (with_reducible (first | exact HS.out _ (Below.refl _ _) | exact HS.out _ hb0 | exact HS.out _ hb8 | exact HS.out _ hb9 | exact HS.out _ hb10 | assumption))
          (first
            | (go_at_call 21; refine (hmf _).mono ?_; rintro e w8 ⟨M, um, rfl, m1, m2, m3, m4⟩; have hb8 := hb0.trans (m4.mono hb0.size))
            | (go_at_call 22; refine (hrf _).mono ?_; rintro e w9 ⟨L, ul, rfl, l1, l2, l4⟩; have hb9 := hb8.trans (l4.mono hb8.size))
            | (go_at_call 20; refine (HAL.out M L um ul _ (m1.below l4) l1 m2 l2 m3).mono ?_; rintro e w10 ⟨rfl, hb10'⟩; have hb10 := hb9.trans (hb10'.mono hb9.size)))
        have HB2 : Hid (Below w5.heap.size w5 w10) := HB.out.trans (hb10.mono hsz)
        clear hmf hrf HAL HS
        go_wp2_with fail
        go_roundw
        case rel => exact ⟨i + 1, by go_num, by omega, HB2.out⟩
        case measure => simp [intOf]; omega
      · have hlt' : ¬ (i : Int) < 3 := by omega
        go_wp2_with fail
        go_ret
        exact ⟨rfl, hb5.trans (hb.mono hb5.size)⟩
  · have h300' : (raw.size : Int) > 300 := by omega
    go_wp2_with fail
    go_ret
    exact ⟨rfl, hb1⟩

end Go.Proofs.YtgmmbfnmojjbkaaGreatDoor
