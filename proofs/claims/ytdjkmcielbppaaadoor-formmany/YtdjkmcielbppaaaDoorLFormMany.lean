import Derived.Test.YtdjkmcielbppaaaDoorQM
namespace Go.Proofs.YtdjkmcielbppaaaDoor
open Go.RowKit
set_option linter.unusedVariables false
set_option linter.unusedSimpArgs false

/-- So many fields of one letter. -/
def manyL : Nat → List UInt8
  | 0 => []
  | i + 1 => (if i = 0 then manyL i else manyL i ++ [38]) ++ [UInt8.ofNat (97 + i), 61, 49]
def manyS (i : Nat) : ByteArray := ⟨(manyL i).toArray⟩
def manyT (i : Nat) (bad : Bool) : ByteArray := if bad = true then ⟨#[33]⟩ ++ manyS i else manyS i

theorem manyL_len : ∀ i, (manyL i).length ≤ 4 * i
  | 0 => Nat.le_refl _
  | i + 1 => by have := manyL_len i; rw [manyL]; split <;> simp <;> omega
theorem manyS_size (i : Nat) : (manyS i).size ≤ 4 * i := by rw [← size_list]; exact manyL_len i
theorem manyS_step (i : Nat) : manyS (i + 1) = (if i = 0 then manyS i else manyS i ++ ⟨#[38]⟩) ++ ⟨#[UInt8.ofNat (97 + i)]⟩ ++ ⟨#[61, 49]⟩ := by
  apply ba_ext
  by_cases hz : i = 0
  · subst hz; rfl
  · rw [if_neg hz]; simp only [ba_app]; simp [manyS, manyL, hz]

def manyR (k : Nat) (bad : Bool) : Int := if 24 < k then 7 else if bad = true then 3 else 0
theorem many_all : ∀ d : Fin 6, ∀ bad : Bool, (parF (manyT (21 + d.1) bad)).1 = manyR (21 + d.1) bad ∧ (manyR (21 + d.1) bad = 0 → (parF (manyT (21 + d.1) bad)).2.length = 21 + d.1) := by decide +kernel
theorem many_par (k : Nat) (h1 : 21 ≤ k) (h2 : k ≤ 26) (bad : Bool) : (parF (manyT k bad)).1 = manyR k bad ∧ (manyR k bad = 0 → (parF (manyT k bad)).2.length = k) := by
  have := many_all ⟨k - 21, by omega⟩ bad
  simp only [show 21 + (k - 21) = k by omega] at this
  exact this

set_option maxHeartbeats 400000 in
theorem within10_any (x n : Int) (w : World) (h0 : 1 ≤ n) (h1 : n ≤ 9223372036854775807) (h2 : -9223372036854775808 ≤ x) (h3 : x ≤ 9223372036854775807) :
    Calls Tryd.prog 18 #[.int .i64 x, .int .i64 n] w fun e w' => e = .returned (.int .i64 (x % n)) ∧ w' = w := by
  have l1 := Int.lt_tmod_of_pos x (show 0 < n by omega)
  have l2 := Int.tmod_lt_of_pos x (show 0 < n by omega)
  go_enter Tryd.func18, Tryd.ntmps18
  go_wp2_with fail
  all_goals go_ret
  · exact ⟨ret_int (by rw [tmod_emod x n h0, if_pos (by assumption)]), rfl⟩
  · exact ⟨ret_int (by rw [tmod_emod x n h0, if_neg (by omega)]), rfl⟩

theorem conv_one (W : World) (c : UInt8) : (convert 42 9 (.slice (some ⟨W.heap.size, 0, none⟩) 1 1)).run Tryd.prog (W.alloc (.cells #[.int .u8 (c.toNat : Int)] 5)) = .ok (.string ⟨#[c]⟩) (W.alloc (.cells #[.int .u8 (c.toNat : Int)] 5)) :=
  run_convert_bytes_back (P := Tryd.prog) _ 42 9 5 ⟨W.heap.size, 0, none⟩ 1 [c] Tryd.underlying42 Tryd.underlying5 Tryd.underlying9 (fun j hj => by
    have : j = 0 := by simp at hj; omega
    subst this
    simp [Addr.add, go_sem])

set_option maxRecDepth 100000 in
set_option maxHeartbeats 2000000 in
theorem formMany_any (n : Int) (bad : Bool) (w : World) (h2 : -9223372036854775808 ≤ n) (h3 : n ≤ 9223372036854775807) (ht : Tab16 w.heap.size w) :
    Calls Tryd.prog 6 #[.int .i64 n, .bool bad] w fun e w' => e = .returned (.bool true) ∧ Below w.heap.size w w' := by
  have hk := known10_any w ht
  have hw := fun W => within10_any n 6 W (by omega) (by omega) h2 h3
  obtain ⟨k, hk0, hk1, hk2⟩ : ∃ k : Nat, 21 + n % 6 = (k : Int) ∧ 21 ≤ k ∧ k ≤ 26 := ⟨(21 + n % 6).toNat, by omega, by omega, by omega⟩
  have HT : Hid (Tab16 w.heap.size w) := ht
  rw [show n % 6 = (k : Int) - 21 by omega] at hw
  clear hk0 ht h2 h3
  have hsum : 21 + ((k : Int) - 21) = (k : Int) := by omega
  go_enter Tryd.func6, Tryd.ntmps6
  go_wp2_with fail
  refine hk.mono ?_
  rintro e w1 ⟨rfl, h1⟩
  have HB1 : Hid (Below w.heap.size w w1) := h1
  clear h1 hk
  go_wp2_with (go_at_call 18; refine (hw _).mono ?_; rintro e w2 ⟨rfl, hw2⟩; rw [hw2]; clear hw2 w2)
  go_loopw [6, 7] (fun sv iv wr => ∃ i : Nat, sv = .string (manyS i) ∧ iv = .int .i64 (i : Int) ∧ i ≤ k ∧ Below w.heap.size w wr) (fun _ iv _ => k - (intOf iv).toNat)
  case atStart => exact ⟨0, rfl, rfl, Nat.zero_le _, HB1.out⟩
  case round =>
    obtain ⟨i, rfl, rfl, hi, hb⟩ := hrel
    have HB : Hid (Below w.heap.size w wr) := hb
    have hsz := hb.size
    have hms := manyS_size i
    clear hb
    by_cases hp : i < k
    · have hp' : (i : Int) < (k : Int) := by omega
      have hst := manyS_step i
      have hb2 : Below w.heap.size w (wr.alloc (.cells #[.int .u8 (97 + (i : Int))] 5)) := HB.out.alloc hsz _
      have HB2 : Hid (Below w.heap.size w (wr.alloc (.cells #[.int .u8 (97 + (i : Int))] 5))) := hb2
      have hcv := conv_one wr (UInt8.ofNat (97 + i))
      have hcn : ((UInt8.ofNat (97 + i)).toNat : Int) = 97 + (i : Int) := by rw [UInt8.toNat_ofNat']; omega
      rw [hcn] at hcv
      have hmod : (97 + (i : Int)) % 256 = 97 + (i : Int) := by omega
      clear hb2 hcn
      generalize UInt8.ofNat (97 + i) = c at *
      generalize manyS i = acc at *
      by_cases hz : i = 0
      · have hz' : ¬ (i : Int) > 0 := by omega
        have HF : Hid (manyS (i + 1) = acc ++ ⟨#[c]⟩ ++ ⟨#[61, 49]⟩) := by show _ = _; rw [hst, if_pos hz]
        clear hz hst
        go_wp2_with fail
        go_roundw
        case rel => exact ⟨i + 1, by rw [HF.out], by go_num, by omega, HB2.out⟩
        case measure => simp [intOf]; omega
      · have hz' : (i : Int) > 0 := by omega
        have HF : Hid (manyS (i + 1) = (acc ++ ⟨#[38]⟩) ++ ⟨#[c]⟩ ++ ⟨#[61, 49]⟩) := by show _ = _; rw [hst, if_neg hz]
        clear hz hst
        go_wp2_with fail
        go_roundw
        case rel => exact ⟨i + 1, by rw [HF.out], by go_num, by omega, HB2.out⟩
        case measure => simp [intOf]; omega
    · obtain rfl : i = k := by omega
      have hp' : ¬ (i : Int) < (i : Int) := by omega
      have hmp := many_par i hk1 hk2 bad
      have hps := qparse_at HT.out (manyT i bad) (by
        unfold manyT; split
        · rw [ByteArray.size_append, size1]; omega
        · omega) (parF (manyT i bad)).1 (parF (manyT i bad)).2 rfl wr HB.out
      rw [hmp.1] at hps
      have hl := hmp.2
      clear hmp hw
      generalize (parF (manyT i bad)).2 = l at *
      unfold manyT at hps
      generalize manyS i = acc at *
      have hsum2 : 1 + acc.size ≤ 9223372036854775807 := by omega
      cases bad with
      | true =>
        simp only [if_true] at hps
        by_cases hm : 24 < i
        · have hm' : (i : Int) > 24 := by omega
          have hr : manyR i true = 7 := by unfold manyR; rw [if_pos hm]
          rw [hr] at hps
          clear hm hr hl
          go_wp2_with fail
          refine hps.mono ?_
          rintro e w3 ⟨v, rfl, _, _, hb3⟩
          have HB3 : Hid (Below w.heap.size w w3) := HB.out.trans (hb3.mono hsz)
          clear hb3 hps
          go_wp2_with fail
          go_ret
          exact ⟨rfl, HB3.out⟩
        · have hm' : ¬ (i : Int) > 24 := by omega
          have hr : manyR i true = 3 := by unfold manyR; rw [if_neg hm]; rfl
          rw [hr] at hps
          clear hm hr hl
          go_wp2_with fail
          refine hps.mono ?_
          rintro e w3 ⟨v, rfl, _, _, hb3⟩
          have HB3 : Hid (Below w.heap.size w w3) := HB.out.trans (hb3.mono hsz)
          clear hb3 hps
          go_wp2_with fail
          go_ret
          exact ⟨rfl, HB3.out⟩
      | false =>
        rw [if_neg (by simp)] at hps
        by_cases hm : 24 < i
        · have hm' : (i : Int) > 24 := by omega
          have hr : manyR i false = 7 := by unfold manyR; rw [if_pos hm]
          rw [hr] at hps
          clear hm hr hl
          go_wp2_with fail
          refine hps.mono ?_
          rintro e w3 ⟨v, rfl, _, _, hb3⟩
          have HB3 : Hid (Below w.heap.size w w3) := HB.out.trans (hb3.mono hsz)
          clear hb3 hps
          go_wp2_with fail
          go_ret
          exact ⟨rfl, HB3.out⟩
        · have hm' : ¬ (i : Int) > 24 := by omega
          have hr : manyR i false = 0 := by unfold manyR; rw [if_neg hm]; rfl
          have HL : Hid (l.length = i) := hl hr
          rw [hr] at hps
          clear hm hr hl
          go_wp2_with fail
          refine hps.mono ?_
          rintro e w3 ⟨v, rfl, hrow, _, hb3⟩
          have HB3 : Hid (Below w.heap.size w w3) := HB.out.trans (hb3.mono hsz)
          obtain ⟨A, cap, rfl, hcp, _⟩ := hrow
          rw [HL.out] at *
          clear hb3 hps
          go_wp2_with fail
          go_ret
          exact ⟨rfl, HB3.out⟩

end Go.Proofs.YtdjkmcielbppaaaDoor
