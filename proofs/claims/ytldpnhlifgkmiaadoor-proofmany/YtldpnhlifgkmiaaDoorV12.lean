import Derived.Test.YtldpnhlifgkmiaaDoorV11
namespace Go.Proofs.YtldpnhlifgkmiaaDoor
open Go.RowKit
set_option linter.unusedVariables false
set_option linter.unusedSimpArgs false

set_option maxHeartbeats 400000 in
theorem within4_any (x n : Int) (w : World) (h0 : 1 ≤ n) (h1 : n ≤ 9223372036854775807) (h2 : -9223372036854775808 ≤ x) (h3 : x ≤ 9223372036854775807) :
    Calls Tryd.prog 25 #[.int .i64 x, .int .i64 n] w fun e w' => e = .returned (.int .i64 (x % n)) ∧ w' = w := by
  have l1 := Int.lt_tmod_of_pos x (show 0 < n by omega)
  have l2 := Int.tmod_lt_of_pos x (show 0 < n by omega)
  go_enter Tryd.func25, Tryd.ntmps25
  go_wp2_with fail
  all_goals go_ret
  · exact ⟨ret_int (by rw [tmod_emod x n h0, if_pos (by assumption)]), rfl⟩
  · exact ⟨ret_int (by rw [tmod_emod x n h0, if_neg (by omega)]), rfl⟩

/-- So many of one move. -/
theorem run_atoms (us : List (Nd × Fo)) (m : Mv) (t : Nd × Fo) (h : ∀ rs, stepP us rs m = .ok t) : ∀ (k : Nat) (rs : List (Nd × Fo)), runS us rs (List.replicate k m) = .ok (rs ++ List.replicate k t)
  | 0, rs => by simp [runS]
  | k + 1, rs => by
    rw [List.replicate_succ, runS, h rs]
    simp only
    rw [run_atoms us m t h k (rs ++ [t]), List.replicate_succ, List.append_assoc]
    rfl

def kX : Nd := ⟨1, 0, ⟨#[120]⟩⟩
def mX : Mv := ⟨2, 0, 0, ⟨#[120]⟩⟩
theorem may_kX : may kX .nil = true := by simp [may, mayT, mayB, mayF, formedB, kidsOf, flen, kX, empB]; decide
theorem step_X (us rs : List (Nd × Fo)) : stepP us rs mX = .ok (kX, .nil) := by
  have : rawP us rs mX = .ok (kX, .nil) := by simp [rawP, mX, kX]
  unfold stepP
  rw [this]
  unfold mayP
  simp only [may_kX, if_true]
theorem run_many (k : Nat) : runP [] (List.replicate k mX) = if 1024 < k then .error 7 else .ok (List.replicate k (kX, .nil)) := by
  unfold runP
  rw [List.length_replicate]
  split
  · rfl
  · rw [run_atoms [] mX (kX, .nil) (step_X []) k []]; rfl

/-- A tower of Hashes over an Atom. -/
def towF : Nat → Fo
  | 0 => .nil
  | d + 1 => .node 0 0 (if d = 0 then kX else kH) (towF d) .nil
def towA (d : Nat) : Nd := if d = 0 then kX else kH
theorem towF_succ (d : Nat) : towF (d + 1) = .node 0 0 (towA d) (towF d) .nil := rfl
theorem kH_form : formedB kH.kind kH.n kH.s 1 = true := by simp [formedB, kidsOf, kH, empB]
theorem kX_form : formedB kX.kind kX.n kX.s 0 = true := by simp [formedB, kidsOf, kX, empB]; decide
theorem flen_tow (d : Nat) : flen (towF d) = if d = 0 then 0 else 1 := by
  cases d with
  | zero => rfl
  | succ d => rw [towF_succ]; rfl
theorem form_tow (d : Nat) : formedB (towA d).kind (towA d).n (towA d).s (flen (towF d)) = true := by
  rw [flen_tow]
  unfold towA
  by_cases h : d = 0
  · rw [if_pos h, if_pos h]; exact kX_form
  · rw [if_neg h, if_neg h]; exact kH_form
/-- A tower so high, so deep already, behind so many. -/
theorem mayT_tow : ∀ (d : Nat) (deep c : Int), c + d + 1 ≤ 64 → (mayT (towA d) (towF d) deep c).1 = decide (deep + d ≤ 16)
  | 0, deep, c, hc => by
    rw [mayT]
    by_cases hd : deep ≤ 16
    · rw [if_pos (by unfold mayB; rw [form_tow]; simp; omega)]
      simp [towF, mayF]; omega
    · rw [if_neg (by unfold mayB; simp; omega)]
      simp; omega
  | d + 1, deep, c, hc => by
    have ih := mayT_tow d (deep + 1) (c + 1) (by omega)
    rw [mayT]
    by_cases hd : deep ≤ 16
    · rw [if_pos (by unfold mayB; rw [form_tow]; simp; omega), towF_succ, mayF_node]
      by_cases h1 : (mayT (towA d) (towF d) (deep + 1) (c + 1)).1 = true
      · rw [if_pos h1]
        rw [h1] at ih
        simp only [mayF]
        have := of_decide_eq_true ih.symm
        symm; exact decide_eq_true (by omega)
      · rw [if_neg h1]
        have h2 : (mayT (towA d) (towF d) (deep + 1) (c + 1)).1 = false := by simpa using h1
        rw [h2] at ih
        have := of_decide_eq_false ih.symm
        simp only
        symm; exact decide_eq_false (by omega)
    · rw [if_neg (by unfold mayB; simp; omega)]
      simp only
      symm; exact decide_eq_false (by omega)
theorem may_tow (d : Nat) (h : d ≤ 60) : may (towA d) (towF d) = decide (d + 1 ≤ 16) := by
  unfold may
  rw [mayT_tow d 1 0 (by omega)]
  congr 1
  exact propext ⟨fun h => by omega, fun h => by omega⟩

def tows (j : Nat) : List (Nd × Fo) := (List.range j).map fun i => (towA i, towF i)
def mHs (i : Nat) : Mv := ⟨6, (i : Int), 0, ⟨#[]⟩⟩
theorem step_tow (j : Nat) (hj : j + 1 ≤ 60) : stepP [] (tows (j + 1)) (mHs j) = if j + 2 ≤ 16 then .ok (towA (j + 1), towF (j + 1)) else .error 3 := by
  have h1 : atL (tows (j + 1)) (j : Int) = some (towA j, towF j) := by
    unfold atL
    rw [if_pos ⟨by omega, by simp [tows]; omega⟩]
    simp [tows]
  have h2 : rawP [] (tows (j + 1)) (mHs j) = .ok (towA (j + 1), towF (j + 1)) := by
    unfold rawP
    rw [if_neg (show ¬ (mHs j).kind = 1 by simp [mHs]), if_neg (show ¬ (mHs j).kind = 2 by simp [mHs]), if_neg (show ¬ (mHs j).kind = 3 by simp [mHs]), if_neg (show ¬ (mHs j).kind = 4 by simp [mHs]), if_neg (show ¬ (mHs j).kind = 5 by simp [mHs]), if_pos (show (mHs j).kind = 6 ∨ (mHs j).kind = 7 by simp [mHs]), show (mHs j).a = (j : Int) from rfl, h1]
    rfl
  unfold stepP
  rw [h2]
  unfold mayP
  simp only [may_tow (j + 1) hj]
  by_cases h : j + 2 ≤ 16
  · rw [if_pos h, if_pos (by simp; omega)]
  · rw [if_neg h, if_neg (by simp; omega)]
theorem tows_succ (j : Nat) : tows (j + 1) = tows j ++ [(towA j, towF j)] := by simp [tows, List.range_succ]
theorem run_tow : ∀ (n j : Nat), j + n + 1 ≤ 60 → j + 1 ≤ 16 → runS [] (tows (j + 1)) ((List.range' j n).map mHs) = if j + n + 1 ≤ 16 then .ok (tows (j + n + 1)) else .error 3
  | 0, j, _, hj => by simp [runS, hj]
  | n + 1, j, h, hj => by
    rw [List.range'_succ, List.map_cons, runS, step_tow j (by omega)]
    by_cases h2 : j + 2 ≤ 16
    · rw [if_pos h2]
      simp only
      rw [← tows_succ, run_tow n (j + 1) (by omega) (by omega)]
      rw [show j + 1 + n + 1 = j + (n + 1) + 1 from by omega]
    · rw [if_neg h2, if_neg (by omega)]
theorem run_high (d : Nat) (h : d ≤ 50) : runP [] (mX :: (List.range d).map mHs) = if d + 1 ≤ 16 then .ok (tows (d + 1)) else .error 3 := by
  unfold runP
  rw [if_neg (by simp; omega), runS, step_X]
  simp only [List.nil_append]
  have := run_tow d 0 (by omega) (by omega)
  rw [show tows (0 + 1) = [(kX, .nil)] from rfl, List.range_eq_range'.symm] at this
  rw [this, show 0 + d + 1 = d + 1 from by omega]

end Go.Proofs.YtldpnhlifgkmiaaDoor
