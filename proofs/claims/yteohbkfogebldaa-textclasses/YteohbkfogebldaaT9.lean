import Derived.Test.YteohbkfogebldaaT7
import Derived.Test.YteohbkfogebldaaT8
namespace Go.Proofs.Yteohbkfogebldaa
open Go.RowKit
set_option linter.unusedVariables false
set_option linter.unusedSimpArgs false

set_option maxHeartbeats 2000000 in
theorem rfold_any (s : ByteArray) (w : World) (hs : s.size ≤ 9223372036854775807) :
    Calls Try.prog 26 #[.string s] w fun e w' => e = .returned (.string (foldS s)) ∧ Below w.heap.size w w' := by
  obtain ⟨C, W, hC, hconv, hbw, hsz, hrow⟩ := bytes_of s w
  go_enter Try.func26, Try.ntmps26
  go_wp2_with fail
  go_loopw [4] (fun iv wr => ∃ i : Nat, iv = .int .i64 (i : Int) ∧ FoldRow s w.heap.size i wr ∧ Below w.heap.size w wr ∧ i ≤ s.size) (fun iv _ => s.size - (intOf iv).toNat)
  case atStart =>
    exact ⟨0, rfl, fun j hj => by simpa using hrow j hj, hbw, by omega⟩
  case round =>
    obtain ⟨i, rfl, hr, hb, hi⟩ := hrel
    clear hrow hconv
    by_cases hp : i < s.size
    · have hp' : (i : Int) < (s.size : Int) := by omega
      have hcl := bN_lt s i
      obtain ⟨c1, c2⟩ := hr i hp
      rw [if_neg (by omega)] at c1
      have Hr : Hid (FoldRow s w.heap.size i wr) := hr
      clear hr
      by_cases hc : 65 ≤ bN s i ∧ bN s i ≤ 90
      · have g1 : (bN s i : Int) ≥ 65 := by omega
        have g2 : (bN s i : Int) ≤ 90 := by omega
        have hw2 : IntKind.u8.wrap ((bN s i : Int) + 32) = (bN s i : Int) + 32 := by rw [IntKind.wrap_u8]; omega
        go_wp2_with fail
        go_roundw
        case rel =>
          exact ⟨i + 1, by simp, Hr.out.put hp hc _ (by omega), hb.setCell (Nat.le_refl _) _, by omega⟩
        case measure =>
          simp [intOf]
          omega
      · by_cases g1 : (bN s i : Int) ≥ 65
        · have g2 : ¬ (bN s i : Int) ≤ 90 := by omega
          go_wp2_with fail
          all_goals go_roundw
          all_goals first | exact ⟨i + 1, by simp, Hr.out.skip hc, hb, by omega⟩ | (simp [intOf]; omega)
        · go_wp2_with fail
          all_goals go_roundw
          all_goals first | exact ⟨i + 1, by simp, Hr.out.skip hc, hb, by omega⟩ | (simp [intOf]; omega)
    · have hp' : ¬ (i : Int) < (s.size : Int) := by omega
      have hcv := row_back s w.heap.size C wr (fun j hj => by rw [(hr j hj).1, if_pos (by omega)])
      go_wp2_with fail
      go_ret
      exact ⟨rfl, hb⟩

/-- Word, Token, Seen as one Boolean each, on either side. -/
def wordB (s : ByteArray) : Bool := decide (1 ≤ s.size ∧ s.size ≤ 128) && bytesF plainB s s.size 0
def tokenB (s : ByteArray) : Bool := decide (1 ≤ s.size) && bytesF tokB s s.size 0
def sawB (s : ByteArray) : Bool := bytesF seenB s s.size 0

theorem wordB_any (s : ByteArray) (w : World) : Calls Try.prog 19 #[.string s] w fun e w' => e = .returned (.bool (wordB s)) ∧ Below w.heap.size w w' :=
  (word_any s w).mono (fun e w' ⟨he, hb⟩ => ⟨by rw [he, each_bytes _ plainB_high]; rfl, hb⟩)
theorem tokenB_any (s : ByteArray) (w : World) : Calls Try.prog 21 #[.string s] w fun e w' => e = .returned (.bool (tokenB s)) ∧ Below w.heap.size w w' :=
  (token_any s w).mono (fun e w' ⟨he, hb⟩ => ⟨by rw [he, each_bytes _ tokB_high]; rfl, hb⟩)
theorem sawB_any (s : ByteArray) (w : World) : Calls Try.prog 23 #[.string s] w fun e w' => e = .returned (.bool (sawB s)) ∧ Below w.heap.size w w' :=
  (tseen_any s w).mono (fun e w' ⟨he, hb⟩ => ⟨by rw [he, each_bytes _ seenB_high]; rfl, hb⟩)

theorem rwordB_any (s : ByteArray) (w : World) (hs : s.size ≤ 9223372036854775807) : Calls Try.prog 20 #[.string s] w fun e w' => e = .returned (.bool (wordB s)) ∧ w' = w := rword_any s w hs
theorem rtokenB_any (s : ByteArray) (w : World) (hs : s.size ≤ 9223372036854775807) : Calls Try.prog 22 #[.string s] w fun e w' => e = .returned (.bool (tokenB s)) ∧ w' = w := rtoken_any s w hs
theorem rsawB_any (s : ByteArray) (w : World) (hs : s.size ≤ 9223372036854775807) : Calls Try.prog 24 #[.string s] w fun e w' => e = .returned (.bool (sawB s)) ∧ w' = w := rseen_any s w hs

/-- Two texts stand in a row of their own. -/
def Row2 (w : World) (g : Nat) (a b : ByteArray) : Prop :=
  g < w.heap.size ∧ w.cell? ⟨g, 0, none⟩ = some (.string a) ∧ w.cell? ⟨g, 1, none⟩ = some (.string b)

theorem Row2.below {w w' : World} {g : Nat} {a b : ByteArray} (h : Row2 w g a b) (hb : Below w.heap.size w w') : Row2 w' g a b :=
  ⟨Nat.lt_of_lt_of_le h.1 hb.size, by rw [hb.cell h.1]; exact h.2.1, by rw [hb.cell h.1]; exact h.2.2⟩

theorem Row2.at {w : World} {g : Nat} {a b : ByteArray} (h : Row2 w g a b) (M : Nat) (ha : a.size ≤ M) (hb : b.size ≤ M) (i : Nat) (hi : i < 2) :
    ∃ s : ByteArray, w.cell? ⟨g, i, none⟩ = some (.string s) ∧ s.size ≤ M := by
  rcases (show i = 0 ∨ i = 1 by omega) with rfl | rfl
  · exact ⟨a, h.2.1, ha⟩
  · exact ⟨b, h.2.2, hb⟩

set_option maxRecDepth 20000 in
set_option maxHeartbeats 8000000 in
theorem textBytes_any (raw : ByteArray) (ns : List Int) (LA : Option Addr) (cap : Nat) (w : World) (hr0 : raw.size ≤ 9223372036854775807) (hns : NumsAt w w.heap.size ns LA) (hf : NumsFit ns) :
    Calls Try.prog 4 #[.string raw, .slice LA ns.length cap] w fun e w' => e = .returned (.bool true) ∧ Below w.heap.size w w' := by
  go_enter Try.func4, Try.ntmps4
  go_wp2_with fail
  refine (known6_any w).mono ?_
  rintro e w1 ⟨rfl, b1⟩
  have s1 := b1.size
  by_cases hr : raw.size ≤ 300
  · have hr' : ¬ (raw.size : Int) > 300 := by omega
    go_wp2_with fail
    refine (some_any ns LA cap w.heap.size 30 (by omega) w1 s1 (hns.below b1) hf).mono ?_
    rintro e w3 ⟨rfl, b2⟩
    have s3 := b2.size
    have b3 := b1.trans (b2.mono s1)
    clear b1 b2
    have hx := someF_small ns 30 0 ByteArray.empty
    generalize someF ns 30 0 ByteArray.empty = x at *
    have hx' : x.size ≤ 120 := by simpa using hx
    clear hx
    go_wp2_with fail
    go_loopw [6, 7] (fun iv _ wr => ∃ i : Nat, iv = .int .i64 (i : Int) ∧ i ≤ 2 ∧ Below w.heap.size w wr ∧ Row2 wr w3.heap.size raw x) (fun iv _ _ => 2 - (intOf iv).toNat)
    case atStart =>
      exact ⟨0, rfl, by omega, b3.alloc (by omega) _, ⟨by simp, by simp [go_sem], by simp [go_sem]⟩⟩
    case round =>
      obtain ⟨i, rfl, hi, hb, hrow⟩ := hrel
      have sr := hb.size
      by_cases hlt : i < 2
      · have hlt' : (i : Int) < 2 := by omega
        obtain ⟨s, hcell, hsz⟩ := hrow.at 1000 (by omega) (by omega) i hlt
        have Hrow : Hid (Row2 wr w3.heap.size raw x) := hrow
        clear hrow
        go_wp2_with fail
        refine (wordB_any s wr).mono ?_
        rintro e v1 ⟨rfl, c1⟩
        go_wp2_with fail
        refine (rwordB_any s v1 (by omega)).mono ?_
        rintro e v2 ⟨rfl, rfl⟩
        generalize wordB s = q1
        go_wp2_with fail
        refine (tokenB_any s v2).mono ?_
        rintro e v3 ⟨rfl, c3⟩
        replace c3 := below_tr c1 c3
        clear c1
        go_wp2_with fail
        refine (rtokenB_any s v3 (by omega)).mono ?_
        rintro e v4 ⟨rfl, rfl⟩
        generalize tokenB s = q2
        go_wp2_with fail
        refine (sawB_any s v4).mono ?_
        rintro e v5 ⟨rfl, c5⟩
        replace c5 := below_tr c3 c5
        clear c3
        go_wp2_with fail
        refine (rsawB_any s v5 (by omega)).mono ?_
        rintro e v6 ⟨rfl, rfl⟩
        generalize sawB s = q3
        go_wp2_with fail
        refine (fold_any s v6 (by omega)).mono ?_
        rintro e v7 ⟨rfl, c7⟩
        replace c7 := below_tr c5 c7
        clear c5
        go_wp2_with fail
        refine (rfold_any s v7 (by omega)).mono ?_
        rintro e v8 ⟨rfl, c8⟩
        replace c8 := below_tr c7 c8
        clear c7
        generalize foldS s = q4
        go_wp2_with fail
        go_roundw
        case rel =>
          exact ⟨i + 1, by simp, by omega, hb.trans (c8.mono sr), Hrow.out.below c8⟩
        case measure =>
          simp [intOf]
          omega
      · have hlt' : ¬ (i : Int) < 2 := by omega
        go_wp2_with fail
        go_ret
        exact ⟨rfl, hb⟩
  · have hr' : (raw.size : Int) > 300 := by omega
    go_wp2_with fail
    go_ret
    exact ⟨rfl, b1⟩

end Go.Proofs.Yteohbkfogebldaa
