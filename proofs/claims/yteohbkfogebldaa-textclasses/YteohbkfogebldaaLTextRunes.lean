import Derived.Test.YteohbkfogebldaaT7
namespace Go.Proofs.Yteohbkfogebldaa
open Go.RowKit
set_option linter.unusedVariables false
set_option linter.unusedSimpArgs false

/-- Whether a text is a name. -/
def nameB (s : ByteArray) : Bool := decide (1 ≤ runesF s s.size 0 ∧ runesF s s.size 0 ≤ 24) && eachF namedB s s.size 0

theorem nameB_any (s : ByteArray) (w : World) (hs : s.size ≤ 9223372036854775807) :
    Calls Try.prog 14 #[.string s] w fun e w' => e = .returned (.bool (nameB s)) ∧ Below w.heap.size w w' := name_any s w hs
theorem rnameB_any (s : ByteArray) (w : World) (hs : s.size ≤ 9223372036854775807) :
    Calls Try.prog 15 #[.string s] w fun e w' => e = .returned (.bool (nameB s)) ∧ w' = w := rname_any s w hs

/-- Three texts stand in a row of their own. -/
def Row3 (w : World) (g : Nat) (a b c : ByteArray) : Prop :=
  g < w.heap.size ∧ w.cell? ⟨g, 0, none⟩ = some (.string a) ∧ w.cell? ⟨g, 1, none⟩ = some (.string b) ∧ w.cell? ⟨g, 2, none⟩ = some (.string c)

theorem Row3.below {w w' : World} {g : Nat} {a b c : ByteArray} (h : Row3 w g a b c) (hb : Below w.heap.size w w') : Row3 w' g a b c :=
  ⟨Nat.lt_of_lt_of_le h.1 hb.size, by rw [hb.cell h.1]; exact h.2.1, by rw [hb.cell h.1]; exact h.2.2.1, by rw [hb.cell h.1]; exact h.2.2.2⟩

theorem Row3.at {w : World} {g : Nat} {a b c : ByteArray} (h : Row3 w g a b c) (M : Nat) (ha : a.size ≤ M) (hb : b.size ≤ M) (hc : c.size ≤ M) (i : Nat) (hi : i < 3) :
    ∃ s : ByteArray, w.cell? ⟨g, i, none⟩ = some (.string s) ∧ s.size ≤ M := by
  rcases (show i = 0 ∨ i = 1 ∨ i = 2 by omega) with rfl | rfl | rfl
  · exact ⟨a, h.2.1, ha⟩
  · exact ⟨b, h.2.2.1, hb⟩
  · exact ⟨c, h.2.2.2, hc⟩

set_option maxRecDepth 20000 in
set_option maxHeartbeats 8000000 in
theorem textRunes_any (raw : ByteArray) (ns : List Int) (LA : Option Addr) (cap : Nat) (n : Int) (w : World) (hr0 : raw.size ≤ 9223372036854775807) (hns : NumsAt w w.heap.size ns LA) (hf : NumsFit ns) (h1 : -9223372036854775808 ≤ n) (h2 : n ≤ 9223372036854775807) :
    Calls Try.prog 3 #[.string raw, .slice LA ns.length cap, .int .i64 n] w fun e w' => e = .returned (.bool true) ∧ Below w.heap.size w w' := by
  go_enter Try.func3, Try.ntmps3
  go_wp2_with fail
  refine (known6_any w).mono ?_
  rintro e w1 ⟨rfl, b1⟩
  have s1 := b1.size
  by_cases hr : raw.size ≤ 200
  · have hr' : ¬ (raw.size : Int) > 200 := by omega
    go_wp2_with fail
    refine (some_any ns LA cap w.heap.size 30 (by omega) w1 s1 (hns.below b1) hf).mono ?_
    rintro e w2 ⟨rfl, b2⟩
    have s2 := b2.size
    replace b2 := b1.trans (b2.mono s1)
    clear b1
    go_wp2_with fail
    refine (some_any ns LA cap w.heap.size 30 (by omega) w2 (by omega) (hns.below b2) hf).mono ?_
    rintro e w3 ⟨rfl, b3⟩
    have s3 := b3.size
    replace b3 := b2.trans (b3.mono (by omega))
    clear b2
    have hx := someF_small ns 30 0 ByteArray.empty
    generalize someF ns 30 0 ByteArray.empty = x at *
    have hx' : x.size ≤ 120 := by simpa using hx
    clear hx
    have hlen : x.size + raw.size ≤ 9223372036854775807 := by omega
    go_wp2_with fail
    go_loopw [8, 9] (fun iv _ wr => ∃ i : Nat, iv = .int .i64 (i : Int) ∧ i ≤ 3 ∧ Below w.heap.size w wr ∧ Row3 wr w3.heap.size raw x (x ++ raw)) (fun iv _ _ => 3 - (intOf iv).toNat)
    case atStart =>
      exact ⟨0, rfl, by omega, b3.alloc (by omega) _, ⟨by simp, by simp [go_sem], by simp [go_sem], by simp [go_sem]⟩⟩
    case round =>
      obtain ⟨i, rfl, hi, hb, hrow⟩ := hrel
      have sr := hb.size
      by_cases hlt : i < 3
      · have hlt' : (i : Int) < 3 := by omega
        obtain ⟨s, hcell, hsz⟩ := hrow.at 1000 (by omega) (by omega) (by simp only [ByteArray.size_append]; omega) i hlt
        have Hrow : Hid (Row3 wr w3.heap.size raw x (x ++ raw)) := hrow
        clear hrow
        go_wp2_with fail
        refine (valid_any s wr).mono ?_
        rintro e v1 ⟨rfl, c1⟩
        go_wp2_with fail
        refine (rvalid_any s v1 (by omega)).mono ?_
        rintro e v2 ⟨rfl, rfl⟩
        generalize eachF knownB s s.size 0 = q1
        go_wp2_with fail
        refine (runes_any s v2 (by omega)).mono ?_
        rintro e v3 ⟨rfl, c3⟩
        replace c3 := below_tr c1 c3
        clear c1
        go_wp2_with fail
        refine (rrunes_any s v3 (by omega)).mono ?_
        rintro e v4 ⟨rfl, rfl⟩
        generalize ((runesF s s.size 0 : Nat) : Int) = q2
        go_wp2_with fail
        refine (nameB_any s v4 (by omega)).mono ?_
        rintro e v5 ⟨rfl, c5⟩
        replace c5 := below_tr c3 c5
        clear c3
        go_wp2_with fail
        refine (rnameB_any s v5 (by omega)).mono ?_
        rintro e v6 ⟨rfl, rfl⟩
        generalize nameB s = q3
        go_wp2_with fail
        refine (clip_any s n v6 (by omega) h1 h2).mono ?_
        rintro e v7 ⟨rfl, c7⟩
        replace c7 := below_tr c5 c7
        clear c5
        go_wp2_with fail
        refine (rclip_any s n v7 (by omega) h1 h2).mono ?_
        rintro e v8 ⟨rfl, rfl⟩
        generalize s.extract 0 (clipF s s.size 0 n.toNat) = q4
        go_wp2_with fail
        refine (within6_any n 40 _ (by omega) (by omega) h1 h2).mono ?_
        rintro e v9 ⟨rfl, rfl⟩
        have e1 := Int.emod_nonneg n (show (40 : Int) ≠ 0 by omega)
        have e2 := Int.emod_lt_of_pos n (show (0 : Int) < 40 by omega)
        generalize hm0 : n % 40 = m at *
        have Hm : Hid (n % 40 = m) := hm0
        clear hm0
        go_wp2_with fail
        refine (clip_any s m v9 (by omega) (by omega) (by omega)).mono ?_
        rintro e va ⟨rfl, ca⟩
        replace ca := below_tr c7 ca
        clear c7
        go_wp2_with fail
        refine (within6_any n 40 _ (by omega) (by omega) h1 h2).mono ?_
        rintro e vb ⟨rfl, rfl⟩
        rw [Hm.out]
        go_wp2_with fail
        refine (rclip_any s m vb (by omega) (by omega) (by omega)).mono ?_
        rintro e vc ⟨rfl, rfl⟩
        generalize s.extract 0 (clipF s s.size 0 m.toNat) = q5
        go_wp2_with fail
        go_roundw
        case rel =>
          exact ⟨i + 1, by simp, by omega, hb.trans (ca.mono sr), Hrow.out.below ca⟩
        case measure =>
          simp [intOf]
          omega
      · have hlt' : ¬ (i : Int) < 3 := by omega
        go_wp2_with fail
        go_ret
        exact ⟨rfl, hb⟩
  · have hr' : (raw.size : Int) > 200 := by omega
    go_wp2_with fail
    go_ret
    exact ⟨rfl, b1⟩

end Go.Proofs.Yteohbkfogebldaa
