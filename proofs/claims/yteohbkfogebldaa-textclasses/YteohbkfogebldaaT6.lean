import Derived.Test.YteohbkfogebldaaT5
namespace Go.Proofs.Yteohbkfogebldaa
open Go.RowKit
set_option linter.unusedVariables false
set_option linter.unusedSimpArgs false

theorem below_tr {w w1 w2 : World} (h : Below w.heap.size w w1) (k : Below w1.heap.size w1 w2) : Below w.heap.size w w2 := h.trans (k.mono h.size)

theorem NumsAt.below {w w' : World} {B : Nat} {ns : List Int} {LA : Option Addr} (h : NumsAt w B ns LA) (hb : Below B w w') : NumsAt w' B ns LA := by
  rcases h with h | ⟨lb, lo, e, hl, hc⟩
  · exact .inl h
  · exact .inr ⟨lb, lo, e, hl, fun i hi => by rw [hb.cell (by simpa using hl)]; exact hc i hi⟩

set_option maxHeartbeats 2000000 in
theorem rname_any (s : ByteArray) (w : World) (hs : s.size ≤ 9223372036854775807) :
    Calls Try.prog 15 #[.string s] w fun e w' => e = .returned (.bool (decide (1 ≤ runesF s s.size 0 ∧ runesF s s.size 0 ≤ 24) && eachF namedB s s.size 0)) ∧ w' = w := by
  have hv : eachF knownB s s.size 0 = false → eachF namedB s s.size 0 = false := by
    have : ∀ f pos, eachF knownB s f pos = false → eachF namedB s f pos = false := by
      intro f
      induction f with
      | zero => intro pos h; simp [eachF] at h
      | succ f ih =>
        intro pos h
        rw [eachF] at h ⊢
        split at h
        · rename_i hp
          rw [if_pos hp]
          rw [Bool.and_eq_false_iff] at h ⊢
          rcases h with h | h
          · left; simp [knownB] at h; simp [namedB, h]
          · right; exact ih _ h
        · simp at h
    exact this _ _
  have Hv : Hid (eachF knownB s s.size 0 = false → eachF namedB s s.size 0 = false) := hv
  clear hv
  go_enter Try.func15, Try.ntmps15
  go_wp2_with fail
  refine (rvalid_any s w hs).mono ?_
  rintro e w1 ⟨rfl, rfl⟩
  by_cases hk : eachF knownB s s.size 0 = true
  · rw [hk]
    have Hk : Hid (eachF knownB s s.size 0 = true) := hk
    clear hk
    go_wp2_with fail
    refine (rrunes_any s _ hs).mono ?_
    rintro e w2 ⟨rfl, rfl⟩
    by_cases h1 : 1 ≤ runesF s s.size 0
    · by_cases h2 : runesF s s.size 0 ≤ 24
      · have Hn : Hid (1 ≤ runesF s s.size 0 ∧ runesF s s.size 0 ≤ 24) := ⟨h1, h2⟩
        have g1 : ¬ ((runesF s s.size 0 : Nat) : Int) < 1 := by omega
        have g2 : ¬ ((runesF s s.size 0 : Nat) : Int) > 24 := by omega
        clear h1 h2
        go_wp2_with fail
        refine (rrunes_any s _ hs).mono ?_
        rintro e w2 ⟨rfl, rfl⟩
        go_wp2_with fail
        go_loopw [3, 4, 5] (fun iv _ _ wr => ∃ (pos fuel : Nat), iv = .int .i64 (pos : Int) ∧ wr = w2 ∧ eachF knownB s fuel pos = true ∧ eachF namedB s fuel pos = eachF namedB s s.size 0 ∧ s.size ≤ pos + fuel ∧ pos ≤ s.size) (fun iv _ _ _ => s.size - (intOf iv).toNat)
        case atStart =>
          exact ⟨0, s.size, rfl, rfl, Hk.out, rfl, by omega, by omega⟩
        case round =>
          obtain ⟨pos, fuel, rfl, rfl, hkn, hacc, hfu, hps⟩ := hrel
          have Hacc : Hid (eachF namedB s fuel pos = eachF namedB s s.size 0) := hacc
          have Hkn : Hid (eachF knownB s fuel pos = true) := hkn
          clear hacc hkn
          by_cases hp : pos < s.size
          · have hp' : (pos : Int) < (s.size : Int) := by omega
            have hwd := width_pos s pos hp
            have hwi := width_in s pos hp
            obtain ⟨f, rfl⟩ : ∃ f, fuel = f + 1 := ⟨fuel - 1, by omega⟩
            have hkn := Hkn.out
            rw [eachF, if_pos hp, Bool.and_eq_true] at hkn
            obtain ⟨k1, k2⟩ := hkn
            have K1 : Hid (knownB ((Utf8.decode s pos).1 : Int) = true) := k1
            have K2 : Hid (eachF knownB s f (pos + (Utf8.decode s pos).2) = true) := k2
            have A1 : Hid (eachF namedB s s.size 0 = (namedB ((Utf8.decode s pos).1 : Int) && eachF namedB s f (pos + (Utf8.decode s pos).2))) := by
              have := Hacc.out; rw [eachF, if_pos hp] at this; exact this.symm
            clear k1 k2 Hkn Hacc
            by_cases hr : ((Utf8.decode s pos).1 : Int) < 33 ∨ ((127 ≤ ((Utf8.decode s pos).1 : Int)) ∧ ((Utf8.decode s pos).1 : Int) ≤ 160)
            · have Hr : Hid (((Utf8.decode s pos).1 : Int) < 33 ∨ ((127 ≤ ((Utf8.decode s pos).1 : Int)) ∧ ((Utf8.decode s pos).1 : Int) ≤ 160)) := hr
              go_wp2_with (go_at_call 31; refine (firstAt s pos _ hs hp).mono ?_; rintro e W1 ⟨rfl, rfl⟩)
              all_goals first
                | (go_ret
                   exact ⟨ret_bool (by rw [A1.out, show namedB ((Utf8.decode s pos).1 : Int) = false by have := Hr.out; simp [namedB]; omega]; simp), rfl⟩)
                | (exfalso; have := Hr.out; omega)
            · have Hr : Hid (¬ (((Utf8.decode s pos).1 : Int) < 33 ∨ ((127 ≤ ((Utf8.decode s pos).1 : Int)) ∧ ((Utf8.decode s pos).1 : Int) ≤ 160))) := hr
              have hnm : Hid (namedB ((Utf8.decode s pos).1 : Int) = true) := by
                have k := K1.out; simp only [knownB, decide_eq_true_eq] at k; show namedB _ = true; simp only [namedB, decide_eq_true_eq]; omega
              go_wp2_with (go_at_call 31; refine (firstAt s pos _ hs hp).mono ?_; rintro e W1 ⟨rfl, rfl⟩)
              all_goals try (exfalso; have := Hr.out; omega)
              all_goals go_roundw
              all_goals first
                | exact ⟨pos + (Utf8.decode s pos).2, f, by simp, by trivial, K2.out, by rw [A1.out, hnm.out]; simp, by omega, by omega⟩
                | (simp [intOf]; omega)
          · have hp' : ¬ (pos : Int) < (s.size : Int) := by omega
            go_wp2_with fail
            go_ret
            exact ⟨ret_bool (by have := Hacc.out; rw [eachF_end _ _ _ _ hp] at this; rw [← this]; simp [Hn.out]), rfl⟩
      · have g1 : ¬ ((runesF s s.size 0 : Nat) : Int) < 1 := by omega
        have g2 : ((runesF s s.size 0 : Nat) : Int) > 24 := by omega
        go_wp2_with fail
        refine (rrunes_any s _ hs).mono ?_
        rintro e w2 ⟨rfl, rfl⟩
        go_wp2_with fail
        go_ret
        exact ⟨ret_bool (by simp [h2]), rfl⟩
    · have g1 : ((runesF s s.size 0 : Nat) : Int) < 1 := by omega
      go_wp2_with fail
      go_ret
      exact ⟨ret_bool (by simp [h1]), rfl⟩
  · have hk' : eachF knownB s s.size 0 = false := by simpa using hk
    rw [hk']
    go_wp2_with fail
    go_ret
    exact ⟨ret_bool (by rw [Hv.out hk']; simp), rfl⟩

end Go.Proofs.Yteohbkfogebldaa
