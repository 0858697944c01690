import Derived.Test.YtfoadbnllcfieaaC10
import Derived.Test.YtfoadbnllcfieaaW3
namespace Go.Proofs.Ytfoadbnllcfieaa
open Go.RowKit
set_option linter.unusedVariables false
set_option linter.unusedSimpArgs false

set_option maxRecDepth 100000 in
set_option maxHeartbeats 2000000 in
theorem codeOnly_any (w : World) (A : Option Addr) (cap : Nat) (xs : List UInt8) (hy : ByAt w w.heap.size A xs) (hl : xs.length ≤ cap) (hc : cap ≤ maxLen) :
    Calls Try.prog 8 #[.slice A xs.length cap] w fun e w' => e = .returned (.bool true) ∧ Below w.heap.size w w' := by
  have hm : xs.length ≤ 9223372036854775807 := by unfold maxLen at hc; omega
  go_enter Try.func8, Try.ntmps8
  go_wp2_with fail
  refine (known2_any _).mono ?_
  rintro e w1 ⟨rfl, ho1⟩
  by_cases h600 : 600 < xs.length
  · go_wp2_with fail
    go_ret
    exact ⟨rfl, ho1⟩
  · have HY : Hid (ByAt w1 w.heap.size A xs) := hy.below ho1
    go_wp2_with fail
    refine (codeOne_any w1 A cap xs (HY.out.keep ho1.size (fun _ _ _ => rfl)) hl hc).mono ?_
    rintro e w2 ⟨h1, h2⟩
    cases ht : oneB xs with
    | error er =>
      obtain ⟨rfl, ho2⟩ := h1 er ht
      have her : 1 ≤ er ∧ er ≤ 5 := by
        rw [oneB] at ht
        cases hk : tk 16 0 xs with
        | error e => rw [hk] at ht; injection ht with ht; have := tk_er hk; omega
        | ok y =>
          obtain ⟨a, l, k, ys⟩ := y
          rw [hk] at ht; simp only at ht; split at ht
          · injection ht with ht; omega
          · injection ht
      clear h1 h2 ht
      have hne' : ((er : Int) != 0) = true := by simp; omega
      have hb2 : Below w.heap.size w w2 := ho1.trans (ho2.mono ho1.size)
      have hs2 := hb2.size
      go_wp2_with fail
      go_quiet (fail)
      go_wp2_with fail
      go_ret
      exact ⟨rfl, by first | exact (hb2.alloc hs2 _) | exact (hb2.alloc hs2 _).drew | exact below_drewN (hb2.alloc hs2 _) _⟩
    | ok y =>
      obtain ⟨a, l⟩ := y
      obtain ⟨v, rfl, ho2, hf1, A3, cap3, b3, o3, rfl, hn3, hA3, hl3⟩ := h2 a l ht
      have hxs : xs = putT a l ∧ may a l = true := by
        rw [oneB] at ht
        cases hk : tk 16 0 xs with
        | error e => rw [hk] at ht; injection ht
        | ok y =>
          obtain ⟨a', l', k, ys⟩ := y
          rw [hk] at ht; simp only at ht; split at ht
          · injection ht
          · rename_i hlen
            injection ht with ht; injection ht with e1 e2; subst e1 e2
            obtain ⟨q1, q2, q3⟩ := tk_only hk
            have : ys = [] := List.eq_nil_of_length_eq_zero (by omega)
            rw [this, List.append_nil] at q1
            exact ⟨q1, q2⟩
      have HA3 : Hid (flen l = 0 ∨ A3 = some ⟨b3, o3, none⟩) := hA3
      have HXS : Hid (xs = putT a l ∧ may a l = true) := hxs
      have hb2 : Below w.heap.size w w2 := ho1.trans (ho2.mono ho1.size)
      clear h1 h2 ht hA3 hxs
      have hs2 := hb2.size
      obtain ⟨st, hst⟩ : ∃ st : ByteArray, st = ⟨xs.toArray⟩ := ⟨_, rfl⟩
      have E1 : Hid (∀ w', Below (w2.heap.size + 1) (w2.alloc (.cells #[.int .i64 a.kind, .int .i64 a.n, .string a.s, .slice A3 (flen l) cap3] 30)) w' → Box4 w' w2.heap.size (.int .i64 a.kind) (.int .i64 a.n) (.string a.s) (.slice A3 (flen l) cap3)) := fun w' hb => (Box4.new w2 _ _ _ _ _).below (by simpa using hb)
      have E2 : Hid (∀ w', Below (w2.heap.size + 1) (w2.alloc (.cells #[.int .i64 a.kind, .int .i64 a.n, .string a.s, .slice A3 (flen l) cap3] 30)) w' → (convert 33 9 (.slice A xs.length cap)).run Try.prog w' = .ok (.string st) w') := fun w' hb => by
        rw [hst]
        refine conv_bytes w' w.heap.size A xs cap (HY.out.keep (Nat.le_refl _) (fun b o h => ?_))
        rw [hb.cell (by simp; omega), World.cell?_alloc_past _ _ _ (by omega)]; exact ho2.cell (by simp; have := ho1.size; omega)
      have R1 : Hid (∀ w', Below (w2.heap.size + 1) (w2.alloc (.cells #[.int .i64 a.kind, .int .i64 a.n, .string a.s, .slice A3 (flen l) cap3] 30)) w' → RepV w' w'.heap.size a l (.agg #[.int .i64 a.kind, .int .i64 a.n, .string a.s, .slice A3 (flen l) cap3])) := fun w' hb => by
        have hsz := hb.size
        simp only [World.heap_size_alloc'] at hsz
        refine ⟨hf1, A3, cap3, b3, o3, rfl, hn3, HA3.out, RepF.keep (B := w2.heap.size) (by omega) (fun b o h => ?_) (RepG.toF (fun _ h => h.2) hl3)⟩
        rw [hb.cell (by simp; omega), World.cell?_alloc_past _ _ _ (by omega)]
      have C1 : Hid (∀ w', Below (w2.heap.size + 1) (w2.alloc (.cells #[.int .i64 a.kind, .int .i64 a.n, .string a.s, .slice A3 (flen l) cap3] 30)) w' → Calls Try.prog 26 #[.agg #[.int .i64 a.kind, .int .i64 a.n, .string a.s, .slice A3 (flen l) cap3]] w' fun e w'' => e = .returned (.bool true) ∧ Below (w2.heap.size + 1) (w2.alloc (.cells #[.int .i64 a.kind, .int .i64 a.n, .string a.s, .slice A3 (flen l) cap3] 30)) w'') := fun w' hb => (refMay_any a l _ w'.heap.size w' (Nat.le_refl _) (R1.out w' hb)).mono (fun e w'' h => ⟨by rw [h.1, HXS.out.2], hb.trans (h.2.mono (by have := hb.size; simpa using this))⟩)
      have C2 : Hid (∀ w', Below (w2.heap.size + 1) (w2.alloc (.cells #[.int .i64 a.kind, .int .i64 a.n, .string a.s, .slice A3 (flen l) cap3] 30)) w' → Calls Try.prog 18 #[.agg #[.int .i64 a.kind, .int .i64 a.n, .string a.s, .slice A3 (flen l) cap3]] w' fun e w'' => ∃ u, e = .returned u ∧ (convert 33 9 u).run Try.prog w'' = .ok (.string st) w'' ∧ Below (w2.heap.size + 1) (w2.alloc (.cells #[.int .i64 a.kind, .int .i64 a.n, .string a.s, .slice A3 (flen l) cap3] 30)) w'') := fun w' hb => (codePut_any a l _ w' (R1.out w' hb)).mono (fun e w'' h => by
        obtain ⟨u, h1, h2, h3⟩ := h
        rw [putB, if_pos HXS.out.2, ← HXS.out.1] at h2
        obtain ⟨A9, cap9, rfl, hb9, _⟩ := h2.at
        exact ⟨_, h1, by rw [hst]; exact conv_bytes w'' _ A9 xs cap9 hb9, hb.trans (h3.mono (by have := hb.size; simpa using this))⟩)
      clear R1 HXS HY
      go_wp2_with fail
      have cv0 := E2.out _ (Below.drew (Below.refl _ _))
      go_region_with (first
          | (go_at_call 26; refine (C1.out _ ?_).mono ?_; exact Below.drew (Below.refl _ _); rintro e w8 ⟨rfl, ho8⟩; obtain ⟨x0, x1, x2, x3, x4⟩ := E1.out _ ho8; have cv8 := E2.out _ ho8)
          | (go_at_call 18; refine (C2.out _ ?_).mono ?_; exact ho8; rintro e w9 ⟨u9, rfl, hcv9, ho9⟩; have cv9 := E2.out _ ho9))
      all_goals go_wp2_with fail
      all_goals go_ret
      all_goals exact ⟨ret_bool (by simp), (hb2.alloc hs2 _).trans (ho9.mono (by omega))⟩

end Go.Proofs.Ytfoadbnllcfieaa
