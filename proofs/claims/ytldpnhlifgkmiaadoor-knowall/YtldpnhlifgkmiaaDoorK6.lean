import Derived.Test.YtldpnhlifgkmiaaDoorK5
import Derived.Test.YtldpnhlifgkmiaaDoorW29
import Derived.Test.YtldpnhlifgkmiaaDoorW14
namespace Go.Proofs.YtldpnhlifgkmiaaDoor
open Go.RowKit
set_option linter.unusedVariables false
set_option linter.unusedSimpArgs false

theorem AllF.drop {P : Nd → Fo → Prop} : ∀ (n : Nat) {f : Fo}, AllF P f → AllF P (dropFo n f)
  | 0, _, h => h
  | _ + 1, .nil, _ => trivial
  | n + 1, .node _ _ _ _ r, h => AllF.drop n h.2

theorem RepF.drop {w : World} {B : Nat} : ∀ (n : Nat) {f : Fo} {b o : Nat}, RepF w B f b o → RepF w B (dropFo n f) b (o + n * 4)
  | 0, f, b, o, h => by simpa [dropFo] using h
  | n + 1, .nil, _, _, _ => trivial
  | n + 1, .node _ _ _ _ r, b, o, h => by
    have := RepF.drop n h.2.2.2.2.2.2
    rw [dropFo, show o + (n + 1) * 4 = o + 4 + n * 4 from by omega]; exact this

def WithinEnd (w : World) (B : Nat) (a : Nd) (l : Fo) (e : Ending) (w' : World) : Prop :=
  Below w.heap.size w w' ∧ ∃ A' c' b' o', e = .returned (.slice A' (flen (dropFo (skipOf a.kind) l)) c') ∧ (flen (dropFo (skipOf a.kind) l) = 0 ∨ A' = some ⟨b', o', none⟩) ∧ RepF w' B (dropFo (skipOf a.kind) l) b' o'

set_option maxRecDepth 20000 in
set_option maxHeartbeats 1000000 in
/-- The kids that come out. -/
theorem within_anyK (a : Nd) (l : Fo) (v : Value) (w : World) (B : Nat) (hv : RepV w B a l v) (hB : B ≤ w.heap.size) (hk : (flen l : Int) = kidsOf a.kind) :
    Calls Tryd.prog 43 #[v] w fun e w' => WithinEnd w B a l e w' := by
  obtain ⟨hf, A, cap, b, o, rfl, hn, hA, hr⟩ := hv
  have HA : Hid (flen l = 0 ∨ A = some ⟨b, o, none⟩) := hA
  have hba : Below w.heap.size w (w.alloc (.cells #[.int .i64 a.kind, .int .i64 a.n, .string a.s, .slice A (flen l) cap] 29)) := Below.alloc (Below.refl _ _) (Nat.le_refl _) _
  have HR : Hid (RepF (w.alloc (.cells #[.int .i64 a.kind, .int .i64 a.n, .string a.s, .slice A (flen l) cap] 29)) B l b o) := hr.below (hba.mono hB)
  have hk2 := kidsOf_le a.kind
  clear hA hr
  go_enter Tryd.func43, Tryd.ntmps43
  by_cases h7 : a.kind = 7
  · have e7 : skipOf a.kind = 0 := by rw [skipOf, if_pos h7]
    have k7 : (a.kind == 7) = true := by simp [h7]
    have E7 : Hid (skipOf a.kind = 0) := e7
    clear h7 hk hk2 e7
    go_wp2_with fail
    go_ret
    unfold WithinEnd
    rw [E7.out]
    exact ⟨hba, A, cap, b, o, rfl, HA.out, HR.out⟩
  · by_cases h6 : a.kind = 6
    · have e6 : skipOf a.kind = 1 := by rw [skipOf, if_neg h7, if_pos h6]
      have hl2 : flen l = 2 := by rw [h6] at hk; simp [kidsOf] at hk; omega
      have k7 : (a.kind == 7) = false := by simp [h7]
      have k6 : (a.kind == 6) = true := by simp [h6]
      obtain rfl : A = some ⟨b, o, none⟩ := by rcases HA.out with h | h; omega; exact h
      have hc2 : 2 ≤ cap := by omega
      have hc1 : (cap == 1) = false := by simp; omega
      have hf1 : flen (dropFo (skipOf a.kind) l) = 1 := by rw [flen_drop, e6]; omega
      have HL : Hid (flen l = 2) := hl2
      have HF1 : Hid (flen (dropFo (skipOf a.kind) l) = 1) := hf1
      rw [HL.out] at HR hba ⊢
      have E6 : Hid (skipOf a.kind = 1) := e6
      clear h7 h6 hk hk2 hl2 hf1 hn e6
      go_wp2_with fail
      go_ret
      refine ⟨hba, some ⟨b, o + 4, none⟩, cap - 1, b, o + 4, by rw [HF1.out]; rfl, .inr rfl, ?_⟩
      rw [E6.out]
      exact RepF.drop 1 HR.out
    · have e3 : skipOf a.kind = 3 := by rw [skipOf, if_neg h7, if_neg h6]
      have k7 : (a.kind == 7) = false := by simp [h7]
      have k6 : (a.kind == 6) = false := by simp [h6]
      have h0 : flen (dropFo (skipOf a.kind) l) = 0 := by rw [flen_drop, e3]; omega
      have H0 : Hid (flen (dropFo (skipOf a.kind) l) = 0) := h0
      clear h7 h6 hk hk2 h0 e3
      go_wp2_with fail
      go_ret
      refine ⟨hba, none, 0, 0, 0, by rw [H0.out]; rfl, .inl H0.out, ?_⟩
      have h0 := H0.out
      cases hd : dropFo (skipOf a.kind) l with
      | nil => trivial
      | node => rw [hd] at h0; simp [flen] at h0

end Go.Proofs.YtldpnhlifgkmiaaDoor
