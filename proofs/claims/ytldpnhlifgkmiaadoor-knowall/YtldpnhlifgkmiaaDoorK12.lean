import Derived.Test.YtldpnhlifgkmiaaDoorK11
import Derived.Test.YtldpnhlifgkmiaaDoorKP2
namespace Go.Proofs.YtldpnhlifgkmiaaDoor
open Go.RowKit
set_option linter.unusedVariables false
set_option linter.unusedSimpArgs false

theorem keyH_len {a : Nd} {len : Nat} (h : formedB a.kind a.n a.s len = true) : (keyH a).length ≤ 1100 := by
  have hl : a.s.data.toList.length = a.s.size := by rw [Array.length_toList]; rfl
  have hk : -9223372036854775808 ≤ a.kind ∧ a.kind ≤ 9223372036854775807 ∧ -9223372036854775808 ≤ a.n ∧ a.n ≤ 9223372036854775807 ∧ a.s.size ≤ 1024 := by
    rcases formed_cases h with ⟨h1, h2, h3, h4⟩ | ⟨h1, h2, h3, h4, h5⟩ | ⟨h1, h2, h3, h4⟩ | ⟨h1, h2, h3, h4⟩
    · exact ⟨by omega, by omega, by omega, by omega, h4⟩
    · exact ⟨by omega, by omega, by omega, by omega, by rw [h3]; decide⟩
    · exact ⟨by omega, by omega, by omega, by omega, by rw [h4]; decide⟩
    · exact ⟨by omega, by omega, by omega, by omega, by rw [h4]; decide⟩
  have e1 := Lib.itoa_length_le a.kind hk.1 hk.2.1
  have e2 := Lib.itoa_length_le a.n hk.2.2.1 hk.2.2.2.1
  have e3 := Lib.itoa_length_le (a.s.size : Int) (by omega) (by omega)
  unfold keyH numB
  split
  · simp only [List.length_append, List.length_cons, List.length_nil, hl]; omega
  · split
    · simp only [List.length_append, List.length_cons, List.length_nil]; omega
    · simp only [List.length_append, List.length_cons, List.length_nil]; omega

theorem mayF_key : ∀ (f : Fo) (d c : Int), (mayF f d c).1 = true → ((keyF f).length : Int) ≤ 1100 * ((mayF f d c).2 - c)
  | .nil, _, _, _ => by simp [keyF, mayF]
  | .node x y a l r, d, c, h => by
    rw [mayF] at h ⊢
    by_cases hm : mayB a (flen l) d c = true
    · rw [if_pos hm] at h ⊢
      by_cases hl : (mayF l (d + 1) (c + 1)).1 = true
      · rw [if_pos hl] at h ⊢
        have g := keyH_len (mayB_of hm).2.2
        have p2 := mayF_key l _ _ hl
        have q2 := mayF_key r _ _ h
        rw [keyF, List.length_append, List.length_append]
        simp only [Int.natCast_add]
        omega
      · rw [if_neg hl] at h; simp at h
    · rw [if_neg hm] at h; simp at h

theorem may_key {a : Nd} {l : Fo} (h : may a l = true) : (keyT a l).length ≤ 1000000 := by
  unfold may at h
  have hle := mayT_le a l 1 0 (by omega) h
  rw [mayT_node a l 1 0 0 0] at h hle
  have h3 := mayF_key _ _ _ h
  rw [keyF_node] at h3
  simp only [keyF, List.append_nil] at h3
  omega

theorem dmay_of : ∀ (f : Fo) (d c : Int), 1 ≤ d → 0 ≤ c → (mayF f d c).1 = true → DMay f
  | .nil, _, _, _, _, _ => trivial
  | .node x y a l r, d, c, hd, hc, h => by
    have h0 := h
    rw [mayF] at h
    by_cases hm : mayB a (flen l) d c = true
    · rw [if_pos hm] at h
      by_cases hl : (mayF l (d + 1) (c + 1)).1 = true
      · rw [if_pos hl] at h
        have hone : (mayF (.node 0 0 a l .nil) d c).1 = true := by rw [mayF, if_pos hm, if_pos hl]; rfl
        have hmay : may a l = true := by
          have := (mayF_mono (.node 0 0 a l .nil) d 1 c 0 hd hc hone).1
          unfold may
          rw [mayT_node a l 1 0 0 0]; exact this
        have hge := mayF_ge l (d + 1) (c + 1)
        exact ⟨hmay, may_key hmay, dmay_of l (d + 1) (c + 1) (by omega) (by omega) hl, dmay_of r d _ hd (by omega) h⟩
      · rw [if_neg hl] at h; simp at h
    · rw [if_neg hm] at h; simp at h

theorem may_dmay {a : Nd} {l : Fo} (h : may a l = true) : may a l = true ∧ (keyT a l).length ≤ 1000000 ∧ DMay l := by
  have h1 := h
  unfold may at h1
  rw [mayT_node a l 1 0 0 0] at h1
  exact ⟨h, may_key h, (dmay_of _ 1 0 (by omega) (by omega) h1).2.2.1⟩

end Go.Proofs.YtldpnhlifgkmiaaDoor
