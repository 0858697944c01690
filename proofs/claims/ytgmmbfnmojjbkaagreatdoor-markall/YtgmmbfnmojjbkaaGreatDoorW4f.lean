import Derived.Test.YtgmmbfnmojjbkaaGreatDoorW2
namespace Go.Proofs.YtgmmbfnmojjbkaaGreatDoor
open Go.RowKit
set_option linter.unusedVariables false
set_option linter.unusedSimpArgs false

/-- What law1.Few leaves behind a row of terms. -/
def fewF : Fo → Int → Int
  | .nil, left => left
  | .node _ _ a l r, left => if left < 0 then left else fewF r (fewF l (left - 1 - (a.s.size : Int)))

def fewT (a : Nd) (l : Fo) (left : Int) : Int := fewF l (left - 1 - (a.s.size : Int))

theorem fewF_le : ∀ (f : Fo) (left : Int), fewF f left ≤ left
  | .nil, _ => Int.le_refl _
  | .node _ _ a l r, left => by
    rw [fewF]; split
    · omega
    · have h1 := fewF_le l (left - 1 - (a.s.size : Int)); have h2 := fewF_le r (fewF l (left - 1 - (a.s.size : Int))); omega

def FewOk (a : Nd) (l : Fo) : Prop := ∀ (v : Value) (B : Nat) (left : Int) (w : World), RepV w B a l v → B ≤ w.heap.size → 0 ≤ left → left ≤ 6000 →
    Calls Tryz.prog 8 #[v, .int .i64 left] w fun e w' => e = .returned (.int .i64 (fewT a l left)) ∧ Below w.heap.size w w'

set_option maxHeartbeats 2000000 in
theorem few_step (a : Nd) (l : Fo) (ih : AllF FewOk l) : FewOk a l := by
  rintro v B left w ⟨hf, A, cap, b, o, rfl, hn, hA, hl⟩ hB h0 h1
  have HA : Hid (flen l = 0 ∨ A = some ⟨b, o, none⟩) := hA
  clear hA
  have hs := hf.2.2.2.2
  unfold maxLen at hs
  go_enter Tryz.func8, Tryz.ntmps8
  go_wp2_with fail
  go_loopw [1, 5] (fun lv iv wr => ∃ (i : Nat) (g : Fo) (L : Int), iv = .int .i64 i ∧ lv = .int .i64 L ∧ i + flen g = flen l ∧ AllF FewOk g ∧ RepF wr B g b (o + i * 4) ∧ Below w.heap.size w wr ∧ w.heap.size < wr.heap.size ∧
      wr.cell? ⟨w.heap.size, 3, none⟩ = some (.slice A (flen l) cap) ∧ L ≤ 6000 ∧ fewT a l left = fewF g L) (fun _ iv _ => flen l - (intOf iv).toNat)
  case atStart =>
    refine ⟨0, l, left - 1 - (a.s.size : Int), rfl, rfl, by simp, ih, ?_, (by repeat (first | exact Below.refl _ _ | assumption | refine below_drewN ?_ _ | refine Below.drew ?_ | refine Below.alloc ?_ (by simp <;> omega) _ | refine Below.setCell ?_ (by simp <;> omega) _)), by simp, by simp [go_sem], by omega, rfl⟩
    rw [show o + 0 * 4 = o from by omega]
    exact RepF.keep (Nat.le_refl _) (fun b' o' hb' => by simp [go_sem, Nat.lt_of_lt_of_le hb' hB]) hl
  case round =>
    obtain ⟨i, g, L, rfl, rfl, hi, hg, hrg, hbl, hsz, hbx, hL1, hL⟩ := hrel
    cases g with
    | nil =>
      simp only [flen] at hi
      have HL : Hid (fewT a l left = L) := by show fewT a l left = L; rw [hL, fewF]
      clear hL
      have hlt : decide ((i : Int) < (flen l : Int)) = false := by simp; omega
      go_wp2_with fail
      go_ret
      exact ⟨ret_int HL.out.symm, hbl⟩
    | node b1 o1 a1 l1 r1 =>
      simp only [flen] at hi
      have HL : Hid (fewT a l left = fewF (.node b1 o1 a1 l1 r1) L) := hL
      clear hL
      by_cases hL0 : L < 0
      · have hlt : decide (0 ≤ L) = false := by simp; omega
        go_wp2_with fail
        go_ret
        exact ⟨ret_int (by rw [HL.out, fewF, if_pos (by omega)]), hbl⟩
      · obtain ⟨hb1, hf1, e0, e1, e2, ⟨A1, cap1, b2, o2, e3, hn1, hA1, hl1⟩, hr1⟩ := hrg
        obtain ⟨hw1, hgr⟩ := hg
        obtain rfl : A = some ⟨b, o, none⟩ := by rcases HA.out with h | h; omega; exact h
        have HA1 : Hid (flen l1 = 0 ∨ A1 = some ⟨b2, o2, none⟩) := hA1
        clear hA1
        go_wp2_with fail
        refine (hw1 _ B L wr ⟨hf1, A1, cap1, b2, o2, rfl, hn1, HA1.out, hl1⟩ (by have := hbl.size; omega) (by omega) hL1).mono ?_
        rintro e w2 ⟨rfl, ho2⟩
        have hle : fewT a1 l1 L ≤ 6000 := by have := fewF_le l1 (L - 1 - (a1.s.size : Int)); unfold fewT; omega
        go_wp2_with fail
        go_roundw
        case rel =>
          refine ⟨i + 1, r1, fewT a1 l1 L, by go_num, rfl, by omega, hgr, ?_, hbl.trans (ho2.mono (by omega)), by have := ho2.size; omega, ?_, hle, ?_⟩
          · rw [show o + (i + 1) * 4 = o + i * 4 + 4 from by omega]
            exact RepF.keep (Nat.le_refl _) (fun b' o' hb' => ho2.cell (by simp; have := hbl.size; omega)) hr1
          · rw [ho2.cell (by simp; omega)]; exact hbx
          · rw [HL.out, fewF, if_neg (by omega)]; rfl
        case measure => simp [intOf]; omega

theorem few_all : ∀ f : Fo, AllF FewOk f
  | .nil => trivial
  | .node _ _ a l r => ⟨few_step a l (few_all l), few_all r⟩

theorem few_any (a : Nd) (l : Fo) : FewOk a l := few_step a l (few_all l)

end Go.Proofs.YtgmmbfnmojjbkaaGreatDoor
