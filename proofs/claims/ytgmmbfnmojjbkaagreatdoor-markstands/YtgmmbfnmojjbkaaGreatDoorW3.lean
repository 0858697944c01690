import Derived.Test.YtgmmbfnmojjbkaaGreatDoorW2
namespace Go.Proofs.YtgmmbfnmojjbkaaGreatDoor
open Go.RowKit
set_option linter.unusedVariables false
set_option linter.unusedSimpArgs false

/-- What ref.walk answers. -/
def leftT (a : Nd) (l : Fo) (deep left : Int) : Int := if (mayT a l deep (64 - left)).1 then 64 - (mayT a l deep (64 - left)).2 else -1

def WalkRef (a : Nd) (l : Fo) : Prop := ∀ (v : Value) (B : Nat) (deep left : Int) (w : World), RepV w B a l v → B ≤ w.heap.size → 0 ≤ left → left ≤ 64 → 0 ≤ deep → deep ≤ 17 →
    Calls Tryz.prog 63 #[v, .int .i64 deep, .int .i64 left] w fun e w' =>
      e = .returned (.int .i64 (leftT a l deep left)) ∧ Below w.heap.size w w'

theorem formed_iff (k n : Int) (s : ByteArray) (len : Nat) : formedB k n s len = true ↔
    (kidsOf k != (len : Int)) = false ∧ (((k != 1) = false ∧ decide (1024 < (s.size : Int)) = false ∧ (n != 0) = false) ∨ ((k != 1) = true ∧ s.toList.isEmpty = true ∧ (k != 2) = false ∧ decide (n < 0) = false ∧ decide (1073741824 < n) = false) ∨
      ((k != 1) = true ∧ s.toList.isEmpty = true ∧ (k != 2) = true ∧ (n != 0) = false)) := by
  have hk : (kidsOf k != (len : Int)) = !decide ((len : Int) = kidsOf k) := by
    by_cases h : (len : Int) = kidsOf k
    · rw [h]; simp
    · simp [h]; omega
  rw [hk, formedB]
  generalize s.toList.isEmpty = t
  by_cases h1 : k = 1
  · subst h1; simp; omega
  · by_cases h2 : k = 2
    · subst h2; cases t <;> simp <;> omega
    · cases t <;> simp [h1, h2]

set_option maxHeartbeats 2000000 in
theorem walkRef_no (a : Nd) (l : Fo) (v : Value) (B : Nat) (deep left : Int) (w : World) (hr : RepV w B a l v) (hB : B ≤ w.heap.size) (h0 : 0 ≤ left) (h1 : left ≤ 64) (hd0 : 0 ≤ deep) (hd1 : deep ≤ 17)
    (hm : mayB a (flen l) deep (64 - left) = false) :
    Calls Tryz.prog 63 #[v, .int .i64 deep, .int .i64 left] w fun e w' =>
      e = .returned (.int .i64 (-1)) ∧ Below w.heap.size w w' := by
  obtain ⟨hf, A, cap, b, o, rfl, hn, hA, hl⟩ := hr
  have HA : Hid (flen l = 0 ∨ A = some ⟨b, o, none⟩) := hA
  have Hm : Hid (mayB a (flen l) deep (64 - left) = false) := hm
  clear hA hm
  have hs := hf.2.2.2.2
  unfold maxLen at hs
  by_cases c1 : left < 1
  · go_enter Tryz.func63, Tryz.ntmps63; go_wp2_with fail; go_quiet ((go_at_call 81; exact Calls.quiet_of_same (kids_any _ _))); go_wp2_with fail; go_ret; exact ⟨rfl, (by repeat (first | exact Below.refl _ _ | assumption | refine below_drewN ?_ _ | refine Below.drew ?_ | refine Below.alloc ?_ (by simp <;> omega) _ | refine Below.setCell ?_ (by simp <;> omega) _))⟩
  have c1' : decide (left < 1) = false := by simpa using c1
  by_cases c2 : 16 < deep
  · go_enter Tryz.func63, Tryz.ntmps63; go_wp2_with fail; go_quiet ((go_at_call 81; exact Calls.quiet_of_same (kids_any _ _))); go_wp2_with fail; go_ret; exact ⟨rfl, (by repeat (first | exact Below.refl _ _ | assumption | refine below_drewN ?_ _ | refine Below.drew ?_ | refine Below.alloc ?_ (by simp <;> omega) _ | refine Below.setCell ?_ (by simp <;> omega) _))⟩
  have c2' : decide (16 < deep) = false := by simpa using c2
  cases c3 : (kidsOf a.kind != (flen l : Int)) with
  | true => go_enter Tryz.func63, Tryz.ntmps63; go_wp2_with fail; go_quiet ((go_at_call 81; exact Calls.quiet_of_same (kids_any _ _))); go_wp2_with fail; go_ret; exact ⟨rfl, (by repeat (first | exact Below.refl _ _ | assumption | refine below_drewN ?_ _ | refine Below.drew ?_ | refine Below.alloc ?_ (by simp <;> omega) _ | refine Below.setCell ?_ (by simp <;> omega) _))⟩
  | false =>
  cases k1 : (a.kind != 1) with
  | true =>
    cases k2 : a.s.toList.isEmpty with
    | false => go_enter Tryz.func63, Tryz.ntmps63; go_wp2_with fail; go_quiet ((go_at_call 81; exact Calls.quiet_of_same (kids_any _ _))); go_wp2_with fail; go_ret; exact ⟨rfl, (by repeat (first | exact Below.refl _ _ | assumption | refine below_drewN ?_ _ | refine Below.drew ?_ | refine Below.alloc ?_ (by simp <;> omega) _ | refine Below.setCell ?_ (by simp <;> omega) _))⟩
    | true =>
    have k3 : a.s.size = 0 := by have h := List.isEmpty_iff.1 k2; rw [ByteArray.toList_eq] at h; have := congrArg List.length h; simpa using this
    cases k4 : (a.kind != 2) with
    | true =>
      cases k5 : (a.n != 0) with
      | true => go_enter Tryz.func63, Tryz.ntmps63; go_wp2_with fail; go_quiet ((go_at_call 81; exact Calls.quiet_of_same (kids_any _ _))); go_wp2_with fail; go_ret; exact ⟨rfl, (by repeat (first | exact Below.refl _ _ | assumption | refine below_drewN ?_ _ | refine Below.drew ?_ | refine Below.alloc ?_ (by simp <;> omega) _ | refine Below.setCell ?_ (by simp <;> omega) _))⟩
      | false => exact absurd Hm.out (by simp [mayB, (formed_iff _ _ _ _).2 ⟨c3, .inr (.inr ⟨k1, k2, k4, k5⟩)⟩]; omega)
    | false =>
      cases k5 : decide (a.n < 0) with
      | true => go_enter Tryz.func63, Tryz.ntmps63; go_wp2_with fail; go_quiet ((go_at_call 81; exact Calls.quiet_of_same (kids_any _ _))); go_wp2_with fail; go_ret; exact ⟨rfl, (by repeat (first | exact Below.refl _ _ | assumption | refine below_drewN ?_ _ | refine Below.drew ?_ | refine Below.alloc ?_ (by simp <;> omega) _ | refine Below.setCell ?_ (by simp <;> omega) _))⟩
      | false =>
      cases k6 : decide (1073741824 < a.n) with
      | true => go_enter Tryz.func63, Tryz.ntmps63; go_wp2_with fail; go_quiet ((go_at_call 81; exact Calls.quiet_of_same (kids_any _ _))); go_wp2_with fail; go_ret; exact ⟨rfl, (by repeat (first | exact Below.refl _ _ | assumption | refine below_drewN ?_ _ | refine Below.drew ?_ | refine Below.alloc ?_ (by simp <;> omega) _ | refine Below.setCell ?_ (by simp <;> omega) _))⟩
      | false => exact absurd Hm.out (by simp [mayB, (formed_iff _ _ _ _).2 ⟨c3, .inr (.inl ⟨k1, k2, k4, k5, k6⟩)⟩]; omega)
  | false =>
    cases k2 : decide (1024 < (a.s.size : Int)) with
    | true => go_enter Tryz.func63, Tryz.ntmps63; go_wp2_with fail; go_quiet ((go_at_call 81; exact Calls.quiet_of_same (kids_any _ _))); go_wp2_with fail; go_ret; exact ⟨rfl, (by repeat (first | exact Below.refl _ _ | assumption | refine below_drewN ?_ _ | refine Below.drew ?_ | refine Below.alloc ?_ (by simp <;> omega) _ | refine Below.setCell ?_ (by simp <;> omega) _))⟩
    | false =>
    have k3 : (a.kind != 2) = true := by simp at k1 ⊢; omega
    cases k5 : (a.n != 0) with
    | true => go_enter Tryz.func63, Tryz.ntmps63; go_wp2_with fail; go_quiet ((go_at_call 81; exact Calls.quiet_of_same (kids_any _ _))); go_wp2_with fail; go_ret; exact ⟨rfl, (by repeat (first | exact Below.refl _ _ | assumption | refine below_drewN ?_ _ | refine Below.drew ?_ | refine Below.alloc ?_ (by simp <;> omega) _ | refine Below.setCell ?_ (by simp <;> omega) _))⟩
    | false => exact absurd Hm.out (by simp [mayB, (formed_iff _ _ _ _).2 ⟨c3, .inl ⟨k1, k2, k5⟩⟩]; omega)

theorem formed_cases3 (k n : Int) (s : ByteArray) (len : Nat) (h : formedB k n s len = true) :
    (kidsOf k != (len : Int)) = false ∧ decide (1024 < (s.size : Int)) = false ∧ decide (n < 0) = false ∧ decide (1073741824 < n) = false ∧
      (((k != 1) = false ∧ (k != 2) = true ∧ (n != 0) = false) ∨ ((k != 1) = true ∧ s.toList.isEmpty = true ∧ (k != 2) = false) ∨ ((k != 1) = true ∧ s.toList.isEmpty = true ∧ (k != 2) = true ∧ (n != 0) = false)) := by
  obtain ⟨c, h⟩ := (formed_iff _ _ _ _).1 h
  have hz : s.toList.isEmpty = true → s.size = 0 := fun k2 => by have h := List.isEmpty_iff.1 k2; rw [ByteArray.toList_eq] at h; have := congrArg List.length h; simpa using this
  refine ⟨c, ?_⟩
  rcases h with ⟨k1, k2, k3⟩ | ⟨k1, k2, k3, k4, k5⟩ | ⟨k1, k2, k3, k4⟩
  · refine ⟨k2, ?_, ?_, .inl ⟨k1, ?_, k3⟩⟩ <;> simp at * <;> omega
  · have := hz k2
    exact ⟨by simp; omega, k4, k5, .inr (.inl ⟨k1, k2, k3⟩)⟩
  · have := hz k2
    refine ⟨by simp; omega, ?_, ?_, .inr (.inr ⟨k1, k2, k3, k4⟩)⟩ <;> simp at k4 ⊢ <;> omega

/-- What ref.walk holds in left behind some kids. -/
def leftF (f : Fo) (deep c : Int) : Int := if (mayF f deep c).1 then 64 - (mayF f deep c).2 else -1

theorem left_step (b o : Nat) (a : Nd) (l r : Fo) (deep L : Int) (h0 : 0 ≤ L) (h1 : L ≤ 64) :
    (leftT a l deep L = -1 ∧ leftF (.node b o a l r) deep (64 - L) = -1) ∨ (0 ≤ leftT a l deep L ∧ leftT a l deep L ≤ 64 ∧ leftF (.node b o a l r) deep (64 - L) = leftF r deep (64 - leftT a l deep L)) := by
  have hge := mayT_ge a l deep (64 - L)
  cases hm : (mayT a l deep (64 - L)).1
  · left; simp [leftT, leftF, mayF_node, hm]
  · right
    have hle := mayT_le a l deep (64 - L) (by omega) hm
    have e : leftT a l deep L = 64 - (mayT a l deep (64 - L)).2 := by simp [leftT, hm]
    refine ⟨by omega, by omega, ?_⟩
    rw [leftF, mayF_node, if_pos hm, leftF, e, show 64 - (64 - (mayT a l deep (64 - L)).2) = (mayT a l deep (64 - L)).2 from by omega]

set_option maxHeartbeats 2000000 in
theorem walkRef_yes (a : Nd) (l : Fo) (ih : AllF WalkRef l) (v : Value) (B : Nat) (deep left : Int) (w : World) (hr : RepV w B a l v) (hB : B ≤ w.heap.size) (h0 : 0 ≤ left) (h1 : left ≤ 64) (hd0 : 0 ≤ deep) (hd1 : deep ≤ 17)
    (hm : mayB a (flen l) deep (64 - left) = true) :
    Calls Tryz.prog 63 #[v, .int .i64 deep, .int .i64 left] w fun e w' =>
      e = .returned (.int .i64 (leftF l (deep + 1) (64 - left + 1))) ∧ Below w.heap.size w w' := by
  obtain ⟨hf, A, cap, b, o, rfl, hn, hA, hl⟩ := hr
  have HA : Hid (flen l = 0 ∨ A = some ⟨b, o, none⟩) := hA
  clear hA
  have hs := hf.2.2.2.2
  unfold maxLen at hs
  simp only [mayB, Bool.and_eq_true, decide_eq_true_eq] at hm
  obtain ⟨m1, m2, m3⟩ := hm
  have c1' : decide (left < 1) = false := by simp; omega
  have c2' : decide (16 < deep) = false := by simp; omega
  obtain ⟨c3, k7, k8, k9, m4⟩ := formed_cases3 _ _ _ _ m3
  clear m3
  rcases m4 with ⟨k1, k2, k5⟩ | ⟨k1, k2, k4⟩ | ⟨k1, k2, k4, k5⟩
  all_goals
    go_enter Tryz.func63, Tryz.ntmps63
    go_wp2_with fail
    go_quiet ((go_at_call 81; exact Calls.quiet_of_same (kids_any _ _)))
    go_wp2_with fail
    go_loopw [2, 7] (fun lv iv wr => ∃ (i : Nat) (g : Fo) (L : Int), iv = .int .i64 i ∧ lv = .int .i64 L ∧ i + flen g = flen l ∧ AllF WalkRef g ∧ RepF wr B g b (o + i * 4) ∧ Below w.heap.size w wr ∧ w.heap.size < wr.heap.size ∧
        wr.cell? ⟨w.heap.size, 3, none⟩ = some (.slice A (flen l) cap) ∧ ((L = -1 ∧ leftF l (deep + 1) (64 - left + 1) = -1) ∨ (0 ≤ L ∧ L ≤ 64 ∧ leftF l (deep + 1) (64 - left + 1) = leftF g (deep + 1) (64 - L)))) (fun _ iv _ => flen l - (intOf iv).toNat)
    case atStart =>
      refine ⟨0, l, left - 1, rfl, rfl, by simp, ih, ?_, (by repeat (first | exact Below.refl _ _ | assumption | refine below_drewN ?_ _ | refine Below.drew ?_ | refine Below.alloc ?_ (by simp <;> omega) _ | refine Below.setCell ?_ (by simp <;> omega) _)), by simp, by simp [go_sem], .inr ⟨by omega, by omega, by rw [show 64 - (left - 1) = 64 - left + 1 from by omega]⟩⟩
      rw [show o + 0 * 4 = o from by omega]
      exact RepF.keep (Nat.le_refl _) (fun b' o' hb' => by simp [go_sem, Nat.lt_of_lt_of_le hb' hB]) hl
    case round =>
      obtain ⟨i, g, L, rfl, rfl, hi, hg, hrg, hbl, hsz, hbx, hL⟩ := hrel
      cases g with
      | nil =>
        simp only [flen] at hi
        have HL : Hid (leftF l (deep + 1) (64 - left + 1) = L) := by
          show leftF l (deep + 1) (64 - left + 1) = L
          rcases hL with ⟨h, h'⟩ | ⟨_, _, h⟩
          · rw [h', h]
          · rw [h, leftF, mayF, if_pos rfl]; omega
        clear hL
        have hlt : decide ((i : Int) < (flen l : Int)) = false := by simp; omega
        go_wp2_with fail
        go_ret
        exact ⟨ret_int HL.out.symm, hbl⟩
      | node b1 o1 a1 l1 r1 =>
        simp only [flen] at hi
        rcases hL with ⟨rfl, hL⟩ | ⟨hL0, hL1, hL⟩
        · have HL : Hid (leftF l (deep + 1) (64 - left + 1) = -1) := hL
          clear hL
          go_wp2_with fail
          go_ret
          exact ⟨ret_int HL.out.symm, hbl⟩
        · obtain ⟨hb1, hf1, e0, e1, e2, ⟨A1, cap1, b2, o2, e3, hn1, hA1, hl1⟩, hr1⟩ := hrg
          obtain ⟨hw1, hgr⟩ := hg
          obtain rfl : A = some ⟨b, o, none⟩ := by rcases HA.out with h | h; omega; exact h
          have HA1 : Hid (flen l1 = 0 ∨ A1 = some ⟨b2, o2, none⟩) := hA1
          have HL : Hid (leftF l (deep + 1) (64 - left + 1) = leftF (.node b1 o1 a1 l1 r1) (deep + 1) (64 - L)) := hL
          clear hA1 hL
          go_wp2_with fail
          refine (hw1 _ B (deep + 1) L wr ⟨hf1, A1, cap1, b2, o2, rfl, hn1, HA1.out, hl1⟩ (by have := hbl.size; omega) hL0 hL1 (by omega) (by omega)).mono ?_
          rintro e w2 ⟨rfl, ho2⟩
          go_wp2_with fail
          go_roundw
          case rel =>
            refine ⟨i + 1, r1, leftT a1 l1 (deep + 1) L, by go_num, rfl, by omega, hgr, ?_, hbl.trans (ho2.mono (by omega)), by have := ho2.size; omega, ?_, ?_⟩
            · rw [show o + (i + 1) * 4 = o + i * 4 + 4 from by omega]
              exact RepF.keep (Nat.le_refl _) (fun b' o' hb' => ho2.cell (by simp; have := hbl.size; omega)) hr1
            · rw [ho2.cell (by simp; omega)]; exact hbx
            · rw [HL.out]; exact left_step b1 o1 a1 l1 r1 (deep + 1) L hL0 hL1
          case measure => simp [intOf]; omega

theorem walkRef_step (a : Nd) (l : Fo) (ih : AllF WalkRef l) : WalkRef a l := by
  intro v B deep left w hr hB h0 h1 hd0 hd1
  cases hm : mayB a (flen l) deep (64 - left)
  · refine (walkRef_no a l v B deep left w hr hB h0 h1 hd0 hd1 hm).mono ?_
    rintro e w' ⟨rfl, hb⟩
    exact ⟨ret_int (by simp [leftT, mayT, hm]), hb⟩
  · refine (walkRef_yes a l ih v B deep left w hr hB h0 h1 hd0 hd1 hm).mono ?_
    rintro e w' ⟨rfl, hb⟩
    exact ⟨ret_int (by simp [leftT, leftF, mayT, hm]), hb⟩

theorem walkRef_all : ∀ f : Fo, AllF WalkRef f
  | .nil => trivial
  | .node _ _ a l r => ⟨walkRef_step a l (walkRef_all l), walkRef_all r⟩

set_option maxHeartbeats 1000000 in
theorem refMay_any (a : Nd) (l : Fo) (v : Value) (B : Nat) (w : World) (hB : B ≤ w.heap.size) (hr : RepV w B a l v) :
    Calls Tryz.prog 45 #[v] w fun e w' => e = .returned (.bool (may a l)) ∧ Below w.heap.size w w' := by
  obtain ⟨hf, A, cap, b, o, rfl, hn, hA, hl⟩ := hr
  have HA : Hid (flen l = 0 ∨ A = some ⟨b, o, none⟩) := hA
  clear hA
  go_enter Tryz.func45, Tryz.ntmps45
  go_wp2_with fail
  refine (walkRef_step a l (walkRef_all l) _ B 1 64 _ ⟨hf, A, cap, b, o, rfl, hn, HA.out, ?_⟩ (by simp; omega) (by omega) (by omega) (by omega) (by omega)).mono ?_
  · exact RepF.keep (Nat.le_refl _) (fun b' o' hb' => by simp [go_sem, Nat.lt_of_lt_of_le hb' hB]) hl
  rintro e w1 ⟨rfl, ho⟩
  have hge := mayT_ge a l 1 0
  have hle := mayT_le a l 1 0 (by omega)
  go_wp2_with fail
  go_ret
  refine ⟨ret_bool ?_, Below.trans (by repeat (first | exact Below.refl _ _ | assumption | refine below_drewN ?_ _ | refine Below.drew ?_ | refine Below.alloc ?_ (by simp <;> omega) _ | refine Below.setCell ?_ (by simp <;> omega) _)) (ho.mono (by simp))⟩
  cases hm : (mayT a l 1 0).1
  · simp [leftT, may, hm]
  · have := hle hm
    simp [leftT, may, hm]; omega

end Go.Proofs.YtgmmbfnmojjbkaaGreatDoor
