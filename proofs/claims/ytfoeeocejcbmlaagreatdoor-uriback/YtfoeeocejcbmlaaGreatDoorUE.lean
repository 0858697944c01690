import Derived.Test.YtfoeeocejcbmlaaGreatDoorUD
import Derived.BigQuiet
namespace Go.Proofs.YtfoeeocejcbmlaaGreatDoor
open Go.RowKit
set_option linter.unusedVariables false
set_option linter.unusedSimpArgs false

/-- Three cells of a block, to read. -/
abbrev BoxU (w : World) (b : Nat) (v0 v1 v2 : Value) : Prop :=
  b < w.heap.size ∧ w.cell? ⟨b, 0, none⟩ = some v0 ∧ w.cell? ⟨b, 1, none⟩ = some v1 ∧ w.cell? ⟨b, 2, none⟩ = some v2
theorem BoxU.below {w w' : World} {b : Nat} {v0 v1 v2 : Value} (h : BoxU w b v0 v1 v2) (hb : Below w.heap.size w w') : BoxU w' b v0 v1 v2 := by
  obtain ⟨h0, h1, h2, h3⟩ := h
  exact ⟨Nat.lt_of_lt_of_le h0 hb.size, (hb.cell (by simpa using h0)).trans h1, (hb.cell (by simpa using h0)).trans h2, (hb.cell (by simpa using h0)).trans h3⟩
theorem BoxU.new (w : World) (v0 v1 v2 : Value) (T : TypeId) : BoxU (w.alloc (.cells #[v0, v1, v2] T)) w.heap.size v0 v1 v2 := ⟨by simp, by simp [go_sem], by simp [go_sem], by simp [go_sem]⟩

theorem sumF_step (l : List Fd) (i : Nat) (h : i < l.length) : sumF (l.take (i + 1)) = sumF (l.take i) + ((l.getD i fd0).1.size + (l.getD i fd0).2.size) := by
  rw [List.take_add_one, List.getElem?_eq_getElem h, sumF_app]
  simp only [Option.toList_some, sumF_cons, List.getD, List.getElem?_eq_getElem h, Option.getD_some]
  simp [sumF]

set_option maxRecDepth 100000 in
set_option maxHeartbeats 1000000 in
theorem ulong_any (u : Ur) (q : Value) (w : World) (hq : RowF w q u.2.2) (hl : u.2.2.length ≤ 100000) (hs : sumF u.2.2 ≤ 100000) (h1 : u.1.size ≤ 100000) (h2 : u.2.1.size ≤ 100000) :
    Calls Tryz.prog 35 #[.agg #[.string u.1, .string u.2.1, q]] w fun e w' => e = .returned (.bool (decide (1024 < lenU u))) ∧ Below w.heap.size w w' := by
  have HV : Hid (RowF w q u.2.2) := hq
  have HL : Hid (lenU u = 8 + u.1.size + u.2.1.size + (sumF u.2.2 + u.2.2.length)) := rfl
  obtain ⟨A, cap, rfl, hcp, _⟩ := hq
  obtain ⟨h, p, l⟩ := u
  dsimp only at *
  go_enter Tryz.func35, Tryz.ntmps35
  go_wp2_with fail
  go_loopw [3, 17] (fun nv iv wr => ∃ i : Nat, nv = .int .i64 ((8 + h.size + p.size + (sumF (l.take i) + i) : Nat) : Int) ∧ iv = .int .i64 (i : Int) ∧ i ≤ l.length ∧ Below w.heap.size w wr) (fun _ iv _ => l.length - (intOf iv).toNat)
  case atStart => exact ⟨0, by simp [sumF], rfl, Nat.zero_le _, (by repeat (first | exact Below.refl _ _ | assumption | refine below_drewN ?_ _ | refine Below.drew ?_ | refine Below.alloc ?_ (by simp <;> omega) _ | refine Below.setCell ?_ (by simp <;> omega) _))⟩
  case round =>
    obtain ⟨i, rfl, rfl, hi, hb⟩ := hrel
    have HB : Hid (Below w.heap.size w wr) := hb
    have HVR : Hid (RowF wr (.slice A l.length cap) l) := HV.out.below hb
    have hsz := hb.size
    have hst := sumF_take l i
    clear hb
    by_cases hp : i < l.length
    · have hp' : (i : Int) < (l.length : Int) := by omega
      obtain ⟨b, o, rfl, hbl, hc⟩ := HVR.out.hold (by omega)
      obtain ⟨c1, c2⟩ := hc i hp
      have hsp := sumF_step l i hp
      have hst2 := sumF_take l (i + 1)
      clear hc
      generalize l.getD i fd0 = f at *
      obtain ⟨x, y⟩ := f
      dsimp only at c1 c2 hsp
      generalize hn : 8 + h.size + p.size + (sumF (l.take i) + i) = n at *
      by_cases hg : 1024 < n
      · have hg' : (n : Int) > 1024 := by omega
        go_wp2_with fail
        go_ret
        exact ⟨ret_bool (by rw [HL.out]; symm; rw [decide_eq_true_eq]; omega), (HB.out.trans (Below.mono (by repeat (first | exact Below.refl _ _ | assumption | refine below_drewN ?_ _ | refine Below.drew ?_ | refine Below.alloc ?_ (by simp <;> omega) _ | refine Below.setCell ?_ (by simp <;> omega) _)) hsz))⟩
      · have hg' : ¬ (n : Int) > 1024 := by omega
        go_wp2_with fail
        go_roundw
        case rel => exact ⟨i + 1, by rw [hsp]; go_num, by go_num, by omega, (HB.out.trans (Below.mono (by repeat (first | exact Below.refl _ _ | assumption | refine below_drewN ?_ _ | refine Below.drew ?_ | refine Below.alloc ?_ (by simp <;> omega) _ | refine Below.setCell ?_ (by simp <;> omega) _)) hsz))⟩
        case measure => simp [intOf]; omega
    · have hp' : ¬ (i : Int) < (l.length : Int) := by omega
      have hti : l.take i = l := List.take_of_length_le (by omega)
      obtain rfl : i = l.length := by omega
      rw [hti]
      generalize hn : 8 + h.size + p.size + (sumF l + l.length) = n at *
      by_cases hg : 1024 < n
      · have hg' : (n : Int) > 1024 := by omega
        go_wp2_with fail
        go_ret
        exact ⟨ret_bool (by rw [HL.out]; simp [hg]), HB.out⟩
      · have hg' : ¬ (n : Int) > 1024 := by omega
        go_wp2_with fail
        go_ret
        exact ⟨ret_bool (by rw [HL.out]; simp [hg]), HB.out⟩

set_option maxRecDepth 100000 in
set_option maxHeartbeats 1000000 in
theorem utarget_any {w0 : World} (ht : Tab16 w0.heap.size w0) (u : Ur) (q : Value) (w : World) (hW : Below w0.heap.size w0 w) (hq : RowF w q u.2.2) (hl : u.2.2.length ≤ 100000) (hs : sumF u.2.2 ≤ 100000) (h2 : u.2.1.size ≤ 100000) :
    Calls Tryz.prog 34 #[.agg #[.string u.1, .string u.2.1, q]] w fun e w' => e = .returned (.string (tgtS u)) ∧ Below w.heap.size w w' := by
  have HV : Hid (RowF w q u.2.2) := hq
  have HT : Hid (tgtS u = if u.2.2 = [] then u.2.1 else u.2.1 ++ ⟨#[63]⟩ ++ prS u.2.2) := rfl
  obtain ⟨A, cap, rfl, hcp, _⟩ := hq
  obtain ⟨h, p, l⟩ := u
  dsimp only at *
  have b1 : Below w.heap.size w (w.alloc (.cells #[.string h, .string p, .slice A l.length cap] 28)) := (Below.refl _ _).alloc (Nat.le_refl _) _
  have x1 := BoxU.new w (.string h) (.string p) (.slice A l.length cap) 28
  by_cases hn : l = []
  · have hlen : l.length = 0 := by rw [hn]; rfl
    have HT2 : Hid (tgtS (h, p, l) = p) := by show _ = _; rw [HT.out, if_pos hn]
    have hk := fun W => qclone_any p (by omega) W
    clear hn HT
    rw [hlen]
    go_enter Tryz.func34, Tryz.ntmps34
    go_wp2_with fail
    refine (hk _).mono ?_
    rintro e w2 ⟨rfl, hb2⟩
    have B2 : Hid (Below w.heap.size w w2) := Below.trans (by repeat (first | exact Below.refl _ _ | assumption | refine below_drewN ?_ _ | refine Below.drew ?_ | refine Below.alloc ?_ (by simp <;> omega) _ | refine Below.setCell ?_ (by simp <;> omega) _)) (hb2.mono (by simp))
    clear hb2
    go_wp2_with fail
    go_ret
    exact ⟨ret_str HT2.out.symm, B2.out⟩
  · have hlen : ¬ ((l.length : Nat) : Int) = 0 := by
      intro e; exact hn (List.eq_nil_of_length_eq_zero (by omega))
    have hlenb : (((l.length : Nat) : Int) == 0) = false := by simpa using hlen
    have HT2 : Hid (tgtS (h, p, l) = p ++ ⟨#[63]⟩ ++ prS l) := by show _ = _; rw [HT.out, if_neg hn]
    have HPR : Hid (∀ W, Below w.heap.size w W → Calls Tryz.prog 53 #[.slice A l.length cap] W fun e w' => e = .returned (.string (prS l)) ∧ Below W.heap.size W w') := fun W hw => qprint_at ht l _ hl hs _ rfl W (HV.out.below hw) (hW.trans (hw.mono hW.size))
    have hpl : (prS l).size ≤ 500000 := by have := (prL_len l).1; have := prS_size l; omega
    generalize prS l = pl at *
    have z1 : ¬ 9223372036854775807 < p.size + 1 := by omega
    have z2 : ¬ 9223372036854775807 < p.size + 1 + pl.size := by omega
    clear hn HT
    go_enter Tryz.func34, Tryz.ntmps34
    go_wp2_with fail
    generalize w.alloc (.cells #[.string h, .string p, .slice A l.length cap] 28) = w1 at *
    have X1 : Hid (BoxU w1 w.heap.size (.string h) (.string p) (.slice A l.length cap)) := x1
    go_region_held3 (fun W => BoxU W w.heap.size (.string h) (.string p) (.slice A l.length cap) ∧ Below w.heap.size w W)
      (first | assumption | exact ⟨X1.out, b1⟩ | exact ⟨X1.out.below (Below.drew (Below.refl _ _)), b1.drew⟩ | exact ⟨x2, b2⟩)
      (first
        | (go_at_call 53; have hS := (by with_reducible assumption : BoxU _ w.heap.size (.string h) (.string p) (.slice A l.length cap) ∧ Below w.heap.size w _); refine (HPR.out _ hS.2).mono ?_; rintro e w2 ⟨rfl, hb2⟩; have b2 := hS.2.trans (hb2.mono hS.2.size); have x2 := BoxU.below hS.1 hb2))
    all_goals go_wp2_with fail
    all_goals go_ret
    all_goals exact ⟨ret_str HT2.out.symm, b2⟩

end Go.Proofs.YtfoeeocejcbmlaaGreatDoor
