import Derived.Test.YtfoeeocejcbmlaaGreatDoorQF
namespace Go.Proofs.YtfoeeocejcbmlaaGreatDoor
open Go.RowKit
set_option linter.unusedVariables false
set_option linter.unusedSimpArgs false

theorem prS_step (l : List Fd) (i : Nat) (h : i < l.length) : prS (l.take (i + 1)) = (if i = 0 then prS (l.take i) else prS (l.take i) ++ ⟨#[38]⟩) ++ encS true (l.getD i fd0).1 ++ ⟨#[61]⟩ ++ encS true (l.getD i fd0).2 := by
  apply ba_ext
  rw [prS, ba_list, prL_step l i h]
  by_cases hz : i = 0
  · subst hz
    simp [prS, prL, joinL, prF, encS]
  · simp only [if_neg hz, ba_app]
    simp [prS, prF, encS]

set_option maxRecDepth 100000 in
set_option maxHeartbeats 2000000 in
theorem rprint_any (l : List Fd) (v : Value) (w : World) (hl : l.length ≤ 100000) (hs : sumF l ≤ 100000) (hv : RowF w v l) :
    Calls Tryz.prog 55 #[v] w fun e w' => e = .returned (.string (prS l)) ∧ Below w.heap.size w w' := by
  have HV : Hid (RowF w v l) := hv
  obtain ⟨A, cap, rfl, hcp, _⟩ := hv
  go_enter Tryz.func55, Tryz.ntmps55
  go_wp2_with fail
  go_loopw [3, 4] (fun sv iv wr => ∃ (i : Nat) (acc : ByteArray), sv = .string acc ∧ iv = .int .i64 (i : Int) ∧ i ≤ l.length ∧ prS (l.take i) = acc ∧ Below w.heap.size w wr) (fun _ iv _ => l.length - (intOf iv).toNat)
  case atStart => exact ⟨0, _, rfl, rfl, Nat.zero_le _, rfl, Below.refl _ _⟩
  case round =>
    obtain ⟨i, acc, rfl, rfl, hi, hacc, hb⟩ := hrel
    have HB : Hid (Below w.heap.size w wr) := hb
    have HVR : Hid (RowF wr (.slice A l.length cap) l) := HV.out.below hb
    have hs0 := hb.size
    have HAC : Hid (prS (l.take i) = acc) := hacc
    have hpl := (prL_len (l.take i)).1
    rw [← prS_size, hacc] at hpl
    have hsm := sumF_take l i
    have hln : (l.take i).length = i := by rw [List.length_take]; omega
    clear hb hacc
    by_cases hp : i < l.length
    · have hp' : (i : Int) < (l.length : Int) := by omega
      obtain ⟨b, o, rfl, hbl, hc⟩ := HVR.out.hold (by omega)
      obtain ⟨c1, c2⟩ := hc i hp
      have hm := sumF_mem (getD_mem l i hp)
      have hst := prS_step l i hp
      rw [HAC.out] at hst
      clear hc
      generalize l.getD i fd0 = f at *
      obtain ⟨x, y⟩ := f
      simp only at c1 c2 hm hst
      have k1 := fun W => renc_any x (by omega) true W
      have k2 := fun W => renc_any y (by omega) true W
      have z1 := encS_size true x
      have z2 := encS_size true y
      generalize encS true x = ex at *
      generalize encS true y = ey at *
      have HST : Hid (prS (l.take (i + 1)) = (if i = 0 then acc else acc ++ ⟨#[38]⟩) ++ ex ++ ⟨#[61]⟩ ++ ey) := hst
      clear hst
      by_cases hz : i = 0
      · have hz' : ¬ (i : Int) > 0 := by omega
        have HF : Hid (prS (l.take (i + 1)) = acc ++ ex ++ ⟨#[61]⟩ ++ ey) := by show _ = _; rw [HST.out, if_pos hz]
        clear hz
        go_wp2_with fail
        have hsa : acc.size ≤ 700000 := by omega
        have e1 : (acc ++ ex).size = acc.size + ex.size := ByteArray.size_append
        have e2 : (acc ++ ex ++ ⟨#[61]⟩ : ByteArray).size = acc.size + ex.size + 1 := by rw [ByteArray.size_append, ByteArray.size_append, size1]
        have l1 : ¬ 9223372036854775807 < acc.size + ex.size := by omega
        have l2 : ¬ 9223372036854775807 < acc.size + ex.size + 1 := by omega
        have l3 : ¬ 9223372036854775807 < acc.size + ex.size + 1 + ey.size := by omega
        go_region_held3 (fun W => W.cell? ⟨b, o + i * 2, none⟩ = some (.string x) ∧ W.cell? ⟨b, o + i * 2 + 1, none⟩ = some (.string y) ∧ Below wr.heap.size wr W)
          (first | assumption | exact ⟨c1, c2, Below.drew (Below.refl _ _)⟩ | exact ⟨c1, c2, Below.refl _ _⟩ | exact ⟨d1, d2, g1⟩ | exact ⟨d3, d4, g2⟩)
          (first
            | (go_at_call_of 69 (Value.string x); refine (k1 _).mono ?_; rintro e w1 ⟨rfl, g1'⟩; have g1 : Below wr.heap.size wr w1 := Below.trans (Below.drew (Below.refl _ _)) g1'; have d1 := (g1.cell (p := ⟨b, o + i * 2, none⟩) hbl).trans c1; have d2 := (g1.cell (p := ⟨b, o + i * 2 + 1, none⟩) hbl).trans c2)
            | (go_at_call_of 69 (Value.string y); refine (k2 _).mono ?_; rintro e w2 ⟨rfl, g2'⟩; have g2 := below_tr g1 g2'; have d3 := (g2.cell (p := ⟨b, o + i * 2, none⟩) hbl).trans c1; have d4 := (g2.cell (p := ⟨b, o + i * 2 + 1, none⟩) hbl).trans c2))
        have HB2 : Hid (Below w.heap.size w w2) := HB.out.trans (g2.mono hs0)
        clear g1 g1' g2 g2' d1 d2 d3 d4 k1 k2
        go_wp2_with fail
        go_roundw
        case rel => exact ⟨i + 1, _, rfl, by go_num, by omega, HF.out, HB2.out⟩
        case measure => simp [intOf]; omega
      · have hz' : (i : Int) > 0 := by omega
        have HF : Hid (prS (l.take (i + 1)) = (acc ++ ⟨#[38]⟩) ++ ex ++ ⟨#[61]⟩ ++ ey) := by show _ = _; rw [HST.out, if_neg hz]
        have hsz3 : (acc ++ ⟨#[38]⟩ : ByteArray).size = acc.size + 1 := by rw [ByteArray.size_append, size1]
        have hacc1 : acc.size + 1 ≤ 9223372036854775807 := by omega
        clear hz
        go_wp2_with fail
        generalize acc ++ ⟨#[38]⟩ = acc2 at *
        have hsa2 : acc2.size ≤ 600000 := by omega
        clear hsz3 hacc1
        have hsa : acc2.size ≤ 700000 := by omega
        have e1 : (acc2 ++ ex).size = acc2.size + ex.size := ByteArray.size_append
        have e2 : (acc2 ++ ex ++ ⟨#[61]⟩ : ByteArray).size = acc2.size + ex.size + 1 := by rw [ByteArray.size_append, ByteArray.size_append, size1]
        have l1 : ¬ 9223372036854775807 < acc2.size + ex.size := by omega
        have l2 : ¬ 9223372036854775807 < acc2.size + ex.size + 1 := by omega
        have l3 : ¬ 9223372036854775807 < acc2.size + ex.size + 1 + ey.size := by omega
        go_region_held3 (fun W => W.cell? ⟨b, o + i * 2, none⟩ = some (.string x) ∧ W.cell? ⟨b, o + i * 2 + 1, none⟩ = some (.string y) ∧ Below wr.heap.size wr W)
          (first | assumption | exact ⟨c1, c2, Below.drew (Below.refl _ _)⟩ | exact ⟨c1, c2, Below.refl _ _⟩ | exact ⟨d1, d2, g1⟩ | exact ⟨d3, d4, g2⟩)
          (first
            | (go_at_call_of 69 (Value.string x); refine (k1 _).mono ?_; rintro e w1 ⟨rfl, g1'⟩; have g1 : Below wr.heap.size wr w1 := Below.trans (Below.drew (Below.refl _ _)) g1'; have d1 := (g1.cell (p := ⟨b, o + i * 2, none⟩) hbl).trans c1; have d2 := (g1.cell (p := ⟨b, o + i * 2 + 1, none⟩) hbl).trans c2)
            | (go_at_call_of 69 (Value.string y); refine (k2 _).mono ?_; rintro e w2 ⟨rfl, g2'⟩; have g2 := below_tr g1 g2'; have d3 := (g2.cell (p := ⟨b, o + i * 2, none⟩) hbl).trans c1; have d4 := (g2.cell (p := ⟨b, o + i * 2 + 1, none⟩) hbl).trans c2))
        have HB2 : Hid (Below w.heap.size w w2) := HB.out.trans (g2.mono hs0)
        clear g1 g1' g2 g2' d1 d2 d3 d4 k1 k2
        go_wp2_with fail
        go_roundw
        case rel => exact ⟨i + 1, _, rfl, by go_num, by omega, HF.out, HB2.out⟩
        case measure => simp [intOf]; omega
    · have hp' : ¬ (i : Int) < (l.length : Int) := by omega
      have HS : Hid (acc = prS l) := by show _ = _; rw [← HAC.out, List.take_of_length_le (by omega)]
      go_wp2_with fail
      go_ret
      exact ⟨ret_str (by rw [HS.out]), HB.out⟩

end Go.Proofs.YtfoeeocejcbmlaaGreatDoor
