import Derived.Test.YtfoeeocejcbmlaaGreatDoorQD
namespace Go.Proofs.YtfoeeocejcbmlaaGreatDoor
open Go.RowKit
set_option linter.unusedVariables false
set_option linter.unusedSimpArgs false

theorem RowF.hold {w : World} {A : Option Addr} {cap n : Nat} {l : List Fd} (h : RowF w (.slice A n cap) l) (hp : 0 < l.length) :
    ∃ b o, A = some ⟨b, o, none⟩ ∧ b < w.heap.size ∧ ∀ i, i < l.length → w.cell? ⟨b, o + i * 2, none⟩ = some (.string (l.getD i fd0).1) ∧ w.cell? ⟨b, o + i * 2 + 1, none⟩ = some (.string (l.getD i fd0).2) := by
  obtain ⟨A', cap', e, hcp, h | h⟩ := h
  · omega
  · injection e with e1 e2 e3; subst e1; exact h

set_option maxRecDepth 100000 in
set_option maxHeartbeats 1000000 in
/-- Two rows of the same fields. -/
theorem same_any (l : List Fd) (u v : Value) (w : World) (hl : l.length ≤ 1000000) (hu : RowF w u l) (hv : RowF w v l) :
    Calls Tryz.prog 32 #[u, v] w fun e w' => e = .returned (.bool true) ∧ ∃ m, w' = w.drewN m := by
  have HU : Hid (RowF w u l) := hu
  have HV : Hid (RowF w v l) := hv
  obtain ⟨A, cap, rfl, hcp, _⟩ := hu
  obtain ⟨C, cap2, rfl, hcp2, _⟩ := hv
  go_enter Tryz.func32, Tryz.ntmps32
  go_wp2_with fail
  go_loopw [5] (fun iv wr => ∃ i : Nat, iv = .int .i64 (i : Int) ∧ i ≤ l.length ∧ ∃ m, wr = w.drewN m) (fun iv _ => l.length - (intOf iv).toNat)
  case atStart => exact ⟨0, rfl, Nat.zero_le _, 0, rfl⟩
  case round =>
    obtain ⟨i, rfl, hi, m, rfl⟩ := hrel
    by_cases hp : i < l.length
    · have hp' : (i : Int) < (l.length : Int) := by omega
      obtain ⟨b, o, rfl, hbl, hc⟩ := HU.out.hold (by omega)
      obtain ⟨b2, o2, rfl, hbl2, hd⟩ := HV.out.hold (by omega)
      obtain ⟨c1, c2⟩ := hc i hp
      obtain ⟨d1, d2⟩ := hd i hp
      clear hc hd
      generalize l.getD i fd0 = f at *
      obtain ⟨x, y⟩ := f
      simp only at c1 c2 d1 d2
      go_wp2_with fail
      go_region
      go_wp2_with fail
      go_roundw
      case rel => exact ⟨i + 1, by go_num, by omega, m + 1, rfl⟩
      case measure => simp [intOf]; omega
    · have hp' : ¬ (i : Int) < (l.length : Int) := by omega
      go_wp2_with fail
      go_ret
      exact ⟨rfl, m, rfl⟩

theorem RowF.take {w : World} {A : Option Addr} {cap n : Nat} {l : List Fd} (h : RowF w (.slice A n cap) l) (i : Nat) (hi : i ≤ l.length) : RowF w (.slice A i cap) (l.take i) := by
  have hl : (l.take i).length = i := by rw [List.length_take]; omega
  have h0 := h
  obtain ⟨A', cap', e, hcp, _⟩ := h
  injection e with e1 e2 e3; subst e1 e3
  refine ⟨A, cap, by rw [hl], by omega, ?_⟩
  by_cases hz : i = 0
  · exact .inl (by omega)
  · obtain ⟨b, o, e, hb, hc⟩ := h0.hold (by omega)
    refine .inr ⟨b, o, e, hb, fun j hj => ?_⟩
    have e2 : (l.take i).getD j fd0 = l.getD j fd0 := by simp [List.getD, List.getElem?_take_of_lt (show j < i by omega)]
    rw [e2]; exact hc j (by omega)

theorem RowF.drewN {w : World} {v : Value} {l : List Fd} (h : RowF w v l) (m : Nat) : RowF (w.drewN m) v l := h.below (below_drewN (Below.refl _ _) m)

set_option maxRecDepth 100000 in
set_option maxHeartbeats 1000000 in
theorem unlike_any (l : List Fd) (v : Value) (w : World) (hl : l.length ≤ 1000000) (hv : RowF w v l) (hu : Unl l) :
    Calls Tryz.prog 54 #[v] w fun e w' => e = .returned (.bool true) ∧ Below w.heap.size w w' := by
  have HV : Hid (RowF w v l) := hv
  have HU : Hid (Unl l) := hu
  obtain ⟨A, cap, rfl, hcp, _⟩ := hv
  clear hu
  go_enter Tryz.func54, Tryz.ntmps54
  go_wp2_with fail
  go_loopw [3] (fun iv wr => ∃ i : Nat, iv = .int .i64 (i : Int) ∧ i ≤ l.length ∧ Below w.heap.size w wr) (fun iv _ => l.length - (intOf iv).toNat)
  case atStart => exact ⟨0, rfl, Nat.zero_le _, Below.refl _ _⟩
  case round =>
    obtain ⟨i, rfl, hi, hb⟩ := hrel
    have HB : Hid (Below w.heap.size w wr) := hb
    have HVR : Hid (RowF wr (.slice A l.length cap) l) := HV.out.below hb
    clear hb
    by_cases hp : i < l.length
    · have hp' : (i : Int) < (l.length : Int) := by omega
      have hp2 : (0 : Int) ≤ (i : Int) := by omega
      have hp3 : (i : Int) ≤ (cap : Int) := by omega
      have hsz := HVR.out.take i hi
      obtain ⟨b, o, rfl, hbl, hc⟩ := HVR.out.hold (by omega)
      obtain ⟨c1, _⟩ := hc i hp
      obtain ⟨g1, g2⟩ := HU.out i hp
      have hne : ((l.getD i fd0).1.toList == (⟨#[]⟩ : ByteArray).toList) = false := toList_ne (fun e => g1 (by rw [e]; rfl))
      have emp : (⟨#[]⟩ : ByteArray).toList = [] := by rw [ByteArray.toList_eq]
      rw [emp] at hne
      have hh := fun W (h : RowF W (.slice (some ⟨b, o, none⟩) i cap) (l.take i)) => rhas_any (l.take i) _ (l.getD i fd0).1 W (by rw [List.length_take]; omega) h
      have hq : ∀ q, RowF (wr.drewN q) (.slice (some ⟨b, o, none⟩) i cap) (l.take i) := fun q => hsz.drewN q
      rw [g2] at hh
      clear hc g1 g2 emp
      generalize (l.getD i fd0).1 = x at *
      go_wp2_with fail
      go_quiet ((go_at_call 52; exact Calls.quiet_of_same (hh _ (hq _))))
      go_wp2_with fail
      go_roundw
      case rel => exact ⟨i + 1, by go_num, by omega, below_drewN HB.out _⟩
      case measure => simp [intOf]; omega
    · have hp' : ¬ (i : Int) < (l.length : Int) := by omega
      go_wp2_with fail
      go_ret
      exact ⟨rfl, HB.out⟩

end Go.Proofs.YtfoeeocejcbmlaaGreatDoor
