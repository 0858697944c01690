import Derived.Test.YtfoeeocejcbmlaaGreatDoorE1
namespace Go.Proofs.YtfoeeocejcbmlaaGreatDoor
open Go.RowKit
set_option linter.unusedVariables false
set_option linter.unusedSimpArgs false

theorem word_rune : ∀ c : Fin 256, (decide (1 ≤ (Utf8.encode (c.1 : Int)).size ∧ (Utf8.encode (c.1 : Int)).size ≤ 128) && eachF plainB (Utf8.encode (c.1 : Int)) (Utf8.encode (c.1 : Int)).size 0) = plainB (c.1 : Int) := by decide +kernel
theorem rune_plain : ∀ c : Fin 128, Utf8.encode (c.1 : Int) = ⟨#[UInt8.ofNat c.1]⟩ := by decide +kernel
theorem runes_hex : ∀ c : Fin 256, runesBytes [37, digL.getD (c.1 / 16) 0, digL.getD (c.1 % 16) 0] = ⟨#[37, UInt8.ofNat (hexN (c.1 / 16)), UInt8.ofNat (hexN (c.1 % 16))]⟩ := by decide +kernel

theorem and16 : ∀ c : Fin 256, bits .and .u8 (c.1 : Int) 15 = ((c.1 % 16 : Nat) : Int) := by decide +kernel

/-- The rest of written, behind the blank's case. -/
def WrEnd (form : Bool) (c : Nat) (w : World) (e : Ending) (w' : World) : Prop := e = .returned (.string ⟨(wrL form (UInt8.ofNat c)).toArray⟩) ∧ Below w.heap.size w w'

theorem wr_plain (form : Bool) (c : Nat) (hc : c < 256) (h : plainB (c : Int) = true) : Utf8.encode (c : Int) = ⟨(wrL form (UInt8.ofNat c)).toArray⟩ := by
  have := plain_not c h
  rw [rune_plain ⟨c, this.2.2.2⟩]
  have e : (UInt8.ofNat c).toNat = c := by simp; omega
  rw [wrL, e, if_pos h]
theorem wr_hex (form : Bool) (c : Nat) (hc : c < 256) (h : plainB (c : Int) = false) (h2 : ¬ (form = true ∧ c = 32)) : runesBytes [37, digL.getD (c / 16) 0, digL.getD (c % 16) 0] = ⟨(wrL form (UInt8.ofNat c)).toArray⟩ := by
  rw [runes_hex ⟨c, hc⟩]
  have e : (UInt8.ofNat c).toNat = c := by simp; omega
  rw [wrL, e, if_neg (by rw [h]; simp), if_neg h2]

theorem conv3 (w : World) (x1 x2 : Int) : (convert 112 9 (.slice (some ⟨w.heap.size, 0, none⟩) 3 3)).run Tryz.prog (w.alloc (.cells #[.int .i32 37, .int .i32 x1, .int .i32 x2] 21)).drew = .ok (.string (runesBytes [37, x1, x2])) (w.alloc (.cells #[.int .i32 37, .int .i32 x1, .int .i32 x2] 21)).drew :=
  run_convert_runes (P := Tryz.prog) _ 112 9 21 ⟨w.heap.size, 0, none⟩ 3 3 [37, x1, x2] (by simp) Tryz.underlying112 Tryz.underlying21 Tryz.underlying9 (fun j hj => by
    have hj' : j = 0 ∨ j = 1 ∨ j = 2 := by simp at hj; omega
    rcases hj' with rfl | rfl | rfl <;> simp [go_sem, Addr.add])

set_option maxRecDepth 100000 in
set_option maxHeartbeats 1000000 in
theorem written_any (c : Nat) (hc : c < 256) (form : Bool) (B : Nat) (w : World) (ht : Tab16 B w) (hB : B ≤ w.heap.size) :
    Calls Tryz.prog 83 #[.int .u8 (c : Int), .bool form] w (WrEnd form c w) := by
  have Hw : Hid (_ = _) := word_rune ⟨c, hc⟩
  by_cases h32 : form = true ∧ c = 32
  · obtain ⟨rfl, rfl⟩ := h32
    go_enter Tryz.func83, Tryz.ntmps83
    go_wp2_with fail
    go_ret
    exact ⟨ret_str (by decide), (by repeat (first | exact Below.refl _ _ | assumption | refine below_drewN ?_ _ | refine Below.drew ?_ | refine Below.alloc ?_ (by simp <;> omega) _ | refine Below.setCell ?_ (by simp <;> omega) _))⟩
  · have H32 : Hid (¬ (form = true ∧ c = 32)) := h32
    cases form
    · clear h32
      go_enter Tryz.func83, Tryz.ntmps83
      go_wp2_with fail
      refine (word_any _ _).mono ?_
      rintro e w1 ⟨rfl, hb1⟩
      rw [Hw.out]
      generalize hp0 : plainB (c : Int) = b
      have Hp : Hid (plainB (c : Int) = b) := hp0
      clear hp0
      cases b
      · have ht1 : Tab16 B w1 := ht.on (hb1.mono hB)
        have hd1 := ht1.cell (c / 16) (by omega)
        have hd2 := ht1.cell (c % 16) (by omega)
        have ha : bits .and .u8 (c : Int) 15 = ((c % 16 : Nat) : Int) := and16 ⟨c, hc⟩
        generalize hx0 : digL.getD (c / 16) 0 = x1 at *
        generalize hy0 : digL.getD (c % 16) 0 = x2 at *
        have Hx : Hid (digL.getD (c / 16) 0 = x1) := hx0
        have Hy : Hid (digL.getD (c % 16) 0 = x2) := hy0
        have l1 : (c : Int) / 16 < 16 := by omega
        have l2 : ((c % 16 : Nat) : Int) < 16 := by omega
        have hsz := hb1.size
        clear hx0 hy0
        have hcv := conv3 w1 x1 x2
        go_wp2_with fail
        go_region
        go_wp2_with fail
        go_ret
        exact ⟨ret_str (by rw [← Hx.out, ← Hy.out]; exact wr_hex _ c hc Hp.out (by have h := H32.out; simp at h ⊢ <;> exact h)), Below.drew (Below.alloc hb1 hsz _)⟩
      · go_wp2_with fail
        go_ret
        exact ⟨ret_str (wr_plain _ c hc Hp.out), hb1⟩
    · have h32' : ((c : Int) == 32) = false := by simp at h32 ⊢; omega
      clear h32
      go_enter Tryz.func83, Tryz.ntmps83
      go_wp2_with fail
      refine (word_any _ _).mono ?_
      rintro e w1 ⟨rfl, hb1⟩
      rw [Hw.out]
      generalize hp0 : plainB (c : Int) = b
      have Hp : Hid (plainB (c : Int) = b) := hp0
      clear hp0
      cases b
      · have ht1 : Tab16 B w1 := ht.on (hb1.mono hB)
        have hd1 := ht1.cell (c / 16) (by omega)
        have hd2 := ht1.cell (c % 16) (by omega)
        have ha : bits .and .u8 (c : Int) 15 = ((c % 16 : Nat) : Int) := and16 ⟨c, hc⟩
        generalize hx0 : digL.getD (c / 16) 0 = x1 at *
        generalize hy0 : digL.getD (c % 16) 0 = x2 at *
        have Hx : Hid (digL.getD (c / 16) 0 = x1) := hx0
        have Hy : Hid (digL.getD (c % 16) 0 = x2) := hy0
        have l1 : (c : Int) / 16 < 16 := by omega
        have l2 : ((c % 16 : Nat) : Int) < 16 := by omega
        have hsz := hb1.size
        clear hx0 hy0
        have hcv := conv3 w1 x1 x2
        go_wp2_with fail
        go_region
        go_wp2_with fail
        go_ret
        exact ⟨ret_str (by rw [← Hx.out, ← Hy.out]; exact wr_hex _ c hc Hp.out (by have h := H32.out; simp at h ⊢ <;> exact h)), Below.drew (Below.alloc hb1 hsz _)⟩
      · go_wp2_with fail
        go_ret
        exact ⟨ret_str (wr_plain _ c hc Hp.out), hb1⟩

end Go.Proofs.YtfoeeocejcbmlaaGreatDoor
