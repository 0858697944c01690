import Derived.Test.YtfoeeocejcbmlaaGreatDoorT0
namespace Go.Proofs.YtfoeeocejcbmlaaGreatDoor
open Go.RowKit
set_option linter.unusedVariables false
set_option linter.unusedSimpArgs false

/-- The texts that a tape picks of. -/
def textStrs : List ByteArray := [⟨#[97]⟩, ⟨#[98]⟩, ⟨#[61]⟩, ⟨#[61, 49]⟩, ⟨#[38]⟩, ⟨#[38, 97, 61]⟩, ⟨#[99, 61, 50]⟩, ⟨#[37, 50, 48]⟩, ⟨#[43]⟩, ⟨#[37, 50, 70]⟩, ⟨#[37, 50, 102]⟩, ⟨#[126]⟩, ⟨#[38, 100, 61, 52]⟩, ⟨#[38, 38]⟩, ⟨#[101]⟩, ⟨#[37]⟩]

/-- What Some makes of a tape at place k: so many at most, behind acc. -/
def textF (ns : List Int) : Nat → Nat → ByteArray → ByteArray
  | 0, _, acc => acc
  | m + 1, k, acc => if k < ns.length then textF ns m (nextK ns k 16) (acc ++ textStrs.getD (nextV ns k 16).toNat ByteArray.empty) else acc

theorem textStrs_small (i : Nat) : (textStrs.getD i ByteArray.empty).size ≤ 4 := by
  rw [List.getD_eq_getElem?_getD]
  cases h : textStrs[i]? with
  | none => decide
  | some x =>
    have : ∀ x ∈ textStrs, x.size ≤ 4 := by decide +kernel
    exact this x (List.mem_of_getElem? h)

theorem textF_small (ns : List Int) : ∀ m k acc, (textF ns m k acc).size ≤ acc.size + 4 * m
  | 0, _, _ => Nat.le_refl _
  | m + 1, k, acc => by
    rw [textF]; split
    · have := textF_small ns m (nextK ns k 16) (acc ++ textStrs.getD (nextV ns k 16).toNat ByteArray.empty)
      have h2 := textStrs_small (nextV ns k 16).toNat
      simp only [ByteArray.size_append] at this
      omega
    · omega

theorem textStrs_at (i : Nat) (hi : i < 16) : [Value.string ⟨#[97]⟩, Value.string ⟨#[98]⟩, Value.string ⟨#[61]⟩, Value.string ⟨#[61, 49]⟩, Value.string ⟨#[38]⟩, Value.string ⟨#[38, 97, 61]⟩, Value.string ⟨#[99, 61, 50]⟩, Value.string ⟨#[37, 50, 48]⟩, Value.string ⟨#[43]⟩, Value.string ⟨#[37, 50, 70]⟩, Value.string ⟨#[37, 50, 102]⟩, Value.string ⟨#[126]⟩, Value.string ⟨#[38, 100, 61, 52]⟩, Value.string ⟨#[38, 38]⟩, Value.string ⟨#[101]⟩, Value.string ⟨#[37]⟩][i]? = some (Value.string (textStrs[i]?.getD ByteArray.empty)) := by
  rcases (show i = 0 ∨ i = 1 ∨ i = 2 ∨ i = 3 ∨ i = 4 ∨ i = 5 ∨ i = 6 ∨ i = 7 ∨ i = 8 ∨ i = 9 ∨ i = 10 ∨ i = 11 ∨ i = 12 ∨ i = 13 ∨ i = 14 ∨ i = 15 by omega) with rfl | rfl | rfl | rfl | rfl | rfl | rfl | rfl | rfl | rfl | rfl | rfl | rfl | rfl | rfl | rfl <;> rfl

theorem size_alloc10 (w : World) (o : Obj) : (w.alloc o).heap.size = w.heap.size + 1 := by simp

set_option maxRecDepth 20000 in
set_option maxHeartbeats 4000000 in
theorem text_any (ns : List Int) (LA : Option Addr) (cap B most : Nat) (hmost : most ≤ 1000) (w : World) (hB : B ≤ w.heap.size) (hns : NumsAt w B ns LA) (hf : NumsFit ns) :
    Calls Tryz.prog 20 #[.slice LA ns.length cap, .int .i64 (most : Int)] w fun e w' => e = .returned (.string (textF ns most 0 ByteArray.empty)) ∧ Below w.heap.size w w' := by
  have hnl := hf.1
  go_enter Tryz.func20, Tryz.ntmps20
  go_wp2_with fail
  go_loopw [6, 7] (fun sv iv wr => ∃ (i k : Nat) (acc : ByteArray), sv = .string acc ∧ iv = .int .i64 (i : Int) ∧ i ≤ most ∧ k ≤ ns.length ∧ TapeAt wr w.heap.size LA ns.length cap k ∧ NumsAt wr B ns LA ∧ Below w.heap.size w wr ∧ textF ns (most - i) k acc = textF ns most 0 ByteArray.empty ∧ acc.size ≤ 4 * i)
    (fun _ iv _ => most - (intOf iv).toNat)
  case atStart =>
    exact ⟨0, 0, ByteArray.empty, rfl, rfl, by omega, by omega, ⟨by simp, by simp [go_sem], by simp [go_sem], by simp [go_sem]⟩, hns.below (Below.mono (by repeat (first | exact Below.refl _ _ | assumption | refine below_drewN ?_ _ | refine Below.drew ?_ | refine Below.alloc ?_ (by simp <;> omega) _ | refine Below.setCell ?_ (by simp <;> omega) _)) hB), (by repeat (first | exact Below.refl _ _ | assumption | refine below_drewN ?_ _ | refine Below.drew ?_ | refine Below.alloc ?_ (by simp <;> omega) _ | refine Below.setCell ?_ (by simp <;> omega) _)), rfl, by decide⟩
  case round =>
    obtain ⟨i, k, acc, rfl, rfl, him, hk, ht, hnr, hbl, hacc, hsm⟩ := hrel
    have Hacc : Hid (textF ns (most - i) k acc = textF ns most 0 ByteArray.empty) := hacc
    clear hacc
    by_cases hlt : (i : Int) < (most : Int)
    · go_wp2_with fail
      refine (more_any _ _ _ _ _ _ ht hnl).mono ?_
      rintro e w1 ⟨rfl, m, rfl⟩
      have hbm : Below wr.heap.size wr (wr.drewN m) := below_drewN (Below.refl _ _) m
      generalize wr.drewN m = w1 at *
      have hs1 := hbm.size
      have hs0 := ht.1
      have ht1 := ht.only hbm
      have hnr1 : NumsAt w1 B ns LA := hnr.below (hbm.mono (by omega))
      have hbl1 := hbl.trans (hbm.mono (by omega))
      clear ht hnr hbl hbm
      by_cases hkl : k < ns.length
      · have hal : Below w1.heap.size w1 (w1.alloc (.cells #[.string ⟨#[97]⟩, .string ⟨#[98]⟩, .string ⟨#[61]⟩, .string ⟨#[61, 49]⟩, .string ⟨#[38]⟩, .string ⟨#[38, 97, 61]⟩, .string ⟨#[99, 61, 50]⟩, .string ⟨#[37, 50, 48]⟩, .string ⟨#[43]⟩, .string ⟨#[37, 50, 70]⟩, .string ⟨#[37, 50, 102]⟩, .string ⟨#[126]⟩, .string ⟨#[38, 100, 61, 52]⟩, .string ⟨#[38, 38]⟩, .string ⟨#[101]⟩, .string ⟨#[37]⟩] 9)) := Below.alloc (Below.refl _ _) (Nat.le_refl _) _
        go_wp2_with fail
        refine (pick_any (w1.alloc (.cells #[.string ⟨#[97]⟩, .string ⟨#[98]⟩, .string ⟨#[61]⟩, .string ⟨#[61, 49]⟩, .string ⟨#[38]⟩, .string ⟨#[38, 97, 61]⟩, .string ⟨#[99, 61, 50]⟩, .string ⟨#[37, 50, 48]⟩, .string ⟨#[43]⟩, .string ⟨#[37, 50, 70]⟩, .string ⟨#[37, 50, 102]⟩, .string ⟨#[126]⟩, .string ⟨#[38, 100, 61, 52]⟩, .string ⟨#[38, 38]⟩, .string ⟨#[101]⟩, .string ⟨#[37]⟩] 9)) _ B LA ns cap k w1.heap.size textStrs 16 (ht1.only hal) (by omega) (hnr1.below (hal.mono (by omega))) hf hk (by decide) (by decide) (by omega) (by simp) (fun i hi => by
          simp [go_sem]; exact textStrs_at i hi)).mono ?_
        rintro e w2 ⟨rfl, ho2, ht2⟩
        rw [show ((textStrs.length : Nat) : Int) = 16 from rfl] at ht2
        have hk2 := nextK_le ns k 16 hk
        have hsh := textStrs_small (nextV ns k 16).toNat
        rw [show ((textStrs.length : Nat) : Int) = 16 from rfl]
        have A1 : Hid (textF ns (most - (i + 1)) (nextK ns k 16) (acc ++ textStrs.getD (nextV ns k 16).toNat ByteArray.empty) = textF ns most 0 ByteArray.empty) := by
          have := Hacc.out
          rw [show most - i = (most - (i + 1)) + 1 by omega, textF, if_pos hkl] at this
          exact this
        generalize textStrs.getD (nextV ns k 16).toNat ByteArray.empty = sx at *
        generalize nextK ns k 16 = k2 at *
        have hnr2 := (hnr1.below (hal.mono (by omega))).only ho2 (by omega) (ht1.only hal).1
        have hs2 := ho2.size
        rw [size_alloc10] at hs2
        have hO : Hid (Only w.heap.size w1 w2) := ((Only.refl _ _).below hal).trans ho2
        clear ho2 hal Hacc
        have hbl2 : Hid (Below w.heap.size w w2) := hbl1.trans (hO.out.toBelow (Nat.le_refl _) (by omega))
        have hlen : acc.size + sx.size ≤ 9223372036854775807 := by omega
        go_wp2_with fail
        go_roundw
        case rel =>
          exact ⟨i + 1, k2, acc ++ sx, by simp, by simp, by omega, hk2, ht2, hnr2, hbl2.out, A1.out, by simp only [ByteArray.size_append]; omega⟩
        case measure =>
          simp [intOf]
          omega
      · go_wp2_with fail
        go_ret
        exact ⟨ret_str (by have := Hacc.out; rw [← this, show most - i = (most - (i + 1)) + 1 by omega, textF, if_neg hkl]), hbl1⟩
    · go_wp2_with fail
      go_ret
      exact ⟨ret_str (by have := Hacc.out; rw [← this, show most - i = 0 by omega, textF]), hbl⟩

end Go.Proofs.YtfoeeocejcbmlaaGreatDoor
