import Derived.Test.YtfmkkalidcjilaaDoorT3
namespace Go.Proofs.YtfmkkalidcjilaaDoor
open Go.RowKit
set_option linter.unusedVariables false
set_option linter.unusedSimpArgs false

theorem below_tr {w w1 w2 : World} (h : Below w.heap.size w w1) (k : Below w1.heap.size w1 w2) : Below w.heap.size w w2 := h.trans (k.mono h.size)

theorem NumsAt.below {w w' : World} {B : Nat} {ns : List Int} {LA : Option Addr} (h : NumsAt w B ns LA) (hb : Below B w w') : NumsAt w' B ns LA := by
  rcases h with h | ⟨lb, lo, e, hl, hc⟩
  · exact .inl h
  · exact .inr ⟨lb, lo, e, hl, fun i hi => by rw [hb.cell (by simpa using hl)]; exact hc i hi⟩

/-- The texts that a tape picks of. -/
def someStrs : List ByteArray := [⟨#[97]⟩, ⟨#[90]⟩, ⟨#[48]⟩, ⟨#[45]⟩, ⟨#[126]⟩, ⟨#[32]⟩, ⟨#[195, 169]⟩, ⟨#[226, 130, 172]⟩, ⟨#[240, 159, 152, 128]⟩, ⟨#[239, 191, 189]⟩, ⟨#[255]⟩, ⟨#[195]⟩, ⟨#[226, 130]⟩, ⟨#[237, 160, 128]⟩, ⟨#[244, 144, 128, 128]⟩, ⟨#[192, 128]⟩, ⟨#[127]⟩, ⟨#[194, 133]⟩, ⟨#[194, 160]⟩, ⟨#[31]⟩, ⟨#[34]⟩, ⟨#[37]⟩, ⟨#[61]⟩, ⟨#[38]⟩, ⟨#[96]⟩, ⟨#[59]⟩, ⟨#[194, 161]⟩]

/-- What Some makes of a tape at place k: so many at most, behind acc. -/
def someF (ns : List Int) : Nat → Nat → ByteArray → ByteArray
  | 0, _, acc => acc
  | m + 1, k, acc => if k < ns.length then someF ns m (nextK ns k 27) (acc ++ someStrs.getD (nextV ns k 27).toNat ByteArray.empty) else acc

theorem someStrs_small (i : Nat) : (someStrs.getD i ByteArray.empty).size ≤ 4 := by
  rw [List.getD_eq_getElem?_getD]
  cases h : someStrs[i]? with
  | none => decide
  | some x =>
    have : ∀ x ∈ someStrs, x.size ≤ 4 := by decide +kernel
    exact this x (List.mem_of_getElem? h)

theorem someF_small (ns : List Int) : ∀ m k acc, (someF ns m k acc).size ≤ acc.size + 4 * m
  | 0, _, _ => Nat.le_refl _
  | m + 1, k, acc => by
    rw [someF]; split
    · have := someF_small ns m (nextK ns k 27) (acc ++ someStrs.getD (nextV ns k 27).toNat ByteArray.empty)
      have h2 := someStrs_small (nextV ns k 27).toNat
      simp only [ByteArray.size_append] at this
      omega
    · omega

theorem someStrs_at (i : Nat) (hi : i < 27) : [Value.string ⟨#[97]⟩, Value.string ⟨#[90]⟩, Value.string ⟨#[48]⟩, Value.string ⟨#[45]⟩, Value.string ⟨#[126]⟩, Value.string ⟨#[32]⟩, Value.string ⟨#[195, 169]⟩, Value.string ⟨#[226, 130, 172]⟩, Value.string ⟨#[240, 159, 152, 128]⟩, Value.string ⟨#[239, 191, 189]⟩, Value.string ⟨#[255]⟩, Value.string ⟨#[195]⟩, Value.string ⟨#[226, 130]⟩, Value.string ⟨#[237, 160, 128]⟩, Value.string ⟨#[244, 144, 128, 128]⟩, Value.string ⟨#[192, 128]⟩, Value.string ⟨#[127]⟩, Value.string ⟨#[194, 133]⟩, Value.string ⟨#[194, 160]⟩, Value.string ⟨#[31]⟩, Value.string ⟨#[34]⟩, Value.string ⟨#[37]⟩, Value.string ⟨#[61]⟩, Value.string ⟨#[38]⟩, Value.string ⟨#[96]⟩, Value.string ⟨#[59]⟩, Value.string ⟨#[194, 161]⟩][i]? = some (Value.string (someStrs[i]?.getD ByteArray.empty)) := by
  rcases (show i = 0 ∨ i = 1 ∨ i = 2 ∨ i = 3 ∨ i = 4 ∨ i = 5 ∨ i = 6 ∨ i = 7 ∨ i = 8 ∨ i = 9 ∨ i = 10 ∨ i = 11 ∨ i = 12 ∨ i = 13 ∨ i = 14 ∨ i = 15 ∨ i = 16 ∨ i = 17 ∨ i = 18 ∨ i = 19 ∨ i = 20 ∨ i = 21 ∨ i = 22 ∨ i = 23 ∨ i = 24 ∨ i = 25 ∨ i = 26 by omega) with rfl | rfl | rfl | rfl | rfl | rfl | rfl | rfl | rfl | rfl | rfl | rfl | rfl | rfl | rfl | rfl | rfl | rfl | rfl | rfl | rfl | rfl | rfl | rfl | rfl | rfl | rfl <;> rfl

theorem size_alloc6 (w : World) (o : Obj) : (w.alloc o).heap.size = w.heap.size + 1 := by simp

set_option maxRecDepth 20000 in
set_option maxHeartbeats 4000000 in
theorem some_any (ns : List Int) (LA : Option Addr) (cap B most : Nat) (hmost : most ≤ 1000) (w : World) (hB : B ≤ w.heap.size) (hns : NumsAt w B ns LA) (hf : NumsFit ns) :
    Calls Tryd.prog 8 #[.slice LA ns.length cap, .int .i64 (most : Int)] w fun e w' => e = .returned (.string (someF ns most 0 ByteArray.empty)) ∧ Below w.heap.size w w' := by
  have hnl := hf.1
  go_enter Tryd.func8, Tryd.ntmps8
  go_wp2_with fail
  go_loopw [6, 7] (fun sv iv wr => ∃ (i k : Nat) (acc : ByteArray), sv = .string acc ∧ iv = .int .i64 (i : Int) ∧ i ≤ most ∧ k ≤ ns.length ∧ TapeAt wr w.heap.size LA ns.length cap k ∧ NumsAt wr B ns LA ∧ Below w.heap.size w wr ∧ someF ns (most - i) k acc = someF ns most 0 ByteArray.empty ∧ acc.size ≤ 4 * i)
    (fun _ iv _ => most - (intOf iv).toNat)
  case atStart =>
    exact ⟨0, 0, ByteArray.empty, rfl, rfl, by omega, by omega, ⟨by simp, by simp [go_sem], by simp [go_sem], by simp [go_sem]⟩, hns.below (Below.mono (by repeat (first | exact Below.refl _ _ | assumption | refine below_drewN ?_ _ | refine Below.drew ?_ | refine Below.alloc ?_ (by simp <;> omega) _ | refine Below.setCell ?_ (by simp <;> omega) _)) hB), (by repeat (first | exact Below.refl _ _ | assumption | refine below_drewN ?_ _ | refine Below.drew ?_ | refine Below.alloc ?_ (by simp <;> omega) _ | refine Below.setCell ?_ (by simp <;> omega) _)), rfl, by decide⟩
  case round =>
    obtain ⟨i, k, acc, rfl, rfl, him, hk, ht, hnr, hbl, hacc, hsm⟩ := hrel
    have Hacc : Hid (someF ns (most - i) k acc = someF ns most 0 ByteArray.empty) := hacc
    clear hacc
    by_cases hlt : (i : Int) < (most : Int)
    · go_wp2_with fail
      refine (more_any _ _ _ _ _ _ ht hnl).mono ?_
      rintro e w1 ⟨rfl, m, rfl⟩
      have hbm : Below wr.heap.size wr (wr.drewN m) := below_drewN (Below.refl _ _) m
      generalize wr.drewN m = w1 at *
      have hs1 := hbm.size
      have hs0 := ht.1
      have ht1 := ht.only hbm
      have hnr1 : NumsAt w1 B ns LA := hnr.below (hbm.mono (by omega))
      have hbl1 := hbl.trans (hbm.mono (by omega))
      clear ht hnr hbl hbm
      by_cases hkl : k < ns.length
      · have hal : Below w1.heap.size w1 (w1.alloc (.cells #[.string ⟨#[97]⟩, .string ⟨#[90]⟩, .string ⟨#[48]⟩, .string ⟨#[45]⟩, .string ⟨#[126]⟩, .string ⟨#[32]⟩, .string ⟨#[195, 169]⟩, .string ⟨#[226, 130, 172]⟩, .string ⟨#[240, 159, 152, 128]⟩, .string ⟨#[239, 191, 189]⟩, .string ⟨#[255]⟩, .string ⟨#[195]⟩, .string ⟨#[226, 130]⟩, .string ⟨#[237, 160, 128]⟩, .string ⟨#[244, 144, 128, 128]⟩, .string ⟨#[192, 128]⟩, .string ⟨#[127]⟩, .string ⟨#[194, 133]⟩, .string ⟨#[194, 160]⟩, .string ⟨#[31]⟩, .string ⟨#[34]⟩, .string ⟨#[37]⟩, .string ⟨#[61]⟩, .string ⟨#[38]⟩, .string ⟨#[96]⟩, .string ⟨#[59]⟩, .string ⟨#[194, 161]⟩] 9)) := Below.alloc (Below.refl _ _) (Nat.le_refl _) _
        go_wp2_with fail
        refine (pick_any (w1.alloc (.cells #[.string ⟨#[97]⟩, .string ⟨#[90]⟩, .string ⟨#[48]⟩, .string ⟨#[45]⟩, .string ⟨#[126]⟩, .string ⟨#[32]⟩, .string ⟨#[195, 169]⟩, .string ⟨#[226, 130, 172]⟩, .string ⟨#[240, 159, 152, 128]⟩, .string ⟨#[239, 191, 189]⟩, .string ⟨#[255]⟩, .string ⟨#[195]⟩, .string ⟨#[226, 130]⟩, .string ⟨#[237, 160, 128]⟩, .string ⟨#[244, 144, 128, 128]⟩, .string ⟨#[192, 128]⟩, .string ⟨#[127]⟩, .string ⟨#[194, 133]⟩, .string ⟨#[194, 160]⟩, .string ⟨#[31]⟩, .string ⟨#[34]⟩, .string ⟨#[37]⟩, .string ⟨#[61]⟩, .string ⟨#[38]⟩, .string ⟨#[96]⟩, .string ⟨#[59]⟩, .string ⟨#[194, 161]⟩] 9)) _ B LA ns cap k w1.heap.size someStrs 27 (ht1.only hal) (by omega) (hnr1.below (hal.mono (by omega))) hf hk (by decide) (by decide) (by omega) (by simp) (fun i hi => by
          simp [go_sem]; exact someStrs_at i hi)).mono ?_
        rintro e w2 ⟨rfl, ho2, ht2⟩
        rw [show ((someStrs.length : Nat) : Int) = 27 from rfl] at ht2
        have hk2 := nextK_le ns k 27 hk
        have hsh := someStrs_small (nextV ns k 27).toNat
        rw [show ((someStrs.length : Nat) : Int) = 27 from rfl]
        have A1 : Hid (someF ns (most - (i + 1)) (nextK ns k 27) (acc ++ someStrs.getD (nextV ns k 27).toNat ByteArray.empty) = someF ns most 0 ByteArray.empty) := by
          have := Hacc.out
          rw [show most - i = (most - (i + 1)) + 1 by omega, someF, if_pos hkl] at this
          exact this
        generalize someStrs.getD (nextV ns k 27).toNat ByteArray.empty = sx at *
        generalize nextK ns k 27 = k2 at *
        have hnr2 := (hnr1.below (hal.mono (by omega))).only ho2 (by omega) (ht1.only hal).1
        have hs2 := ho2.size
        rw [size_alloc6] at hs2
        have hO : Hid (Only w.heap.size w1 w2) := ((Only.refl _ _).below hal).trans ho2
        clear ho2 hal Hacc
        have hbl2 : Hid (Below w.heap.size w w2) := hbl1.trans (hO.out.toBelow (Nat.le_refl _) (by omega))
        have hlen : acc.size + sx.size ≤ 9223372036854775807 := by omega
        go_wp2_with fail
        go_roundw
        case rel =>
          exact ⟨i + 1, k2, acc ++ sx, by simp, by simp, by omega, hk2, ht2, hnr2, hbl2.out, A1.out, by simp only [ByteArray.size_append]; omega⟩
        case measure =>
          simp [intOf]
          omega
      · go_wp2_with fail
        go_ret
        exact ⟨ret_str (by have := Hacc.out; rw [← this, show most - i = (most - (i + 1)) + 1 by omega, someF, if_neg hkl]), hbl1⟩
    · go_wp2_with fail
      go_ret
      exact ⟨ret_str (by have := Hacc.out; rw [← this, show most - i = 0 by omega, someF]), hbl⟩

end Go.Proofs.YtfmkkalidcjilaaDoor
