import Derived.Test.YtgmmbfnmojjbkaaGreatDoorW5
namespace Go.Proofs.YtgmmbfnmojjbkaaGreatDoor
open Go.RowKit
set_option linter.unusedVariables false
set_option linter.unusedSimpArgs false

theorem termAt (ns : List Int) (d : Nat) (di : Int) (hdi : di = (d : Int)) (hd : d ≤ 100) (w : World) (tb B : Nat) (LA : Option Addr) (cap k : Nat) (ht : TapeAt w tb LA ns.length cap k) (hB : B ≤ tb) (hns : NumsAt w B ns LA) (hf : NumsFit ns) (hk : k ≤ ns.length) :
    Calls Tryz.prog 27 #[.pointer (some ⟨tb, 0, none⟩), .int .i64 di] w fun e w' =>
      ∃ v, e = .returned v ∧ Only tb w w' ∧ TapeAt w' tb LA ns.length cap (tapeT ns d k).2 ∧ RepVG w' (fun b => w.heap.size ≤ b ∧ b < w'.heap.size) (tapeT ns d k).1.1 (tapeT ns d k).1.2 v := by
  subst hdi; exact term_any ns d hd w tb B LA cap k ht hB hns hf hk

set_option maxHeartbeats 1000000 in
theorem one_any (ns : List Int) (LA : Option Addr) (cap B : Nat) (w : World) (hB : B ≤ w.heap.size) (hns : NumsAt w B ns LA) (hf : NumsFit ns) :
    Calls Tryz.prog 11 #[.slice LA ns.length cap] w fun e w' => ∃ v, e = .returned v ∧ Below w.heap.size w w' ∧ RepVG w' (fun b => w.heap.size ≤ b ∧ b < w'.heap.size) (tapeT ns 4 0).1.1 (tapeT ns 4 0).1.2 v := by
  go_enter Tryz.func11, Tryz.ntmps11
  go_wp2_with fail
  refine (termAt ns 4 4 rfl (by decide) _ (w.heap.size + 1) B LA cap 0 ⟨by simp, by simp [go_sem], by simp [go_sem], by simp [go_sem]⟩ (by omega) ?hn hf (by omega)).mono ?_
  case hn =>
    rcases hns with h | ⟨lb, lo, e, hl, hc⟩
    · exact .inl h
    · refine .inr ⟨lb, lo, e, hl, fun i hi => ?_⟩
      rw [World.cell?_alloc_past _ _ _ (by simp; omega), World.cell?_alloc_past _ _ _ (by omega)]; exact hc i hi
  generalize hT0 : tapeT ns 4 0 = T
  have hT : Hid (tapeT ns 4 0 = T) := hT0
  clear hT0
  obtain ⟨⟨a1, l1⟩, k3⟩ := T
  rintro e w2 ⟨v, rfl, ho2, ht2, hfa, A1, cap1, b1, o1, rfl, hn1, hA1, hl1⟩
  have HA1 : Hid (flen l1 = 0 ∨ A1 = some ⟨b1, o1, none⟩) := hA1
  clear hA1
  have hs2 := ho2.size
  simp only [World.heap_size_alloc'] at hs2 hl1
  have hq : ∀ o, w2.cell? ⟨w.heap.size, o, none⟩ = (#[Value.int .i64 0, .int .i64 0, .string ⟨#[]⟩, .slice none 0 0] : Array Value)[o]? := fun o => by
    rw [ho2.cell (by simp; omega) (by simp)]; rw [World.cell?_alloc_past _ _ _ (by simp)]; simp [go_sem]
  have hqf : ∀ o, w2.frozen? ⟨w.heap.size, o, none⟩ = false := fun o => by
    rw [ho2.frozen (by simp; omega) (by simp)]; rw [World.frozen?_alloc_past _ _ _ (by simp)]; simp [go_sem]
  have r0 : w2.cell? ⟨w.heap.size, 0, none⟩ = some (.int .i64 0) := by rw [hq]; rfl
  have r1 : w2.cell? ⟨w.heap.size, 1, none⟩ = some (.int .i64 0) := by rw [hq]; rfl
  have r2 : w2.cell? ⟨w.heap.size, 2, none⟩ = some (.string ⟨#[]⟩) := by rw [hq]; rfl
  have r3 : w2.cell? ⟨w.heap.size, 3, none⟩ = some (.slice none 0 0) := by rw [hq]; rfl
  have f0 := hqf 0
  have f1 := hqf 1
  have f2 := hqf 2
  have f3 := hqf 3
  clear hq hqf
  go_wp2_with fail
  refine bodyPost_ret (v := .agg #[.int .i64 a1.kind, .int .i64 a1.n, .string a1.s, .slice A1 (flen l1) cap1]) (by simp [results, Tryz.results11, go_sem, r0, r1, r2, r3]) rfl ⟨_, rfl, ?_, ?_⟩
  · refine Only.toBelow (b := w.heap.size + 1) (Only.set4 ((Only.alloc (Only.alloc (Only.refl _ _) _) _).trans ho2) (Nat.le_refl _) _ _ _ _) (by omega) (Nat.le_refl _)
  · rw [hT.out]
    refine ⟨hfa, A1, cap1, b1, o1, rfl, hn1, HA1.out, ?_⟩
    refine RepG.keep (fun b hb => ⟨by omega, by rw [size_set4]; omega⟩) (fun b o hb => ?_) hl1
    rw [cell_set4 _ _ _ _ _ _ _ _ (by omega)]

end Go.Proofs.YtgmmbfnmojjbkaaGreatDoor
