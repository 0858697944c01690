import Derived.Test.YteohbkfogebldaaT4
import Derived.Test.YteohbkfogebldaaShelf
namespace Go.Proofs.Yteohbkfogebldaa
open Go.RowKit
set_option linter.unusedVariables false
set_option linter.unusedSimpArgs false

theorem clone_any (s : ByteArray) (w : World) (hlim : s.size ≤ 281474976710656) :
    Calls Try.prog 33 #[.string s] w fun e w' => e = .returned (.string s) ∧ Below w.heap.size w w' := by
  go_enter Try.func33, Try.ntmps33
  go_wp2_with fail
  refine (Try.stringslite_Clone s w hlim).mono ?_
  rintro e w1 ⟨rfl, hb⟩
  go_wp2_with fail
  go_ret
  exact ⟨rfl, hb⟩

set_option maxHeartbeats 2000000 in
theorem clip_any (s : ByteArray) (n : Int) (w : World) (hs : s.size ≤ 281474976710656) (h1 : -9223372036854775808 ≤ n) (h2 : n ≤ 9223372036854775807) :
    Calls Try.prog 16 #[.string s, .int .i64 n] w fun e w' => e = .returned (.string (s.extract 0 (clipF s s.size 0 n.toNat))) ∧ Below w.heap.size w w' := by
  go_enter Try.func16, Try.ntmps16
  go_wp2_with fail
  go_loopw [1, 5, 6] (fun nv ev _ wr => ∃ (m : Int) (pos fuel : Nat), nv = .int .i64 m ∧ ev = .int .i64 (s.size : Int) ∧ wr.heap[w.heap.size]? = some (.stringIter s pos) ∧ Below w.heap.size w wr ∧ clipF s fuel pos m.toNat = clipF s s.size 0 n.toNat ∧ s.size ≤ pos + fuel ∧ pos ≤ s.size ∧ -9223372036854775808 ≤ m ∧ m ≤ 9223372036854775807) (fun _ _ _ wr => s.size - wr.iterPos w.heap.size)
  case atStart =>
    exact ⟨n, 0, s.size, rfl, rfl, by simpa using World.iter_heap w s 0, (Below.refl _ w).alloc (Nat.le_refl _) _, rfl, by omega, by omega, h1, h2⟩
  case round =>
    obtain ⟨m, pos, fuel, rfl, rfl, hit, hbw, hacc, hfu, hps, hm1, hm2⟩ := hrel
    have Hacc : Hid (clipF s fuel pos m.toNat = clipF s s.size 0 n.toNat) := hacc
    clear hacc
    have hle := clipF_le s s.size 0 n.toNat (Nat.zero_le _)
    have Hle : Hid (clipF s s.size 0 n.toNat ≤ s.size) := hle
    clear hle
    have hsz : w.heap.size ≤ wr.heap.size := hbw.size
    by_cases hp : pos < s.size
    · have hnx : ∀ ty, (Instr.next (.pointer (some ⟨w.heap.size, 0, none⟩)) true ty).run Try.prog wr = _ := fun ty => Lib.run_next_any_at wr w.heap.size s pos ty hit hp
      have hwd := width_pos s pos hp
      have hwi := width_in s pos hp
      have hit2 := Lib.iterAt_heap wr w.heap.size s pos (pos + (Utf8.decode s pos).2) hit
      have hbw2 := Lib.below_iterAt hbw (k := w.heap.size) (Nat.le_refl _) s (pos + (Utf8.decode s pos).2)
      have hsz2 : w.heap.size ≤ (wr.iterAt w.heap.size s (pos + (Utf8.decode s pos).2)).heap.size := by rw [Lib.iterAt_size]; omega
      obtain ⟨f, rfl⟩ : ∃ f, fuel = f + 1 := ⟨fuel - 1, by omega⟩
      by_cases hm : m ≤ 0
      · have hex : (s.extract 0 pos).size ≤ 281474976710656 := by simp; omega
        go_wp2_with (go_at_call 33; refine (clone_any _ _ hex).mono ?_; rintro e W1 ⟨rfl, hb1⟩)
        go_ret
        refine ⟨ret_str ?_, hbw2.trans (hb1.mono hsz2)⟩
        have := Hacc.out; rw [show m.toNat = 0 by omega, clipF, if_neg (by omega)] at this; rw [← this]
      · go_wp2_with fail
        go_roundw
        case rel =>
          refine ⟨m - 1, pos + (Utf8.decode s pos).2, f, by simp, rfl, hit2, hbw2, ?_, by omega, by omega, by omega, by omega⟩
          have := Hacc.out; rw [clipF, if_pos ⟨hp, by omega⟩] at this; rw [← this]; congr 1; omega
        case measure =>
          simp only [World.iterPos, hit2, hit]
          omega
    · have hnx : ∀ ty, (Instr.next (.pointer (some ⟨w.heap.size, 0, none⟩)) true ty).run Try.prog wr = _ := fun ty => Lib.run_next_end_at wr w.heap.size s pos ty hit hp
      go_wp2_with (go_at_call 33; refine (clone_any s _ hs).mono ?_; rintro e W1 ⟨rfl, hb1⟩)
      go_ret
      refine ⟨ret_str ?_, hbw.trans (hb1.mono hsz)⟩
      have := Hacc.out; rw [clipF_end _ _ _ _ hp] at this; rw [← this, show pos = s.size by omega]; try simp

/-- A to Z as a to z. -/
def lowN (c : Nat) : Nat := if 65 ≤ c ∧ c ≤ 90 then c + 32 else c
def foldL (s : ByteArray) : List UInt8 := s.data.toList.map fun b => UInt8.ofNat (lowN b.toNat)
def foldS (s : ByteArray) : ByteArray := ⟨(foldL s).toArray⟩

theorem foldL_len (s : ByteArray) : (foldL s).length = s.size := by simp [foldL]
theorem foldL_at (s : ByteArray) (j : Nat) (h : j < (foldL s).length) : ((foldL s)[j].toNat : Int) = (lowN (bN s j) : Int) := by
  have h' : j < s.size := by rw [foldL_len] at h; exact h
  have hl := bN_lt s j
  have e : (s.data.toList[j]'(by simpa using h')).toNat = bN s j := by rw [← bN_at s j h']; rfl
  simp only [foldL, List.getElem_map, e]
  unfold lowN; simp; split <;> omega

theorem row_back (s : ByteArray) (g C : Nat) (wr : World) (h : ∀ j, j < s.size → wr.cell? ⟨g, j, none⟩ = some (.int .u8 (lowN (bN s j) : Int))) :
    (convert 33 9 (.slice (some ⟨g, 0, none⟩) s.size C)).run Try.prog wr = .ok (.string (foldS s)) wr := by
  have := run_convert_bytes_back (P := Try.prog) wr 33 9 5 ⟨g, 0, none⟩ C (foldL s) Try.underlying33 Try.underlying5 Try.underlying9 (fun j hj => by
    rw [foldL_at s j hj]
    have := h j (by rw [foldL_len] at hj; exact hj)
    have ea : (⟨g, 0, none⟩ : Addr).add j = ⟨g, j, none⟩ := by unfold Addr.add; split <;> simp_all
    rw [ea]; exact this)
  rw [foldL_len] at this
  exact this

/-- The row is folded up to i. -/
def FoldRow (s : ByteArray) (g i : Nat) (wr : World) : Prop :=
  ∀ j, j < s.size → wr.cell? ⟨g, j, none⟩ = some (.int .u8 ((if j < i then lowN (bN s j) else bN s j : Nat) : Int)) ∧ wr.frozen? ⟨g, j, none⟩ = false

theorem FoldRow.skip {s : ByteArray} {g i : Nat} {wr : World} (h : FoldRow s g i wr) (hc : ¬ (65 ≤ bN s i ∧ bN s i ≤ 90)) : FoldRow s g (i + 1) wr := by
  intro j hj
  obtain ⟨h1, h2⟩ := h j hj
  refine ⟨?_, h2⟩
  rw [h1]
  by_cases e : j = i
  · subst e; simp [lowN, hc]
  · by_cases e2 : j < i
    · simp [e2, show j < i + 1 by omega]
    · simp [e2, show ¬ j < i + 1 by omega]

theorem FoldRow.put {s : ByteArray} {g i : Nat} {wr : World} (h : FoldRow s g i wr) (hi : i < s.size) (hc : 65 ≤ bN s i ∧ bN s i ≤ 90) (v : Int) (hv : v = (bN s i : Int) + 32) :
    FoldRow s g (i + 1) (wr.setCell ⟨g, i, none⟩ (.int .u8 v)) := by
  subst hv
  intro j hj
  obtain ⟨h1, h2⟩ := h j hj
  obtain ⟨k1, k2⟩ := h i hi
  refine ⟨?_, by simpa using h2⟩
  by_cases e : j = i
  · subst e
    rw [World.cell?_setCell_same _ _ _ k1]
    simp [lowN, hc]
  · rw [World.cell?_setCell_other _ _ _ _ (by first | (simp; done) | (simp; omega)), h1]
    by_cases e2 : j < i
    · simp [e2, show j < i + 1 by omega]
    · simp [e2, show ¬ j < i + 1 by omega]

set_option maxHeartbeats 2000000 in
theorem fold_any (s : ByteArray) (w : World) (hs : s.size ≤ 9223372036854775807) :
    Calls Try.prog 25 #[.string s] w fun e w' => e = .returned (.string (foldS s)) ∧ Below w.heap.size w w' := by
  obtain ⟨C, W, hC, hconv, hbw, hsz, hrow⟩ := bytes_of s w
  go_enter Try.func25, Try.ntmps25
  go_wp2_with fail
  go_loopw [4, 5, 10] (fun _ _ iv wr => ∃ i : Nat, iv = .int .i64 (i : Int) ∧ FoldRow s w.heap.size i wr ∧ Below w.heap.size w wr ∧ i ≤ s.size) (fun _ _ iv _ => s.size - (intOf iv).toNat)
  case atStart =>
    exact ⟨0, rfl, fun j hj => by simpa using hrow j hj, hbw, by omega⟩
  case round =>
    obtain ⟨i, rfl, hr, hb, hi⟩ := hrel
    clear hrow hconv
    by_cases hp : i < s.size
    · have hp' : (i : Int) < (s.size : Int) := by omega
      have hcl := bN_lt s i
      obtain ⟨c1, c2⟩ := hr i hp
      rw [if_neg (by omega)] at c1
      have Hr : Hid (FoldRow s w.heap.size i wr) := hr
      clear hr
      by_cases hc : 65 ≤ bN s i ∧ bN s i ≤ 90
      · have g1 : (65 : Int) ≤ (bN s i : Int) := by omega
        have g2 : (bN s i : Int) ≤ 90 := by omega
        have hw1 : IntKind.u8.wrap ((bN s i : Int) - 65) = (bN s i : Int) - 65 := by rw [IntKind.wrap_u8]; omega
        have hw2 : IntKind.u8.wrap ((bN s i : Int) - 65 + 97) = (bN s i : Int) + 32 := by rw [IntKind.wrap_u8]; omega
        go_wp2_with fail
        go_roundw
        case rel =>
          exact ⟨i + 1, by simp, Hr.out.put hp hc _ (by omega), hb.setCell (Nat.le_refl _) _, by omega⟩
        case measure =>
          simp [intOf]
          omega
      · go_wp2_with fail
        all_goals go_roundw
        all_goals first | exact ⟨i + 1, by simp, Hr.out.skip hc, hb, by omega⟩ | (simp [intOf]; omega)
    · have hp' : ¬ (i : Int) < (s.size : Int) := by omega
      have hcv := row_back s w.heap.size C wr (fun j hj => by rw [(hr j hj).1, if_pos (by omega)])
      go_wp2_with fail
      go_ret
      exact ⟨rfl, hb⟩

end Go.Proofs.Yteohbkfogebldaa
