import Derived.Test.YtfoeeocejcbmlaaGreatDoorUW
import Derived.Test.YtfoeeocejcbmlaaGreatDoorQM
import Derived.Shelf.Strings.SlTrimAscii
namespace Go.Proofs.YtfoeeocejcbmlaaGreatDoor
open Go.RowKit Go.Shelf
set_option linter.unusedVariables false
set_option linter.unusedSimpArgs false

theorem trimset_any (s : ByteArray) (hs : s.size ≤ 1000000) (w : World) :
    Calls Tryz.prog 58 #[.string s, .string ⟨#[97, 98, 99, 100, 101, 102, 103, 104, 105, 106, 107, 108, 109, 110, 111, 112, 113, 114, 115, 116, 117, 118, 119, 120, 121, 122, 48, 49, 50, 51, 52, 53, 54, 55, 56, 57, 45, 46]⟩] w fun e w' => e = .returned (.string ⟨(Lib.trimS s.data.toList hostL).toArray⟩) ∧ Below w.heap.size w w' :=
  Any.strings_Trim_laid Tryz.lays160 (by kernel_rfl) s _ w (by omega) (by decide) (ascii_of_all (by decide))

set_option maxRecDepth 100000 in
set_option maxHeartbeats 1000000 in
theorem ishost_any (s : ByteArray) (hs : s.size ≤ 1000000) (w : World) :
    Calls Tryz.prog 43 #[.string s] w fun e w' => e = .returned (.bool (isHost s)) ∧ Below w.heap.size w w' := by
  have ht := trimset_any s hs w
  have he := trim_host s
  generalize (⟨(Lib.trimS s.data.toList hostL).toArray⟩ : ByteArray) = x at *
  have HI : Hid (isHost s = (s.data.toList.all hostB && decide (1 ≤ s.size ∧ s.size ≤ 64))) := rfl
  generalize s.data.toList.all hostB = b at *
  by_cases h1 : 1 ≤ s.size
  · have h1' : (1 : Int) ≤ (s.size : Int) := by omega
    by_cases h2 : s.size ≤ 64
    · have h2' : (s.size : Int) ≤ 64 := by omega
      go_enter Tryz.func43, Tryz.ntmps43
      go_wp2_with (go_at_call 58; refine ht.mono ?_; rintro e w1 ⟨rfl, hb1⟩)
      go_ret
      exact ⟨ret_bool (by rw [HI.out, decide_eq_true (⟨h1, h2⟩ : 1 ≤ s.size ∧ s.size ≤ 64), Bool.and_true]), hb1⟩
    · have h2' : ¬ (s.size : Int) ≤ 64 := by omega
      clear ht
      go_enter Tryz.func43, Tryz.ntmps43
      go_wp2_with fail
      go_ret
      exact ⟨ret_bool (by rw [HI.out, decide_eq_false (fun h : 1 ≤ s.size ∧ s.size ≤ 64 => h2 h.2), Bool.and_false]), Below.refl _ _⟩
  · have h1' : ¬ (1 : Int) ≤ (s.size : Int) := by omega
    clear ht
    go_enter Tryz.func43, Tryz.ntmps43
    go_wp2_with fail
    go_ret
    exact ⟨ret_bool (by rw [HI.out, decide_eq_false (fun h : 1 ≤ s.size ∧ s.size ≤ 64 => h1 h.1), Bool.and_false]), Below.refl _ _⟩

theorem pre47 (s : ByteArray) : Lib.hasPrefix s.data.toList [47] = decide (s.data.toList.head? = some 47) := by
  cases h : s.data.toList with
  | nil => rfl
  | cons a l =>
    rw [List.head?_cons, Bool.eq_iff_iff, decide_eq_true_eq]
    simp [Lib.hasPrefix]
    exact eq_comm

set_option maxRecDepth 100000 in
set_option maxHeartbeats 1000000 in
theorem ispath_any {w0 : World} (ht : Tab16 w0.heap.size w0) (s : ByteArray) (hs : s.size ≤ 1000000) (w : World) (hW : Below w0.heap.size w0 w) :
    Calls Tryz.prog 45 #[.string s] w fun e w' => e = .returned (.bool (isPath s)) ∧ Below w.heap.size w w' := by
  have h1 := replall_any s hs w
  have h2 := fun W => Tryz.strings_HasPrefix s ⟨#[47]⟩ W
  rw [show (⟨#[47]⟩ : ByteArray).data.toList = [47] from rfl, pre47] at h2
  have h3 := fun W hW => enc_at ht (bareS s) (Nat.le_trans (bare_size s) hs) false _ rfl W hW
  have he := path_bare s
  have HI : Hid (isPath s = (s.data.toList.all pathB && decide (s.data.toList.head? = some 47))) := rfl
  generalize bareS s = x at *
  generalize encS false x = y at *
  generalize s.data.toList.all pathB = b at *
  generalize decide (s.data.toList.head? = some 47) = c at *
  go_enter Tryz.func45, Tryz.ntmps45
  go_wp2_with fail
  refine h1.mono ?_
  rintro e w1 ⟨rfl, hb1⟩
  have hW1 := hW.trans (hb1.mono hW.size)
  cases c with
  | false =>
    go_wp2_with (go_at_call 61; refine (h2 _).mono ?_; rintro e w2 ⟨rfl, hw2⟩; rw [hw2]; clear hw2 w2)
    go_ret
    exact ⟨ret_bool (by rw [HI.out, Bool.and_false]), hb1⟩
  | true =>
    have h4 := h3 w1 hW1
    clear h3
    go_wp2_with (first | (go_at_call 61; refine (h2 _).mono ?_; rintro e w2 ⟨rfl, hw2⟩; rw [hw2]; clear hw2 w2) | (go_at_call 62; refine h4.mono ?_; rintro e w3 ⟨rfl, hb3⟩))
    go_ret
    exact ⟨ret_bool (by rw [HI.out, Bool.and_true]), below_tr hb1 hb3⟩

end Go.Proofs.YtfoeeocejcbmlaaGreatDoor
