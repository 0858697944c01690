import Derived.Test.YtfoeeocejcbmlaaGreatDoorE2
namespace Go.Proofs.YtfoeeocejcbmlaaGreatDoor
open Go.RowKit
set_option linter.unusedVariables false
set_option linter.unusedSimpArgs false

theorem u8_back7 (s : ByteArray) (i : Nat) (h : i < s.size) : UInt8.ofNat (s[i]'h).toNat = s.data.toList[i]'(by simpa using h) := by
  simp; rfl

theorem encL_step (form : Bool) (s : ByteArray) (i : Nat) (h : i < s.size) : encL form (s.data.toList.take (i + 1)) = encL form (s.data.toList.take i) ++ wrL form (UInt8.ofNat (s[i]'h).toNat) := by
  rw [u8_back7 s i h, List.take_succ_eq_append_getElem (by simpa using h), encL_append]
  congr 1
  simp [encL]

set_option maxRecDepth 100000 in
set_option maxHeartbeats 1000000 in
theorem enc_any (s : ByteArray) (hs : s.size ≤ 1000000) (form : Bool) (B : Nat) (w : World) (ht : Tab16 B w) (hB : B ≤ w.heap.size) :
    Calls Tryz.prog 62 #[.string s, .bool form] w fun e w' => e = .returned (.string (encS form s)) ∧ Below w.heap.size w w' := by
  obtain ⟨i5, hi, hz0, hz1, hz2⟩ := info_has Tryz.infoByte
  go_enter Tryz.func62, Tryz.ntmps62
  go_wp2_with fail
  go_loopw [5, 9] (fun ov iv wr => ∃ i : Nat, iv = .int .i64 (i : Int) ∧ i ≤ s.size ∧ OwnB wr w.heap.size ov (encL form (s.data.toList.take i)) ∧ Below w.heap.size w wr) (fun _ iv _ => s.size - (intOf iv).toNat)
  case atStart => exact ⟨0, rfl, by omega, OwnB.nil _ _, Below.refl _ _⟩
  case round =>
    obtain ⟨i, rfl, hi0, hown, hb⟩ := hrel
    by_cases hp : i < s.size
    · have hp' : (i : Int) < (s.size : Int) := by omega
      have hst := encL_step form s i hp
      have hl := encL_len form (s.data.toList.take i)
      have hl2 : (encL form (s.data.toList.take i)).length ≤ 3000000 := by
        rw [List.length_take] at hl; omega
      have hc : (s[i]'hp).toNat < 256 := (s[i]'hp).toNat_lt
      have hwl := wr_le form (UInt8.ofNat (s[i]'hp).toNat)
      have ht1 : Tab16 B wr := ht.on (hb.mono hB)
      have hsz := hb.size
      have hwr := written_any _ hc form B _ ht1 (by omega)
      unfold WrEnd at hwr
      generalize encL form (s.data.toList.take i) = xs at *
      obtain ⟨wb, hwb⟩ : ∃ wb : ByteArray, wb = ⟨(wrL form (UInt8.ofNat (s[i]'hp).toNat)).toArray⟩ := ⟨_, rfl⟩
      rw [← hwb] at hwr
      have hwl' : wb.size ≤ 3 := by rw [hwb, ← size_list]; exact hwl
      have Hst : Hid (encL form (s.data.toList.take (i + 1)) = xs ++ wb.data.toList) := by show _ = _; rw [hst, hwb]
      have HO : Hid (OwnB wr w.heap.size u5 xs) := hown
      clear hown hl hst hwl hwb hc
      go_wp2_with (first | (go_at_call 83; refine hwr.mono ?_; rintro e w1 ⟨rfl, hb1⟩) | (at_builtin; refine wpList_append_str _ rfl _ _ 82 9 rfl w.heap.size 5 i5 Tryz.underlying82 Tryz.underlying9 hi hz0 hz1 hz2 u5 xs.length (Lib.byteCells xs) rfl (HO.out.below hb1) wb rfl (by unfold maxLen; omega) (by omega) (by have := hb1.size; omega) ?_))
      intro v6 w6 hown6 hgrow6 hat6
      have hs1 := hb1.size
      have hb6 : Below w.heap.size w w6 := by
        have g : Grew w1 w6 u5 v6 := ⟨hgrow6, fun q hq => by
          rcases hat6 with e | e
          · exact .inl (by rw [← e]; exact hq)
          · exact .inr (by rw [e] at hq; injection hq with hq; omega)⟩
        exact (hb.trans (hb1.mono hsz)).trans (g.toBelow (fun q hq => (HO.out.base q hq).1) (by omega))
      have O6 : Hid (OwnB w6 w.heap.size v6 (encL form (s.data.toList.take (i + 1)))) := by
        show OwnB _ _ _ _
        rw [Hst.out]
        have e : Lib.byteCells xs ++ Lib.strCells wb = Lib.byteCells (xs ++ wb.data.toList) := by rw [← byteCells_append]; rfl
        rw [e] at hown6
        simpa [OwnB] using hown6
      clear hown6 hgrow6 hat6 HO Hst
      go_wp2_with fail
      go_roundw
      case rel => exact ⟨i + 1, by simp, by omega, O6.out, hb6⟩
      case measure =>
        simp [intOf]
        omega
    · have hp' : ¬ (i : Int) < (s.size : Int) := by omega
      have hcv := conv_own hown
      have e : (⟨(encL form (s.data.toList.take i)).toArray⟩ : ByteArray) = encS form s := by
        rw [List.take_of_length_le (by rw [size_list]; omega)]; rfl
      rw [e] at hcv
      clear e
      have HO : Hid (OwnB wr w.heap.size u5 (encL form (s.data.toList.take i))) := hown
      clear hown
      go_wp2_with fail
      go_ret
      exact ⟨rfl, hb⟩

end Go.Proofs.YtfoeeocejcbmlaaGreatDoor
