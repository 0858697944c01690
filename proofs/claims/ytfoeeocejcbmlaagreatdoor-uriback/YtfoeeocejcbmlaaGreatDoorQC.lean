import Derived.Test.YtfoeeocejcbmlaaGreatDoorQA
namespace Go.Proofs.YtfoeeocejcbmlaaGreatDoor
open Go.RowKit
set_option linter.unusedVariables false
set_option linter.unusedSimpArgs false

theorem list1 (c : UInt8) : (⟨#[c]⟩ : ByteArray).toList = [c] := by rw [ByteArray.toList_eq]
theorem size1 (c : UInt8) : (⟨#[c]⟩ : ByteArray).size = 1 := rfl

theorem heq1 (s : ByteArray) (c : UInt8) (i : Nat) (h : i < s.size) (hc : s[i]'h = c) : ((s.extract i (i + 1)).toList == [c]) = true := by
  have := toList_eq (show s.extract i (i + 1) = ⟨#[c]⟩ by rw [one_ext s i h, hc])
  rwa [list1] at this
theorem hne1 (s : ByteArray) (c : UInt8) (i : Nat) (h : i < s.size) (hc : ¬ s[i]'h = c) : ((s.extract i (i + 1)).toList == [c]) = false := by
  have := toList_ne (show ¬ s.extract i (i + 1) = ⟨#[c]⟩ by rw [one_ext s i h]; intro e; injection e with e; exact hc (by simpa using e))
  rwa [list1] at this

def RPartsRel (c : UInt8) (w : World) (s : ByteArray) (ov fv iv : Value) (wr : World) : Prop :=
  ∃ (done : List ByteArray) (fr i : Nat), fv = .int .i64 (fr : Int) ∧ iv = .int .i64 (i : Int) ∧ fr ≤ i ∧ i ≤ s.size ∧ done.length ≤ i ∧
    done.map (·.data.toList) ++ brk (fun d => d == c) (s.data.toList.drop i) (s.extract fr i).data.toList = brk (fun d => d == c) s.data.toList [] ∧ OwnS wr w.heap.size ov done ∧ Below w.heap.size w wr

set_option maxRecDepth 100000 in
set_option maxHeartbeats 1000000 in
theorem rpartsc_any (c : UInt8) (s : ByteArray) (w : World) (hm : s.size ≤ 1000000) :
    Calls Tryz.prog 50 #[.string s, .string ⟨#[c]⟩] w fun e w' =>
      ∃ (ps : List ByteArray) (u : Value), e = .returned u ∧ ps.map (·.data.toList) = brk (fun d => d == c) s.data.toList [] ∧ OwnS w' w.heap.size u ps ∧ Below w.heap.size w w' := by
  obtain ⟨i5, hi, hz0, hz1, hz2⟩ := info_has Tryz.infoStr
  go_enter Tryz.func50, Tryz.ntmps50
  go_wp2_with fail
  go_loopw [5, 6, 7] (fun ov fv iv wr => RPartsRel c w s ov fv iv wr) (fun _ _ iv _ => s.size - (intOf iv).toNat)
  case atStart => exact ⟨[], 0, 0, rfl, rfl, Nat.le_refl _, Nat.zero_le _, Nat.le_refl _, by rw [ext_list]; rfl, OwnS.nil _ _, Below.refl _ _⟩
  case round =>
    obtain ⟨done, fr, i, rfl, rfl, hfi, his, hdl, hbr, hown, hb⟩ := hrel
    have HO : Hid (OwnS wr w.heap.size u5 done) := hown
    have HB : Hid (Below w.heap.size w wr) := hb
    have hsz := hb.size
    have HBR : Hid (done.map (·.data.toList) ++ brk (fun d => d == c) (s.data.toList.drop i) (s.extract fr i).data.toList = brk (fun d => d == c) s.data.toList []) := hbr
    clear hbr hown hb
    by_cases hp : i < s.size
    · have hp' : (i : Int) + 1 ≤ (s.size : Int) := by omega
      have hfi' : (fr : Int) ≤ (i : Int) := by omega
      have hle1 : (i : Int) ≤ (i : Int) + 1 := by omega
      have hdr := tail_at s i hp
      by_cases hc : s[i]'hp = c
      · have heq := heq1 s c i hp hc
        have HN : Hid ((done ++ [s.extract fr i]).map (·.data.toList) ++ brk (fun d => d == c) (s.data.toList.drop (i + 1)) (s.extract (i + 1) (i + 1)).data.toList = brk (fun d => d == c) s.data.toList []) := by
          show _ = _
          rw [← HBR.out, hdr, brk, if_pos (by rw [hc]; simp), ext_list]
          simp
        clear hdr hc
        go_wp2_with (at_builtin; refine wpList_append_any _ rfl _ _ 24 rfl w.heap.size 9 i5 (.string ⟨#[]⟩) 1 16 Tryz.underlying24 hi hz0 hz1 hz2 rfl (by decide) u5 done.length (done.map Value.string) rfl ?own (some ⟨wr.heap.size, 0, none⟩) 1 1 [.string (s.extract fr i)] rfl ?src ?c3 ?c4 ?c5 ?_)
        case own => exact World.ownsRow.alloc HO.out _
        case src => exact .inr ⟨_, rfl, rfl, World.news_of_block (t := 9) (fr := (0, 0)) (heap_alloc_new wr _), by simp [Value.oneCell']⟩
        case c3 => unfold maxLen; omega
        case c4 => omega
        case c5 => first | omega | (simp; omega)
        intro v6 w6 hown6 hgrow6 hat6
        have O6 : Hid (OwnS w6 w.heap.size v6 (done ++ [s.extract fr i])) := OwnS.snoc hown6
        have B6 : Hid (Below w.heap.size w w6) := below_endR HB.out HO.out hgrow6 hat6 hsz
        clear hown6 hgrow6 hat6
        go_wp2_with fail
        go_roundw
        case rel =>
          exact ⟨done ++ [s.extract fr i], i + 1, i + 1, by go_num, by go_num, Nat.le_refl _, by omega, by simp; omega, HN.out, O6.out, B6.out⟩
        case measure => simp [intOf]; omega
      · have heq := hne1 s c i hp hc
        have HN : Hid (done.map (·.data.toList) ++ brk (fun d => d == c) (s.data.toList.drop (i + 1)) (s.extract fr (i + 1)).data.toList = brk (fun d => d == c) s.data.toList []) := by
          show _ = _
          rw [← HBR.out, hdr, brk, if_neg (by simpa using hc), ext_snoc s fr i hp hfi]
        clear hdr hc
        go_wp2_with fail
        go_roundw
        case rel =>
          exact ⟨done, fr, i + 1, rfl, by go_num, by omega, by omega, by omega, HN.out, HO.out, HB.out⟩
        case measure => simp [intOf]; omega
    · obtain rfl : i = s.size := by omega
      have hp' : ¬ (s.size : Int) + 1 ≤ (s.size : Int) := by omega
      have hfi' : (fr : Int) ≤ (s.size : Int) := by omega
      have HN : Hid ((done ++ [s.extract fr s.size]).map (·.data.toList) = brk (fun d => d == c) s.data.toList []) := by
        show _ = _
        rw [← HBR.out, List.drop_of_length_le (by rw [size_list]; omega), brk, List.map_append]; rfl
      skip
      · skip
        go_wp2_with (at_builtin; refine wpList_append_any _ rfl _ _ 24 rfl w.heap.size 9 i5 (.string ⟨#[]⟩) 1 16 Tryz.underlying24 hi hz0 hz1 hz2 rfl (by decide) u5 done.length (done.map Value.string) rfl ?own (some ⟨wr.heap.size, 0, none⟩) 1 1 [.string (s.extract fr s.size)] rfl ?src ?c3 ?c4 ?c5 ?_)
        case own => exact World.ownsRow.alloc HO.out _
        case src => exact .inr ⟨_, rfl, rfl, World.news_of_block (t := 9) (fr := (0, 0)) (heap_alloc_new wr _), by simp [Value.oneCell']⟩
        case c3 => unfold maxLen; omega
        case c4 => omega
        case c5 => first | omega | (simp; omega)
        intro v6 w6 hown6 hgrow6 hat6
        have O6 : Hid (OwnS w6 w.heap.size v6 (done ++ [s.extract fr s.size])) := OwnS.snoc hown6
        have B6 : Hid (Below w.heap.size w w6) := below_endR HB.out HO.out hgrow6 hat6 hsz
        clear hown6 hgrow6 hat6
        go_wp2_with fail
        go_ret
        exact ⟨_, _, rfl, HN.out, O6.out, B6.out⟩

theorem cut_at (c : UInt8) (s : ByteArray) (i : Nat) (h : i < s.size) (hc : s[i]'h = c) (hn : ∀ d ∈ s.data.toList.take i, (d == c) = false) : cutX c s = s.extract 0 i ∧ cutY c s = s.extract (i + 1) s.size ∧ cutZ c s = true := by
  have e : s.data.toList = s.data.toList.take i ++ c :: s.data.toList.drop (i + 1) := by
    conv => lhs; rw [← List.take_append_drop i s.data.toList, tail_at s i h, hc]
  have : cutL c s.data.toList = some (s.data.toList.take i, s.data.toList.drop (i + 1)) := by
    conv => lhs; rw [e]
    exact cutL_app c _ _ hn
  obtain ⟨g1, g2, g3⟩ := cut_hit this
  refine ⟨?_, ?_, g3⟩
  · rw [g1]; apply ba_ext; rw [ba_list, ext_list]; simp
  · rw [g2]; apply ba_ext; rw [ba_list, ext_list, List.take_of_length_le (by rw [List.length_drop, size_list]; omega)]

set_option maxRecDepth 100000 in
set_option maxHeartbeats 1000000 in
theorem rcut_any (c : UInt8) (s : ByteArray) (w : World) (hm : s.size ≤ 1000000) :
    Calls Tryz.prog 28 #[.string s, .string ⟨#[c]⟩] w fun e w' => e = .returned (.tuple #[.string (cutX c s), .string (cutY c s), .bool (cutZ c s)]) ∧ Below w.heap.size w w' := by
  go_enter Tryz.func28, Tryz.ntmps28
  go_wp2_with fail
  go_loopw [7] (fun iv wr => ∃ i : Nat, iv = .int .i64 (i : Int) ∧ i ≤ s.size ∧ (∀ d ∈ s.data.toList.take i, (d == c) = false) ∧ Below w.heap.size w wr) (fun iv _ => s.size - (intOf iv).toNat)
  case atStart => exact ⟨0, rfl, Nat.zero_le _, by simp, Below.refl _ _⟩
  case round =>
    obtain ⟨i, rfl, his, hn, hb⟩ := hrel
    have HN : Hid (∀ d ∈ s.data.toList.take i, (d == c) = false) := hn
    have HB : Hid (Below w.heap.size w wr) := hb
    clear hn hb
    by_cases hp : i < s.size
    · have hp' : (i : Int) + 1 ≤ (s.size : Int) := by omega
      have hle1 : (i : Int) ≤ (i : Int) + 1 := by omega
      have hp2 : (i : Int) ≤ (s.size : Int) := by omega
      have hp3 : (0 : Int) ≤ (i : Int) := by omega
      have hp4 : (0 : Int) ≤ (i : Int) + 1 := by omega
      by_cases hc : s[i]'hp = c
      · have heq := heq1 s c i hp hc
        have HE : Hid (cutX c s = s.extract 0 i ∧ cutY c s = s.extract (i + 1) s.size ∧ cutZ c s = true) := cut_at c s i hp hc HN.out
        clear hc
        go_wp2_with fail
        go_region
        go_wp2_with fail
        exact bodyPost_ret (v := .tuple #[.string (s.extract 0 i), .string (s.extract (i + 1) s.size), .bool true]) (by simp [results, Tryz.results28, go_sem]) rfl ⟨by rw [HE.out.1, HE.out.2.1, HE.out.2.2], HB.out.drew⟩
      · have heq := hne1 s c i hp hc
        have HN2 : Hid (∀ d ∈ s.data.toList.take (i + 1), (d == c) = false) := by
          intro d hd
          rw [List.take_succ_eq_append_getElem (by rw [size_list]; exact hp)] at hd
          rcases List.mem_append.1 hd with hd | hd
          · exact HN.out d hd
          · simp at hd; subst hd; rw [beq_eq_false_iff_ne]; exact hc
        clear hc
        go_wp2_with fail
        go_roundw
        case rel => exact ⟨i + 1, by go_num, by omega, HN2.out, HB.out⟩
        case measure => simp [intOf]; omega
    · obtain rfl : i = s.size := by omega
      have hp' : ¬ (s.size : Int) + 1 ≤ (s.size : Int) := by omega
      have hcl : cutL c s.data.toList = none := cutL_no c _ (fun d hd => HN.out d (by rw [List.take_of_length_le (by rw [size_list]; omega)]; exact hd))
      have HE : Hid (cutX c s = s ∧ cutY c s = ⟨#[]⟩ ∧ cutZ c s = false) := cut_miss hcl
      clear hcl
      go_wp2_with fail
      exact bodyPost_ret (v := .tuple #[.string s, .string ⟨#[]⟩, .bool false]) (by simp [results, Tryz.results28, go_sem]) rfl ⟨by rw [HE.out.1, HE.out.2.1, HE.out.2.2], HB.out⟩

end Go.Proofs.YtfoeeocejcbmlaaGreatDoor
