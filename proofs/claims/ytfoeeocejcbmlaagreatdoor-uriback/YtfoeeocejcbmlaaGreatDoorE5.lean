import Derived.Test.YtfoeeocejcbmlaaGreatDoorE4
namespace Go.Proofs.YtfoeeocejcbmlaaGreatDoor
open Go.RowKit
set_option linter.unusedVariables false
set_option linter.unusedSimpArgs false

set_option maxHeartbeats 1000000 in
theorem rhex_any (n : Nat) (hn : n < 16) (w : World) :
    Calls Tryz.prog 88 #[.int .i64 (n : Int)] w fun e w' => e = .returned (.int .u8 (hexN n : Int)) ∧ w' = w := by
  by_cases h : n < 10
  · have h' : (n : Int) < 10 := by omega
    go_enter Tryz.func88, Tryz.ntmps88
    go_wp2_with fail
    go_ret
    exact ⟨ret_int (by rw [hexN, if_pos h]; omega), rfl⟩
  · have h' : ¬ (n : Int) < 10 := by omega
    go_enter Tryz.func88, Tryz.ntmps88
    go_wp2_with fail
    go_ret
    exact ⟨ret_int (by rw [hexN, if_neg h]; omega), rfl⟩

set_option maxHeartbeats 1000000 in
theorem rdig_any (c : Nat) (hc : c < 256) (w : World) :
    Calls Tryz.prog 68 #[.int .u8 (c : Int)] w fun e w' => e = .returned (.int .i64 (digN c)) ∧ w' = w := by
  go_enter Tryz.func68, Tryz.ntmps68
  go_wp2_with fail
  all_goals go_ret
  all_goals exact ⟨ret_int (by unfold digN; (repeat' split) <;> omega), rfl⟩

theorem wr_bytes1 (form : Bool) (c : Nat) (hc : c < 256) (h : plainB (c : Int) = true) : [Value.int .u8 (c : Int)] = Lib.byteCells (wrL form (UInt8.ofNat c)) := by
  have e : (UInt8.ofNat c).toNat = c := by simp; omega
  rw [wrL, e, if_pos h]; simp [Lib.byteCells]; omega
theorem wr_len1 (form : Bool) (c : Nat) (hc : c < 256) (h : plainB (c : Int) = true) : 1 = (wrL form (UInt8.ofNat c)).length := by
  have e : (UInt8.ofNat c).toNat = c := by simp; omega
  rw [wrL, e, if_pos h]; rfl
theorem wr_bytes3 (form : Bool) (c : Nat) (hc : c < 256) (h : plainB (c : Int) = false) (h2 : ¬ (form = true ∧ c = 32)) : [Value.int .u8 37, Value.int .u8 (hexN (c / 16) : Int), Value.int .u8 (hexN (c % 16) : Int)] = Lib.byteCells (wrL form (UInt8.ofNat c)) := by
  have e : (UInt8.ofNat c).toNat = c := by simp; omega
  have h1 : hexN (c / 16) < 256 := by unfold hexN; split <;> omega
  have h3 : hexN (c % 16) < 256 := by unfold hexN; split <;> omega
  rw [wrL, e, if_neg (by rw [h]; simp), if_neg h2]
  simp [Lib.byteCells]; omega
theorem wr_len3 (form : Bool) (c : Nat) (hc : c < 256) (h : plainB (c : Int) = false) (h2 : ¬ (form = true ∧ c = 32)) : 3 = (wrL form (UInt8.ofNat c)).length := by
  have e : (UInt8.ofNat c).toNat = c := by simp; omega
  rw [wrL, e, if_neg (by rw [h]; simp), if_neg h2]; rfl

set_option maxRecDepth 100000 in
set_option maxHeartbeats 2000000 in
theorem renc_any (s : ByteArray) (hs : s.size ≤ 1000000) (form : Bool) (w : World) :
    Calls Tryz.prog 69 #[.string s, .bool form] w fun e w' => e = .returned (.string (encS form s)) ∧ Below w.heap.size w w' := by
  obtain ⟨i5, hi, hz0, hz1, hz2⟩ := info_has Tryz.infoByte
  go_enter Tryz.func69, Tryz.ntmps69
  go_wp2_with fail
  go_loopw [5, 6] (fun ov iv wr => ∃ i : Nat, iv = .int .i64 (i : Int) ∧ i ≤ s.size ∧ OwnB wr w.heap.size ov (encL form (s.data.toList.take i)) ∧ Below w.heap.size w wr) (fun _ iv _ => s.size - (intOf iv).toNat)
  case atStart => exact ⟨0, rfl, by omega, OwnB.nil _ _, Below.refl _ _⟩
  case round =>
    obtain ⟨i, rfl, hi0, hown, hb⟩ := hrel
    by_cases hp : i < s.size
    · have hp' : (i : Int) < (s.size : Int) := by omega
      have hst := encL_step form s i hp
      have hl := encL_len form (s.data.toList.take i)
      have hl2 : (encL form (s.data.toList.take i)).length ≤ 3000000 := by
        rw [List.length_take] at hl; omega
      have hc : (s[i]'hp).toNat < 256 := (s[i]'hp).toNat_lt
      have hsz := hb.size
      have hix : ∀ W, (Instr.index 9 (.string s) (.int .i64 (i : Int))).run Tryz.prog W = .ok (.int .u8 ((s[i]'hp).toNat : Int)) W := fun W => by simp [go_sem, hp]
      generalize encL form (s.data.toList.take i) = xs at *
      generalize hc0 : (s[i]'hp).toNat = c at *
      have Hst : Hid (encL form (s.data.toList.take (i + 1)) = xs ++ wrL form (UInt8.ofNat c)) := hst
      have HO : Hid (OwnB wr w.heap.size u5 xs) := hown
      clear hown hl hst hc0
      have hpl := fun W => plain6_any c hc W
      generalize hb0 : plainB (c : Int) = b at *
      have Hp : Hid (plainB (c : Int) = b) := hb0
      clear hb0
      cases b
      · by_cases h32 : form = true ∧ c = 32
        · obtain ⟨rfl, rfl⟩ := h32
          go_wp2_with (first | (go_at_call 49; refine (hpl _).mono ?_; rintro e w1 ⟨rfl, hw1⟩; rw [hw1]; clear hw1 w1) | (at_builtin; refine wpList_append_any _ rfl _ _ 82 rfl w.heap.size 5 i5 (.int .u8 0) 1 1 Tryz.underlying82 hi hz0 hz1 hz2 rfl (by decide) u5 xs.length (Lib.byteCells xs) rfl (HO.out.alloc _) (some ⟨wr.heap.size, 0, none⟩) 1 1 [.int .u8 43] rfl (.inr ⟨_, rfl, rfl, World.news_of_block (t := 5) (fr := (0, 0)) (heap_alloc_new wr _), by simp [Value.oneCell']⟩) (by unfold maxLen; omega) (by omega) (by simp; omega) ?_))
          intro v6 w6 hown6 hgrow6 hat6
          have hb6 : Below w.heap.size w w6 := hb.trans (below_end HO.out hgrow6 hat6 hsz)
          have O6 : Hid (OwnB w6 w.heap.size v6 (encL true (s.data.toList.take (i + 1)))) := by
            show OwnB _ _ _ _
            rw [Hst.out]
            exact append_end hown6 (rfl) (rfl)
          clear hown6 hgrow6 hat6 HO Hst
          go_wp2_with fail
          go_roundw
          case rel => exact ⟨i + 1, by simp, by omega, O6.out, hb6⟩
          case measure =>
            simp [intOf]
            omega
        · have H32 : Hid (¬ (form = true ∧ c = 32)) := h32
          cases form
          · clear h32
            have q1 : Int.tdiv (c : Int) 16 = ((c / 16 : Nat) : Int) := rfl
            have q2 : Int.tmod (c : Int) 16 = ((c % 16 : Nat) : Int) := rfl
            have hx1 := fun W => rhex_any (c / 16) (by omega) W
            have hx2 := fun W => rhex_any (c % 16) (by omega) W
            go_wp2_with (first | (go_at_call 49; refine (hpl _).mono ?_; rintro e w1 ⟨rfl, hw1⟩; rw [hw1]; clear hw1 w1) | (go_at_call 88; first | (refine (hx1 _).mono ?_; rintro e w1 ⟨rfl, hw1⟩; rw [hw1]; clear hw1 w1 hx1) | (refine (hx2 _).mono ?_; rintro e w1 ⟨rfl, hw1⟩; rw [hw1]; clear hw1 w1 hx2)) | (at_builtin; refine wpList_append_any _ rfl _ _ 82 rfl w.heap.size 5 i5 (.int .u8 0) 1 1 Tryz.underlying82 hi hz0 hz1 hz2 rfl (by decide) u5 xs.length (Lib.byteCells xs) rfl (HO.out.alloc _) (some ⟨wr.heap.size, 0, none⟩) 3 3 [.int .u8 37, .int .u8 (hexN (c / 16) : Int), .int .u8 (hexN (c % 16) : Int)] rfl (.inr ⟨_, rfl, rfl, World.news_of_block (t := 5) (fr := (0, 0)) (heap_alloc_new wr _), by simp [Value.oneCell']⟩) (by unfold maxLen; omega) (by omega) (by simp; omega) ?_))
            intro v6 w6 hown6 hgrow6 hat6
            have hb6 : Below w.heap.size w w6 := hb.trans (below_end HO.out hgrow6 hat6 hsz)
            have O6 : Hid (OwnB w6 w.heap.size v6 (encL false (s.data.toList.take (i + 1)))) := by
              show OwnB _ _ _ _
              rw [Hst.out]
              exact append_end hown6 (wr_bytes3 _ c hc Hp.out (by have h := H32.out; simp at h ⊢ <;> exact h)) (wr_len3 _ c hc Hp.out (by have h := H32.out; simp at h ⊢ <;> exact h))
            clear hown6 hgrow6 hat6 HO Hst
            go_wp2_with fail
            go_roundw
            case rel => exact ⟨i + 1, by simp, by omega, O6.out, hb6⟩
            case measure =>
              simp [intOf]
              omega
          · have h32' : ((c : Int) == 32) = false := by simp at h32 ⊢; omega
            clear h32
            have q1 : Int.tdiv (c : Int) 16 = ((c / 16 : Nat) : Int) := rfl
            have q2 : Int.tmod (c : Int) 16 = ((c % 16 : Nat) : Int) := rfl
            have hx1 := fun W => rhex_any (c / 16) (by omega) W
            have hx2 := fun W => rhex_any (c % 16) (by omega) W
            go_wp2_with (first | (go_at_call 49; refine (hpl _).mono ?_; rintro e w1 ⟨rfl, hw1⟩; rw [hw1]; clear hw1 w1) | (go_at_call 88; first | (refine (hx1 _).mono ?_; rintro e w1 ⟨rfl, hw1⟩; rw [hw1]; clear hw1 w1 hx1) | (refine (hx2 _).mono ?_; rintro e w1 ⟨rfl, hw1⟩; rw [hw1]; clear hw1 w1 hx2)) | (at_builtin; refine wpList_append_any _ rfl _ _ 82 rfl w.heap.size 5 i5 (.int .u8 0) 1 1 Tryz.underlying82 hi hz0 hz1 hz2 rfl (by decide) u5 xs.length (Lib.byteCells xs) rfl (HO.out.alloc _) (some ⟨wr.heap.size, 0, none⟩) 3 3 [.int .u8 37, .int .u8 (hexN (c / 16) : Int), .int .u8 (hexN (c % 16) : Int)] rfl (.inr ⟨_, rfl, rfl, World.news_of_block (t := 5) (fr := (0, 0)) (heap_alloc_new wr _), by simp [Value.oneCell']⟩) (by unfold maxLen; omega) (by omega) (by simp; omega) ?_))
            intro v6 w6 hown6 hgrow6 hat6
            have hb6 : Below w.heap.size w w6 := hb.trans (below_end HO.out hgrow6 hat6 hsz)
            have O6 : Hid (OwnB w6 w.heap.size v6 (encL true (s.data.toList.take (i + 1)))) := by
              show OwnB _ _ _ _
              rw [Hst.out]
              exact append_end hown6 (wr_bytes3 _ c hc Hp.out (by have h := H32.out; simp at h ⊢ <;> exact h)) (wr_len3 _ c hc Hp.out (by have h := H32.out; simp at h ⊢ <;> exact h))
            clear hown6 hgrow6 hat6 HO Hst
            go_wp2_with fail
            go_roundw
            case rel => exact ⟨i + 1, by simp, by omega, O6.out, hb6⟩
            case measure =>
              simp [intOf]
              omega
      · go_wp2_with (first | (go_at_call 49; refine (hpl _).mono ?_; rintro e w1 ⟨rfl, hw1⟩; rw [hw1]; clear hw1 w1) | (at_builtin; refine wpList_append_any _ rfl _ _ 82 rfl w.heap.size 5 i5 (.int .u8 0) 1 1 Tryz.underlying82 hi hz0 hz1 hz2 rfl (by decide) u5 xs.length (Lib.byteCells xs) rfl (HO.out.alloc _) (some ⟨wr.heap.size, 0, none⟩) 1 1 [.int .u8 (c : Int)] rfl (.inr ⟨_, rfl, rfl, World.news_of_block (t := 5) (fr := (0, 0)) (heap_alloc_new wr _), by simp [Value.oneCell']⟩) (by unfold maxLen; omega) (by omega) (by simp; omega) ?_))
        intro v6 w6 hown6 hgrow6 hat6
        have hb6 : Below w.heap.size w w6 := hb.trans (below_end HO.out hgrow6 hat6 hsz)
        have O6 : Hid (OwnB w6 w.heap.size v6 (encL form (s.data.toList.take (i + 1)))) := by
          show OwnB _ _ _ _
          rw [Hst.out]
          exact append_end hown6 (wr_bytes1 _ c hc Hp.out) (wr_len1 _ c hc Hp.out)
        clear hown6 hgrow6 hat6 HO Hst
        go_wp2_with fail
        go_roundw
        case rel => exact ⟨i + 1, by simp, by omega, O6.out, hb6⟩
        case measure =>
          simp [intOf]
          omega
    · have hp' : ¬ (i : Int) < (s.size : Int) := by omega
      have hcv := conv_own hown
      have e : (⟨(encL form (s.data.toList.take i)).toArray⟩ : ByteArray) = encS form s := by
        rw [List.take_of_length_le (by rw [size_list]; omega)]; rfl
      rw [e] at hcv
      clear e
      have HO : Hid (OwnB wr w.heap.size u5 (encL form (s.data.toList.take i))) := hown
      clear hown
      go_wp2_with fail
      go_ret
      exact ⟨rfl, hb⟩

end Go.Proofs.YtfoeeocejcbmlaaGreatDoor
