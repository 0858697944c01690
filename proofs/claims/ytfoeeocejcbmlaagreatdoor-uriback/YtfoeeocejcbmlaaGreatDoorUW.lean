import Derived.Test.YtfoeeocejcbmlaaGreatDoorQW
import Derived.Test.YtfoeeocejcbmlaaGreatDoorQI
import Derived.Test.YtfoeeocejcbmlaaGreatDoorUA
import Derived.Lib.MakeNoZero
import Derived.Lib.ReplaceLaws
import Derived.Lib.UnsafeStr
import Derived.Lib.Builder
import Derived.Laws.Externs
import Derived.Laws.IdiomCopy
namespace Go.Proofs.YtfoeeocejcbmlaaGreatDoor
open Go.RowKit Go.Shelf
set_option linter.unusedVariables false
set_option linter.unusedSimpArgs false

theorem heap_lt {w : World} {b : Nat} {o : Obj} (h : w.heap[b]? = some o) : b < w.heap.size := by
  rcases Nat.lt_or_ge b w.heap.size with h' | h'
  · exact h'
  · simp [Array.getElem?_eq_none h'] at h

set_option maxHeartbeats 2000000 in
set_option maxRecDepth 1000000 in
theorem bgrow_any (B b n : Nat) (w : World) (hB : B ≤ b) (hbk : w.heap[b]? = some (.cells #[.pointer (some ⟨b, 0, none⟩), .slice none 0 0] 87 (0, 0))) (hBw : B ≤ w.heap.size) (hn : n ≤ 281474976710656) :
    Calls Tryz.prog 107 #[.pointer (some ⟨b, 0, none⟩), .int .i64 n] w fun e w' => e = .returned (.tuple #[]) ∧ (Lib.BuilderAt 87 5 B b (.pointer (some ⟨b, 0, none⟩)) [] w' ∧ Below B w w') := by
  obtain ⟨cs, hrun, hle, hmax⟩ := Lib.run_makeNoZero (P := Tryz.prog) w.drew #[3] 82 5 Tryz.underlying82 n hn
  have hw : IntKind.i64.wrap (IntKind.i64.wrap 0 + (n : Int)) = n := by
    rw [IntKind.wrap_i64, IntKind.wrap_i64]
    omega
  have hcall : (callFunc 113 #[.int .i64 (IntKind.i64.wrap (IntKind.i64.wrap 0 + (n : Int)))]).run Tryz.prog w.drew = .ok (.value (.slice (some ⟨w.drew.heap.size, 0, none⟩) n cs.size)) (w.drew.drew.drew.alloc (.cells cs 5)) := by
    rw [hw, run_callFunc_extern Tryz.func113 (by kernel_rfl) (by kernel_rfl) (by kernel_rfl) (e := Extern.BytealgMakeNoZero.makeNoZero #[3] #[82]) (by kernel_rfl), hrun]
    rfl
  have hlt := heap_lt hbk
  have c1 : w.drew.cell? ⟨b, 1, none⟩ = some (.slice none 0 0) := by
    have : w.drew.heap[b]? = _ := hbk
    rw [Lib.cell_of_heap this]; rfl
  have c2 : (w.alloc (.cells cs 5)).cell? ⟨b, 1, none⟩ = some (.slice none 0 0) := by
    have : (w.alloc (.cells cs 5)).heap[b]? = _ := (Lib.alloc_old w _ b hlt).trans hbk
    rw [Lib.cell_of_heap this]; rfl
  have f2 : (w.alloc (.cells cs 5)).frozen? ⟨b, 1, none⟩ = false := Lib.frozen_of_heap ((Lib.alloc_old w _ b hlt).trans hbk) 1
  have hsb : (Tryz.prog.info? 5).map (·.size) = some 1 := by kernel_rfl
  have hcopy : ∀ W : World, (Builtin.copy_ #[82, 82] 3 #[.slice (some ⟨w.heap.size, 0, none⟩) 0 cs.size, .slice none 0 0]).run Tryz.prog W = .ok (goInt 0) W :=
    fun W => run_copy_none W 82 82 3 5 _ _ 0 cs.size 0 0 Tryz.underlying82 hsb rfl
  clear hw
  have hfin := Lib.grown_fresh (T := 87) (e := 5) (cs := cs) hB hbk hBw (hmax (by unfold maxLen; omega)) (by decide)
  rw [World.setCell_alloc_past _ _ _ _ hlt] at hfin
  go_enter Tryz.func107, Tryz.ntmps107
  go_wp2
  go_region
  all_goals (go_wp2; go_end0; exact ⟨rfl, hfin⟩)

set_option maxHeartbeats 2000000 in
set_option maxRecDepth 1000000 in
theorem bGrow_any (B b n : Nat) (w : World) (hB : B ≤ b) (hbk : w.heap[b]? = some (.cells #[.pointer none, .slice none 0 0] 87 (0, 0))) (hBw : B ≤ w.heap.size) (hn : n ≤ 281474976710656) :
    Calls Tryz.prog 98 #[.pointer (some ⟨b, 0, none⟩), .int .i64 n] w fun e w' => e = .returned (.tuple #[]) ∧ (Lib.BuilderAt 87 5 B b (.pointer (some ⟨b, 0, none⟩)) [] w' ∧ Below B w w') := by
  have hbk1 : (w.setCell ⟨b, 0, none⟩ (.pointer (some ⟨b, 0, none⟩))).heap[b]? = some (.cells #[.pointer (some ⟨b, 0, none⟩), .slice none 0 0] 87 (0, 0)) := by
    simp [World.setCell, Array.getElem?_modify, hbk]
  have c1 : (w.setCell ⟨b, 0, none⟩ (.pointer (some ⟨b, 0, none⟩))).cell? ⟨b, 1, none⟩ = some (.slice none 0 0) := by rw [Lib.cell_of_heap hbk1]; rfl
  have hb1 : Below B w (w.setCell ⟨b, 0, none⟩ (.pointer (some ⟨b, 0, none⟩))) := (Below.refl B w).setCell (p := ⟨b, 0, none⟩) hB _
  go_enter Tryz.func98, Tryz.ntmps98
  have hU : Lib.BuilderAt 87 5 B b (.pointer (some ⟨b, 0, none⟩)) [] (w.setCell ⟨b, 0, none⟩ (.pointer (some ⟨b, 0, none⟩))) := ⟨hB, .slice none 0 0, hbk1, World.ownsRow_nil _ _ _ _, by simp [Value.ownBlock]⟩
  have c1' : (w.setCell ⟨b, 0, none⟩ (.pointer (some ⟨b, 0, none⟩))).drew.cell? ⟨b, 1, none⟩ = some (.slice none 0 0) := c1
  go_wp2_with (go_at_call 89; refine (copy_fresh b w (by rw [Lib.cell_of_heap hbk]; rfl) (by simp [World.shape?, hbk]) (Lib.frozen_of_heap hbk 0)).mono ?_; rintro e w' ⟨rfl, rfl⟩)
  go_region
  all_goals go_wp2_with (go_at_call 107; refine (bgrow_any B b n (w.setCell ⟨b, 0, none⟩ (.pointer (some ⟨b, 0, none⟩))).drew hB hbk1 (by simpa [World.setCell, World.drew, -World.drew_eq] using hBw) hn).mono ?_; rintro e w' ⟨rfl, h1, h2⟩)
  all_goals first
    | (go_end0; exact ⟨rfl, h1, hb1.drew.trans h2⟩)
    | (go_end0; exact ⟨rfl, hU.drew, hb1.drew⟩)

/-! Replace of one byte by nothing. -/
theorem filt_app (a b : List UInt8) : (a ++ b).filter (fun c => c != 47) = a.filter (fun c => c != 47) ++ b.filter (fun c => c != 47) := List.filter_append ..
theorem filt_free : ∀ l : List UInt8, (∀ d ∈ l, (d == (47 : UInt8)) = false) → l.filter (fun c => c != 47) = l
  | [], _ => rfl
  | a :: l, h => by
    rw [List.filter_cons, if_pos (by have := h a (by simp); simpa using this), filt_free l (fun d hd => h d (by simp [hd]))]

/-- What stands behind the first slash holds one slash less. -/
theorem slash_step (s : ByteArray) (st j : Nat) (hst : st ≤ s.size) (hj : Lib.indexByte (s.extract st s.size).data.toList 47 = (j : Int)) :
    st + j < s.size ∧ Lib.countByte (s.data.toList.drop st) 47 = Lib.countByte (s.data.toList.drop (st + j + 1)) 47 + 1 ∧
    (s.data.toList.drop st).filter (fun c => c != 47) = (s.extract st (st + j)).data.toList ++ (s.data.toList.drop (st + j + 1)).filter (fun c => c != 47) := by
  rw [Lib.extract_to_end] at hj
  obtain ⟨h1, h2⟩ := Lib.indexByte_some hj
  obtain ⟨hl, he⟩ := List.getElem?_eq_some_iff.1 h1
  have hl2 : st + j < s.size := by rw [List.length_drop, size_list] at hl; omega
  have e : s.data.toList.drop st = (s.data.toList.drop st).take j ++ 47 :: s.data.toList.drop (st + j + 1) := by
    conv => lhs; rw [← List.take_append_drop j (s.data.toList.drop st), List.drop_eq_getElem_cons hl, he]
    rw [List.drop_drop, show st + (j + 1) = st + j + 1 by omega]
  have hf : ∀ d ∈ (s.data.toList.drop st).take j, (d == (47 : UInt8)) = false := by
    intro d hd
    rw [beq_eq_false_iff_ne]; rintro rfl
    obtain ⟨i, hi⟩ := List.getElem?_of_mem hd
    have hij : i < j := by obtain ⟨q, _⟩ := List.getElem?_eq_some_iff.1 hi; simp at q; omega
    rw [List.getElem?_take_of_lt hij] at hi
    exact h2 i hij hi
  have e2 : (s.extract st (st + j)).data.toList = (s.data.toList.drop st).take j := by rw [ext_list, Nat.add_sub_cancel_left]
  refine ⟨hl2, ?_, ?_⟩
  · have b1 := brk_count 47 (s.data.toList.drop st) []
    have b2 := brk_count 47 (s.data.toList.drop (st + j + 1)) []
    rw [e, brk_at _ 47 (by decide), brk_none _ _ _ hf] at b1
    rw [← e] at b1
    simp only [List.length_append, List.length_cons, List.length_nil] at b1
    omega
  · conv => lhs; rw [e]
    rw [filt_app, filt_free _ hf, List.filter_cons, if_neg (by decide), e2]

theorem slash_none (s : ByteArray) (st : Nat) (h : Lib.countByte (s.data.toList.drop st) 47 = 0) : (s.data.toList.drop st).filter (fun c => c != 47) = s.data.toList.drop st := by
  refine filt_free _ (fun d hd => ?_)
  rw [beq_eq_false_iff_ne]; rintro rfl
  have b1 := brk_count 47 (s.data.toList.drop st) []
  obtain ⟨a, t, e⟩ := List.append_of_mem hd
  rw [e, brk_at _ 47 (by decide), List.length_append] at b1
  have n1 := List.length_pos_iff.2 (brk_ne (fun d => d == (47 : UInt8)) a [])
  have n2 := List.length_pos_iff.2 (brk_ne (fun d => d == (47 : UInt8)) t [])
  rw [← e, h] at b1
  omega

theorem slash_count (s : ByteArray) : Lib.countByte s.data.toList 47 ≤ s.size := by
  have b1 := brk_count 47 s.data.toList []
  have b2 := brk_sum (fun d => d == (47 : UInt8)) s.data.toList []
  have : (brk (fun d => d == (47 : UInt8)) s.data.toList []).length ≤ ((brk (fun d => d == (47 : UInt8)) s.data.toList []).map fun p => p.length + 1).sum := by
    generalize brk (fun d => d == (47 : UInt8)) s.data.toList [] = l
    induction l with
    | nil => simp
    | cons a l ih => simp only [List.map_cons, List.sum_cons, List.length_cons]; omega
  rw [b1, b2, size_list] at this
  simp at this; omega

theorem slash_has (s : ByteArray) (st : Nat) (hst : st ≤ s.size) (h : 0 < Lib.countByte (s.data.toList.drop st) 47) : ∃ j : Nat, Lib.indexByte (s.extract st s.size).data.toList 47 = (j : Int) := by
  have hge := Lib.indexByte_ge (s.extract st s.size).data.toList 47
  rcases Int.lt_or_le (Lib.indexByte (s.extract st s.size).data.toList 47) 0 with h1 | h1
  · exfalso
    have h1 : Lib.indexByte (s.extract st s.size).data.toList 47 = -1 := by omega
    have hno := Lib.indexByte_none h1
    rw [Lib.extract_to_end] at hno
    have b1 := brk_count 47 (s.data.toList.drop st) []
    rw [brk_none _ _ _ (fun d hd => by
      rw [beq_eq_false_iff_ne]; rintro rfl
      obtain ⟨j, hj⟩ := List.getElem?_of_mem hd
      exact hno j hj)] at b1
    simp at b1; omega
  · exact ⟨(Lib.indexByte (s.extract st s.size).data.toList 47).toNat, by omega⟩

def ReplRel (w : World) (s : ByteArray) (K : Nat) (sv iv : Value) (wr : World) : Prop :=
  ∃ (i st : Nat) (acc : List UInt8), iv = .int .i64 (i : Int) ∧ sv = .int .i64 (st : Int) ∧ i ≤ K ∧ st ≤ s.size ∧ acc.length ≤ st ∧ Lib.countByte (s.data.toList.drop st) 47 + i = K ∧
    BldAt w.heap.size w.heap.size acc wr ∧ Below w.heap.size w wr ∧ acc ++ (s.data.toList.drop st).filter (fun c => c != 47) = s.data.toList.filter (fun c => c != 47)

set_option maxHeartbeats 4000000 in
set_option maxRecDepth 1000000 in
theorem repl_any (s : ByteArray) (hs : s.size ≤ 1000000) (w : World) :
    Calls Tryz.prog 82 #[.string s, .string ⟨#[47]⟩, .string ⟨#[]⟩, .int .i64 (-1)] w fun e w' => e = .returned (.string (bareS s)) ∧ Below w.heap.size w w' := by
  have hC := fun W => Tryz.strings_Count_one s 47 W
  have hcs := slash_count s
  have hne : ((⟨#[47]⟩ : ByteArray).toList == (⟨#[]⟩ : ByteArray).toList) = false := toList_ne (by decide)
  have emp : (⟨#[]⟩ : ByteArray).toList = [] := by rw [ByteArray.toList_eq]
  have l47 : (⟨#[47]⟩ : ByteArray).toList = [47] := by rw [ByteArray.toList_eq]
  obtain ⟨K, hK⟩ : ∃ K : Nat, Lib.countByte s.data.toList 47 = K := ⟨_, rfl⟩
  have HK : Hid (Lib.countByte s.data.toList 47 = K) := hK
  rw [hK] at hC hcs
  clear hK
  by_cases h0 : K = 0
  · have HS : Hid (bareS s = s) := by
      show _ = _
      have := slash_none s 0 (by rw [List.drop_zero, HK.out, h0])
      rw [List.drop_zero] at this
      exact ba_ext (by unfold bareS; rw [ba_list, this])
    subst h0
    go_enter Tryz.func82, Tryz.ntmps82
    go_wp2_with (go_at_call 63; refine (hC _).mono ?_; rintro e w1 ⟨rfl, hw1⟩; rw [hw1]; clear hw1 w1)
    go_ret
    exact ⟨ret_str HS.out.symm, Below.refl _ _⟩
  · have hk0 : ((K : Int) == 0) = false := beq_eq_false_iff_ne.2 (by omega)
    have hkn : ¬ (K : Int) = 0 := by omega
    have hga : wrap64 ((s.size : Int) + wrap64 ((K : Int) * wrap64 ((0 : Int) - 1))) = ((s.size - K : Nat) : Int) := by
      unfold wrap64; omega
    go_enter Tryz.func82, Tryz.ntmps82
    go_wp2_with (go_at_call 63; refine (hC _).mono ?_; rintro e w1 ⟨rfl, hw1⟩; rw [hw1]; clear hw1 w1)
    rw [show ((s.size : Int) + -(K : Int)) = ((s.size - K : Nat) : Int) by omega]
    refine (bGrow_any w.heap.size w.heap.size _ _ (Nat.le_refl _) (heap_alloc_new w _) (by simp) (by omega)).mono ?_
    rintro e w1 ⟨rfl, hb0, hb1⟩
    have H1 : Hid (BldAt w.heap.size w.heap.size [] w1) := Lib.IsBuilderF.of (Or.inr hb0)
    have Hb1 : Hid (Below w.heap.size w w1) := ((Below.refl w.heap.size w).alloc (Nat.le_refl _) _).trans hb1
    clear hb0 hb1 hga
    go_wp2_with fail
    go_loopw [11, 53] (fun sv iv wr => ReplRel w s K sv iv wr) (fun _ iv _ => K - (intOf iv).toNat)
    case atStart => exact ⟨0, 0, [], rfl, rfl, Nat.zero_le _, Nat.zero_le _, Nat.le_refl _, by rw [List.drop_zero]; exact HK.out, H1.out, Hb1.out, by simp⟩
    case round =>
      obtain ⟨i, st, acc, rfl, rfl, hiK, hst, hal, hcn, hbd, hbl, hac⟩ := hrel
      have HBD : Hid (BldAt w.heap.size w.heap.size acc wr) := hbd
      have HB : Hid (Below w.heap.size w wr) := hbl
      have HAC : Hid (acc ++ (s.data.toList.drop st).filter (fun c => c != 47) = s.data.toList.filter (fun c => c != 47)) := hac
      have hsz := hbl.size
      clear hbd hbl hac H1 Hb1
      have c1 : (0 : Int) ≤ (st : Int) := by omega
      have c2 : (st : Int) ≤ (s.size : Int) := by omega
      by_cases hlt : i < K
      · have hlt' : (i : Int) < (K : Int) := by omega
        obtain ⟨j, hj⟩ := slash_has s st hst (by omega)
        obtain ⟨g1, g2, g3⟩ := slash_step s st j hst hj
        have hix := fun W => Tryz.strings_Index_one (s.extract st s.size) 47 W
        rw [hj] at hix
        have HN : Hid ((acc ++ (s.extract st (st + j)).data.toList ++ (⟨#[]⟩ : ByteArray).data.toList) ++ (s.data.toList.drop (st + j + 1)).filter (fun c => c != 47) = s.data.toList.filter (fun c => c != 47)) := by
          show _ = _
          rw [← HAC.out, g3]; simp
        have c3 : (st : Int) ≤ (st : Int) + (j : Int) := by omega
        have c4 : (st : Int) + (j : Int) ≤ (s.size : Int) := by omega
        have hxs : (s.extract st (st + j)).size = j := by rw [ByteArray.size_extract]; omega
        clear hj g3 HAC
        go_wp2_with (go_at_call 86; refine (hix _).mono ?_; rintro e w2 ⟨rfl, hw2⟩; rw [hw2]; clear hw2 w2)
        refine (wstr_any _ _ acc (s.extract st (st + j)) wr HBD.out (by omega) hsz).mono ?_
        rintro e w2 ⟨rfl, hbd2, hb2, _⟩
        have HBD2 : Hid (BldAt w.heap.size w.heap.size (acc ++ (s.extract st (st + j)).data.toList) w2) := hbd2
        have HB2 : Hid (Below w.heap.size w w2) := HB.out.trans hb2
        have hsz2 := HB2.out.size
        clear hbd2 hb2 HBD HB
        go_wp2_with fail
        refine (wstr_any _ _ _ ⟨#[]⟩ w2 HBD2.out (by rw [List.length_append, size_list, hxs]; show acc.length + j + 0 ≤ _; omega) hsz2).mono ?_
        rintro e w3 ⟨rfl, hbd3, hb3, _⟩
        have HBD3 : Hid (BldAt w.heap.size w.heap.size (acc ++ (s.extract st (st + j)).data.toList ++ (⟨#[]⟩ : ByteArray).data.toList) w3) := hbd3
        have HB3 : Hid (Below w.heap.size w w3) := HB2.out.trans hb3
        clear hbd3 hb3 HBD2 HB2
        go_wp2_with fail
        go_roundw
        case rel =>
          refine ⟨i + 1, st + j + 1, acc ++ (s.extract st (st + j)).data.toList ++ [], by go_num, by go_num, by omega, by omega, ?_, by omega, HBD3.out, HB3.out, HN.out⟩
          simp only [List.length_append, size_list, hxs, List.length_nil]
          omega
        case measure => simp [intOf]; omega
      · have hlt' : ¬ (i : Int) < (K : Int) := by omega
        have HS : Hid (acc ++ (s.extract st s.size).data.toList = s.data.toList.filter (fun c => c != 47)) := by
          show _ = _
          rw [← HAC.out, Lib.extract_to_end, slash_none s st (by omega)]
        have hxs : (s.extract st s.size).size = s.size - st := by rw [ByteArray.size_extract]; omega
        clear HAC
        go_wp2_with fail
        refine (wstr_any _ _ acc (s.extract st s.size) wr HBD.out (by omega) hsz).mono ?_
        rintro e w2 ⟨rfl, hbd2, hb2, _⟩
        rw [HS.out] at hbd2
        have HBD2 : Hid (BldAt w.heap.size w.heap.size (s.data.toList.filter (fun c => c != 47)) w2) := hbd2
        have HB2 : Hid (Below w.heap.size w w2) := HB.out.trans hb2
        have hsz2 := HB2.out.size
        clear hbd2 hb2 HBD HB
        have hst := Tryz.Builder_String_any_k w.heap.size w.heap.size (s.data.toList.filter (fun c => c != 47)) w2 HBD2.out hsz2
        go_wp2_with (go_at_call 72; refine hst.mono ?_; rintro e w3 ⟨rfl, _, h3, _⟩)
        go_ret
        exact ⟨rfl, HB2.out.trans h3⟩

set_option maxHeartbeats 1000000 in
theorem replall_any (s : ByteArray) (hs : s.size ≤ 1000000) (w : World) :
    Calls Tryz.prog 60 #[.string s, .string ⟨#[47]⟩, .string ⟨#[]⟩] w fun e w' => e = .returned (.string (bareS s)) ∧ Below w.heap.size w w' := by
  have c := repl_any s hs w
  go_enter Tryz.func60, Tryz.ntmps60
  go_wp2_with (go_at_call 82; refine c.mono ?_; rintro e w1 ⟨rfl, h1⟩)
  go_ret
  exact ⟨rfl, h1⟩

end Go.Proofs.YtfoeeocejcbmlaaGreatDoor
