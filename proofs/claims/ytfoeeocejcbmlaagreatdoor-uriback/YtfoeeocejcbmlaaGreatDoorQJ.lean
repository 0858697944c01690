import Derived.Test.YtfoeeocejcbmlaaGreatDoorQC
import Derived.Test.YtfoeeocejcbmlaaGreatDoorQI
import Derived.Test.YtfoeeocejcbmlaaGreatDoorE6
namespace Go.Proofs.YtfoeeocejcbmlaaGreatDoor
open Go.RowKit
set_option linter.unusedVariables false
set_option linter.unusedSimpArgs false

theorem fold_at (ps : List ByteArray) (i : Nat) (h : i < ps.length) (acc : List Fd) : foldF ((ps.map (·.data.toList)).drop i) acc =
    match fdO (ps.getD i ⟨#[]⟩).data.toList with
    | none => (3, [])
    | some f => if hasF acc f.1 = true then (6, []) else foldF ((ps.map (·.data.toList)).drop (i + 1)) (acc ++ [f]) := by
  have e : (ps.map (·.data.toList)).drop i = (ps.getD i ⟨#[]⟩).data.toList :: (ps.map (·.data.toList)).drop (i + 1) := by
    rw [List.drop_eq_getElem_cons (by simpa using h)]
    simp [List.getD, List.getElem?_eq_getElem h]
  rw [e]; rfl

theorem RowS.hold {w : World} {A : Option Addr} {cap n : Nat} {ps : List ByteArray} (h : RowS w (.slice A n cap) ps) (hp : 0 < ps.length) :
    ∃ b o, A = some ⟨b, o, none⟩ ∧ b < w.heap.size ∧ ∀ i, i < ps.length → w.cell? ⟨b, o + i, none⟩ = some (.string (ps.getD i ⟨#[]⟩)) := by
  obtain ⟨A', cap', e, h | h⟩ := h
  · omega
  · injection e with e1 e2 e3; subst e1; exact h

theorem piece_le (s : ByteArray) (ps : List ByteArray) (h : ps.map (·.data.toList) = brk (fun d => d == 38) s.data.toList []) (i : Nat) (hi : i < ps.length) : (ps.getD i ⟨#[]⟩).size ≤ s.size := by
  have hm : (ps.getD i ⟨#[]⟩).data.toList ∈ brk (fun d => d == 38) s.data.toList [] := by
    rw [← h]
    exact List.mem_map.2 ⟨ps.getD i ⟨#[]⟩, by simp [List.getD, List.getElem?_eq_getElem hi], rfl⟩
  have := brk_le _ _ _ _ hm
  rw [size_list, size_list] at this
  simpa using this

def RParseRel (w1 : World) (s : ByteArray) (ps : List ByteArray) (lv iv : Value) (wr : World) : Prop :=
  ∃ (i : Nat) (acc : List Fd), iv = .int .i64 (i : Int) ∧ i ≤ ps.length ∧ acc.length ≤ i ∧ OwnF wr w1.heap.size lv acc ∧ Below w1.heap.size w1 wr ∧ foldF ((ps.map (·.data.toList)).drop i) acc = parF s

set_option maxRecDepth 100000 in
set_option maxHeartbeats 4000000 in
theorem rparse_any (s : ByteArray) (hs : s.size ≤ 100000) (w : World) :
    Calls Tryz.prog 31 #[.string s] w fun e w' => ParseEnd w s e w' := by
  obtain ⟨i5, hi, hz0, hz1, hz2⟩ := info_has Tryz.infoFd
  go_enter Tryz.func31, Tryz.ntmps31
  by_cases h0 : s.size = 0
  · have hem := empL_of h0
    have HP : Hid (parF s = (0, [])) := by show _ = _; unfold parF; rw [if_pos h0]
    clear h0
    go_wp2_with fail
    exact bodyPost_ret (v := .tuple #[.slice none 0 0, .int .i64 0]) (by simp [results, Tryz.results31, go_sem]) rfl ⟨_, by rw [HP.out], by rw [HP.out]; exact OwnF.nil _ _, Below.refl _ _⟩
  · have hem := empL_no h0
    have H0 : Hid (¬ s.size = 0) := h0
    clear h0
    go_wp2_with fail
    refine (rpartsc_any 38 s w (by omega)).mono ?_
    rintro e w1 ⟨ps, u, rfl, hps, hown, hb1⟩
    have R1 : Hid (RowS w1 u ps) := hown.row
    have HB1 : Hid (Below w.heap.size w w1) := hb1
    have hsz1 := hb1.size
    have HPS : Hid (ps.map (·.data.toList) = brk (fun d => d == 38) s.data.toList []) := hps
    have hln := congrArg List.length hps
    rw [List.length_map] at hln
    obtain ⟨C, cap2, rfl, _⟩ := hown.row
    clear hown hb1 hps
    by_cases hm : 24 < ps.length
    · have hm' : (ps.length : Int) > 24 := by omega
      have HP : Hid (parF s = (7, [])) := by
        show _ = _
        unfold parF; rw [if_neg H0.out, if_pos (by omega)]
      clear hln
      go_wp2_with fail
      exact bodyPost_ret (v := .tuple #[.slice none 0 0, .int .i64 7]) (by simp [results, Tryz.results31, go_sem]) rfl ⟨_, by rw [HP.out], by rw [HP.out]; exact OwnF.nil _ _, HB1.out⟩
    · have hm' : ¬ (ps.length : Int) > 24 := by omega
      have HP : Hid (foldF (ps.map (·.data.toList)) [] = parF s) := by
        show _ = _
        unfold parF; rw [if_neg H0.out, if_neg (show ¬ 24 < (brk (fun d => d == 38) s.data.toList []).length by omega), HPS.out]
      clear hln
      go_wp2_with fail
      go_loopw [5, 6] (fun lv iv wr => RParseRel w1 s ps lv iv wr) (fun _ iv _ => ps.length - (intOf iv).toNat)
      case atStart => exact ⟨0, [], rfl, Nat.zero_le _, Nat.le_refl _, OwnF.nil _ _, Below.refl _ _, HP.out⟩
      case round =>
        obtain ⟨i, acc, rfl, hi2, hai, hown, hb, hfo⟩ := hrel
        have HO : Hid (OwnF wr w1.heap.size u5 acc) := hown
        have HB : Hid (Below w1.heap.size w1 wr) := hb
        have hsz2 := hb.size
        by_cases hp : i < ps.length
        · have hp' : (i : Int) < (ps.length : Int) := by omega
          obtain ⟨b, o, rfl, hbl, hc⟩ := (R1.out.below hb).hold (by omega)
          have d0 := hc i hp
          rw [fold_at ps i hp] at hfo
          have hxs := piece_le s ps HPS.out i hp
          clear hown hb hc
          generalize ps.getD i ⟨#[]⟩ = p at *
          have hfd := fdO_cut p
          obtain ⟨hx, hy, _⟩ := cut_size 61 p
          have hcut := fun W => rcut_any 61 p W (by omega)
          generalize cutX 61 p = x at *
          generalize cutY 61 p = y at *
          generalize cutZ 61 p = z at *
          have hD1 := fun W => rdec_any x (by omega) true W
          have hD2 := fun W => rdec_any y (by omega) true W
          have n1 : decN true x = 0 ∨ decN true x = 3 := by rcases dec_case true x with h | h; exact .inl h.1; exact .inr h.1
          have n2 : decN true y = 0 ∨ decN true y = 3 := by rcases dec_case true y with h | h; exact .inl h.1; exact .inr h.1
          generalize decX true x = dx at *
          generalize decX true y = dy at *
          generalize decN true x = nx at *
          generalize decN true y = ny at *
          have HFD : Hid (fdO p.data.toList = if z = true ∧ nx = 0 ∧ ny = 0 ∧ dx.size ≠ 0 then some (dx, dy) else none) := hfd
          have HFO : Hid (_ = parF s) := hfo
          clear hfd hfo hx hy hxs
          go_wp2_with fail
          refine (hcut wr).mono ?_
          rintro e w2 ⟨rfl, h2⟩
          have hs2 := h2.size
          clear hcut
          go_wp2_with fail
          refine (hD1 w2).mono ?_
          rintro e w3 ⟨rfl, h3⟩
          have B3 := below_tr h2 h3
          have hs3 := B3.size
          clear h2 h3 hD1
          go_wp2_with fail
          refine (hD2 w3).mono ?_
          rintro e w4 ⟨rfl, h4⟩
          have B4 := below_tr B3 h4
          have hs4 := B4.size
          have O4 : Hid (OwnF w4 w1.heap.size u5 acc) := HO.out.below B4
          have HB4 : Hid (Below w1.heap.size w1 w4) := HB.out.trans (B4.mono hsz2)
          clear B3 h4 hD2 B4 d0
          have hfail : fdO p.data.toList = none → parF s = (3, []) := fun h => by rw [← HFO.out, h]
          cases z with
          | false =>
            have HN : Hid (parF s = (3, [])) := hfail (by rw [HFD.out, if_neg (by simp)])
            clear hfail HFD HFO
            (go_wp2_with fail; exact bodyPost_ret (v := .tuple #[.slice none 0 0, .int .i64 3]) (by simp [results, Tryz.results31, go_sem]) rfl ⟨_, by rw [HN.out], by rw [HN.out]; exact OwnF.nil _ _, HB1.out.trans (HB4.out.mono hsz1)⟩)
          | true =>
            rcases n1 with rfl | rfl
            · rcases n2 with rfl | rfl
              · by_cases hd : dx.size = 0
                · have hdm := empL_of hd
                  have HN : Hid (parF s = (3, [])) := hfail (by rw [HFD.out, if_neg (by simp [hd])])
                  clear hfail HFD HFO hd
                  (go_wp2_with fail; exact bodyPost_ret (v := .tuple #[.slice none 0 0, .int .i64 3]) (by simp [results, Tryz.results31, go_sem]) rfl ⟨_, by rw [HN.out], by rw [HN.out]; exact OwnF.nil _ _, HB1.out.trans (HB4.out.mono hsz1)⟩)
                · have hdm := empL_no hd
                  have hf : fdO p.data.toList = some (dx, dy) := by rw [HFD.out, if_pos (by simpa using hd)]
                  have HN : Hid ((if hasF acc dx = true then (6, []) else foldF ((ps.map (·.data.toList)).drop (i + 1)) (acc ++ [(dx, dy)])) = parF s) := by show _ = _; rw [← HFO.out, hf]
                  clear hfail HFD HFO hd hf
                  have hhas := rhas_any acc u5 dx w4 (by omega) O4.out.row
                  obtain ⟨A, cap, rfl, hcp, _⟩ := O4.out.row
                  cases hh : hasF acc dx with
                  | true =>
                    rw [hh] at hhas
                    have HP2 : Hid (parF s = (6, [])) := by show _ = _; rw [← HN.out, if_pos hh]
                    clear hh HN
                    go_wp2_with (go_at_call 52; refine hhas.mono ?_; rintro e w5 ⟨rfl, hw5⟩; rw [hw5]; clear hw5 w5)
                    exact bodyPost_ret (v := .tuple #[.slice none 0 0, .int .i64 6]) (by simp [results, Tryz.results31, go_sem]) rfl ⟨_, by rw [HP2.out], by rw [HP2.out]; exact OwnF.nil _ _, HB1.out.trans (HB4.out.mono hsz1)⟩
                  | false =>
                    rw [hh] at hhas
                    have HF : Hid (foldF ((ps.map (·.data.toList)).drop (i + 1)) (acc ++ [(dx, dy)]) = parF s) := by show _ = _; rw [← HN.out, if_neg (by rw [hh]; simp)]
                    clear hh HN
                    go_wp2_with (first | (go_at_call 52; refine hhas.mono ?_; rintro e w5 ⟨rfl, hw5⟩; rw [hw5]; clear hw5 w5) | (at_builtin; refine wpList_append_any _ rfl _ _ 26 rfl w1.heap.size 72 i5 (.agg #[.string ⟨#[]⟩, .string ⟨#[]⟩]) 2 32 Tryz.underlying26 hi hz0 hz1 hz2 rfl (by decide) (.slice A acc.length cap) acc.length (cellsF acc) rfl ?own (some ⟨w4.heap.size, 0, none⟩) 1 1 [.string dx, .string dy] rfl ?src ?c3 ?c4 ?c5 ?_))
                    case own => exact World.ownsRow.alloc O4.out _
                    case src => exact .inr ⟨_, rfl, rfl, World.news_of_block (t := 72) (fr := (0, 0)) (heap_alloc_new w4 _), by simp [Value.oneCell']⟩
                    case c3 => unfold maxLen; omega
                    case c4 => omega
                    case c5 => first | omega | (simp; omega)
                    intro v6 w6 hown6 hgrow6 hat6
                    have O6 : Hid (OwnF w6 w1.heap.size v6 (acc ++ [(dx, dy)])) := OwnF.snoc hown6
                    have B6 : Hid (Below w1.heap.size w1 w6) := below_endR HB4.out O4.out hgrow6 hat6 (by omega)
                    clear hown6 hgrow6 hat6
                    go_wp2_with fail
                    go_roundw
                    case rel => exact ⟨i + 1, acc ++ [(dx, dy)], by go_num, by omega, by simp; omega, O6.out, B6.out, HF.out⟩
                    case measure => simp [intOf]; omega
              · have HN : Hid (parF s = (3, [])) := hfail (by rw [HFD.out, if_neg (by simp)])
                clear hfail HFD HFO
                (go_wp2_with fail; exact bodyPost_ret (v := .tuple #[.slice none 0 0, .int .i64 3]) (by simp [results, Tryz.results31, go_sem]) rfl ⟨_, by rw [HN.out], by rw [HN.out]; exact OwnF.nil _ _, HB1.out.trans (HB4.out.mono hsz1)⟩)
            · have HN : Hid (parF s = (3, [])) := hfail (by rw [HFD.out, if_neg (by simp)])
              clear hfail HFD HFO
              (go_wp2_with fail; exact bodyPost_ret (v := .tuple #[.slice none 0 0, .int .i64 3]) (by simp [results, Tryz.results31, go_sem]) rfl ⟨_, by rw [HN.out], by rw [HN.out]; exact OwnF.nil _ _, HB1.out.trans (HB4.out.mono hsz1)⟩)
        · have hp' : ¬ (i : Int) < (ps.length : Int) := by omega
          have HF : Hid ((0, acc) = parF s) := by
            show _ = _
            rw [List.drop_of_length_le (by simp; omega)] at hfo
            exact hfo
          clear hfo hown hb
          go_wp2_with fail
          exact bodyPost_ret (v := .tuple #[u5, .int .i64 0]) (by simp [results, Tryz.results31, go_sem]) rfl ⟨_, by rw [← HF.out], by rw [← HF.out]; exact HO.out.lower hsz1, HB1.out.trans (HB.out.mono hsz1)⟩

end Go.Proofs.YtfoeeocejcbmlaaGreatDoor
