import Derived.Test.YtldpnhlifgkmiaaDoorVM
namespace Go.Proofs.YtldpnhlifgkmiaaDoor
open Go.RowKit
set_option linter.unusedVariables false
set_option linter.unusedSimpArgs false

/-- What Run tells of moves that lie there, by number. -/
def errOf (x : Except Int (List (Nd × Fo))) : Int := match x with | .error z => z | .ok _ => 0
theorem RunEnd.err {w : World} {ms : List Mv} {e : Ending} {w' : World} (h : RunEnd w (tms []) ms e w') : ∃ v : Value, e = .returned (.tuple #[v, .int .i64 (errOf (runP [] ms))]) ∧ Below w.heap.size w w' := by
  obtain ⟨hb, ⟨z, h1, _, h2⟩ | ⟨js, v, h1, h2, _⟩⟩ := h
  · exact ⟨_, by rw [h2, show runP [] ms = .error z from h1]; rfl, hb⟩
  · exact ⟨v, by rw [h2, show runP [] ms = .ok (tms js) from h1]; rfl, hb⟩

theorem mX_short : mX.s.size ≤ maxLen := by unfold maxLen; decide
theorem mH_short (i : Nat) : (mHs i).s.size ≤ maxLen := by unfold maxLen; show (⟨#[]⟩ : ByteArray).size ≤ _; decide

theorem run_more (k : Nat) : runP [] (List.replicate k mX ++ [mv0]) = if 1024 < k + 1 then .error 7 else .error 2 := by
  have h1 : ∀ rs, stepP [] rs mv0 = .error 2 := fun rs => by simp [stepP, mayP, rawP, mv0]
  unfold runP
  rw [List.length_append, List.length_replicate]
  simp only [List.length_cons, List.length_nil, Nat.zero_add]
  split
  · rfl
  · rw [runS_append, run_atoms [] mX (kX, .nil) (step_X []) k []]
    simp only [runS, h1]

def TowRel (w : World) (d : Nat) (kv iv : Value) (wr : World) : Prop :=
  ∃ (n g c : Nat), iv = .int .i64 (n : Int) ∧ n ≤ d ∧ kv = .slice (some ⟨g, 0, none⟩) (n + 1) c ∧ wr.ownsRow w.heap.size 47 4 (.slice (some ⟨g, 0, none⟩) (n + 1) c) (n + 1) (rowM (mX :: (List.range n).map mHs)) ∧ Below w.heap.size w wr

set_option maxRecDepth 100000 in
set_option maxHeartbeats 4000000 in
theorem proofMany_any (w : World) (n : Int) (h2 : -9223372036854775808 ≤ n) (h3 : n ≤ 9223372036854775807) (htab : Tab10 w.heap.size w) :
    Calls Tryd.prog 8 #[.int .i64 n] w fun e w' => e = .returned (.bool true) ∧ Below w.heap.size w w' := by
  have HTB : Hid (Tab10 w.heap.size w) := htab
  clear htab
  obtain ⟨i5, hi, hz0, hz1, hz2⟩ := info_get Tryd.infoMove
  obtain ⟨q, hq6, hq⟩ : ∃ q : Nat, n % 6 = (q : Int) ∧ q < 6 := ⟨(n % 6).toNat, by omega, by omega⟩
  obtain ⟨r, hr8, hr⟩ : ∃ r : Nat, n % 8 = (r : Int) ∧ r < 8 := ⟨(n % 8).toNat, by omega, by omega⟩
  have HQ : Hid (n % 6 = (q : Int)) := hq6
  have HR : Hid (n % 8 = (r : Int)) := hr8
  clear hq6 hr8
  go_enter Tryd.func8, Tryd.ntmps8
  go_wp2_with fail
  refine (known4_any _ HTB.out).mono ?_
  rintro e w1 ⟨rfl, ho1⟩
  go_wp2_with fail
  refine (within4_any n 6 w1 (by omega) (by omega) h2 h3).mono ?_
  rintro e w1' ⟨rfl, rfl⟩
  rw [HQ.out]
  obtain ⟨w2, hmk, hown2, hgrow2⟩ := run_make_full (P := Tryd.prog) w1' w1'.heap.size 40 47 i5 _ 4 Tryd.underlying40 hi hz0 hz1 .i64 .i64 (1021 + q) (by rw [hz2]; omega) (by unfold maxLen; omega) (Nat.le_refl _)
  rw [show (((1021 + q : Nat)) : Int) = 1021 + (q : Int) from by omega] at hmk
  have hb2 : Below w1'.heap.size w1' w2 := Below.grown (Below.refl _ _) hgrow2 (Nat.le_refl _) (fun k hk => by cases hk)
  have hl2 : (madeCells (Value.agg #[.int .i64 0, .int .i64 0, .int .i64 0, .string ⟨#[]⟩]).cells ((1021 + q) * 4)).toList.length = (1021 + q - 0) * 4 := by rw [Array.length_toList, size_madeCells]; omega
  have HO2 : Hid (FillRel w1' w1'.heap.size (1021 + q) (.int .i64 0) w2) := ⟨0, _, rfl, by omega, hl2, by simpa [rowM] using hown2, hb2⟩
  clear hown2 hgrow2 hl2
  go_wp2_with fail
  go_loopw [5] (fun iv wr => FillRel w1' w1'.heap.size (1021 + q) iv wr) (fun iv _ => 1021 + q - (intOf iv).toNat)
  case atStart => exact HO2.out
  case round =>
    obtain ⟨m, ys, rfl, hm, hy, hown, hbl⟩ := hrel
    have HOWN : Hid (wr.ownsRow w1'.heap.size 47 4 (.slice (some ⟨w1'.heap.size, 0, none⟩) (1021 + q) (1021 + q)) (1021 + q) (rowM (List.replicate m mX) ++ ys)) := hown
    have hgl := hown.lt w1'.heap.size rfl
    clear HO2
    by_cases hlt : m < 1021 + q
    · have hni : (m : Int) < 1021 + (q : Int) := by omega
      have hn0 : (0 : Int) ≤ (m : Int) := by omega
      have hlen : (rowM (List.replicate m mX) ++ ys).length = (1021 + q) * 4 := hown.1
      have hcs : ∀ t, t < 4 → ∃ u, wr.cell? ⟨w1'.heap.size, m * 4 + t, none⟩ = some u := fun t ht => by
        rw [hown.cellAt (m * 4 + t) (by omega)]
        exact ⟨_, List.getElem?_eq_getElem (by rw [hlen]; omega)⟩
      obtain ⟨u0, k0⟩ := hcs 0 (by omega)
      obtain ⟨u1, k1⟩ := hcs 1 (by omega)
      obtain ⟨u2, k2⟩ := hcs 2 (by omega)
      obtain ⟨u3, k3⟩ := hcs 3 (by omega)
      simp only [Nat.add_zero] at k0
      have l0 := hown.frozenAt (m * 4)
      have l1 := hown.frozenAt (m * 4 + 1)
      have l2 := hown.frozenAt (m * 4 + 2)
      have l3 := hown.frozenAt (m * 4 + 3)
      obtain ⟨ys', hy', hown'⟩ := fill_step hlt hy hown
      have HO' : Hid _ := hown'
      clear hown hown' hcs hlen
      go_wp2_with fail
      go_roundw
      case rel => exact ⟨m + 1, ys', by go_num, hlt, hy', HO'.out, (by repeat (first | exact Below.refl _ _ | assumption | refine below_drewN ?_ _ | refine Below.drew ?_ | refine Below.alloc ?_ (by simp <;> omega) _ | refine Below.setCell ?_ (by simp <;> omega) _))⟩
      case measure => simp [intOf]; omega
    · obtain rfl : m = 1021 + q := by omega
      have hys : ys = [] := List.eq_nil_of_length_eq_zero (by omega)
      subst hys
      have hni : decide ((1021 : Int) + (q : Int) < 1021 + (q : Int)) = false := by simp
      have hms : MvsAt wr wr.heap.size (List.replicate (1021 + q) mX) (some ⟨w1'.heap.size, 0, none⟩) := by
        have h := hown
        rw [List.append_nil] at h
        exact mvs_own (by rw [List.length_replicate]; exact h) rfl
      have HMS : Hid (MvsAt wr wr.heap.size (List.replicate (1021 + q) mX) (some ⟨w1'.heap.size, 0, none⟩)) := hms
      clear hown hms
      have HRUN1 : Hid (Calls Tryd.prog 24 #[.slice none 0 0, .slice (some ⟨w1'.heap.size, 0, none⟩) (1021 + q) (1021 + q)] wr fun e w' => RunEnd wr (tms []) (List.replicate (1021 + q) mX) e w') := by
        have h := run_any [] _ (List.replicate (1021 + q) mX) (some ⟨w1'.heap.size, 0, none⟩) (1021 + q) wr.heap.size wr (sl_none wr) (by simp) (by simp) (Nat.le_refl _) HMS.out (by simp; omega) (by intro m hm; rw [List.eq_of_mem_replicate hm]; exact mX_short)
        rwa [List.length_replicate] at h
      clear HMS
      go_wp2_with fail
      refine Calls.mono HRUN1.out ?_
      intro e w3 he
      obtain ⟨v3, rfl, hb3⟩ := he.err
      rw [run_many]
      obtain ⟨E1, hE1⟩ : ∃ E1 : Int, errOf (if 1024 < 1021 + q then Except.error 7 else Except.ok (List.replicate (1021 + q) (kX, Deep.BT.nil))) = E1 := ⟨_, rfl⟩
      rw [hE1]
      have HE1 : Hid (E1 = if 1024 < 1021 + q then 7 else 0) := by show E1 = _; rw [← hE1]; split <;> rfl
      have hb13 : Below w1'.heap.size w1' w3 := hbl.trans (hb3.mono hbl.size)
      have HOW3 : Hid (w3.ownsRow w1'.heap.size 47 4 (.slice (some ⟨w1'.heap.size, 0, none⟩) (1021 + q) (1021 + q)) (1021 + q) (rowM (List.replicate (1021 + q) mX))) := by
        have h := owns_below HOWN.out hb3
        rwa [List.append_nil] at h
      clear he hE1 HRUN1 HOWN hb3
      go_wp2_with fail
      refine (within4_any n 8 w3 (by omega) (by omega) h2 h3).mono ?_
      rintro e w3' ⟨rfl, rfl⟩
      rw [HR.out]
      have hal3 : Below w3'.heap.size w3' (w3'.alloc (.cells #[.int .i64 2, .int .i64 0, .int .i64 0, .string ⟨#[120]⟩] 47)) := Below.alloc (Below.refl _ _) (Nat.le_refl _) _
      have HT3 : Hid (TowRel w3' (12 + r) (.slice (some ⟨w3'.heap.size, 0, none⟩) 1 1) (.int .i64 0) (w3'.alloc (.cells #[.int .i64 2, .int .i64 0, .int .i64 0, .string ⟨#[120]⟩] 47))) := ⟨0, w3'.heap.size, 1, rfl, by omega, rfl, ⟨rfl, .inr ⟨w3'.heap.size, 1, _, rfl, Nat.le_refl _, heap_alloc_new w3' _, Nat.le_refl _, by unfold maxLen; omega, rfl, rfl⟩⟩, hal3⟩
      clear hal3
      go_wp2_with fail
      go_loopw [9, 10] (fun kv iv wr => TowRel w3' (12 + r) kv iv wr) (fun _ iv _ => 12 + r - (intOf iv).toNat)
      case atStart => exact HT3.out
      case round =>
        obtain ⟨j, g, c, rfl, hj, rfl, hownj, hblj⟩ := hrel
        have HOJ : Hid (wr.ownsRow w3'.heap.size 47 4 (.slice (some ⟨g, 0, none⟩) (j + 1) c) (j + 1) (rowM (mX :: (List.range j).map mHs))) := hownj
        have hgj := hownj.lt g rfl
        have hsj := hblj.size
        clear HT3 hownj
        by_cases hltj : j < 12 + r
        · have hnj : (j : Int) < 12 + (r : Int) := by omega
          have hal : Below wr.heap.size wr (wr.alloc (.cells #[.int .i64 6, .int .i64 (j : Int), .int .i64 0, .string ⟨#[]⟩] 47)) := Below.alloc (Below.refl _ _) (Nat.le_refl _) _
          go_wp2_with (at_builtin; refine wpList_append_any _ rfl _ _ 40 rfl w3'.heap.size 47 i5 (.agg #[.int .i64 0, .int .i64 0, .int .i64 0, .string ⟨#[]⟩]) 4 40 Tryd.underlying40 hi hz0 hz1 hz2 rfl (by decide) (.slice (some ⟨g, 0, none⟩) (j + 1) c) (j + 1) (rowM (mX :: (List.range j).map mHs)) rfl ?own (some ⟨wr.heap.size, 0, none⟩) 1 1 (mHs j).cells rfl ?src ?c3 ?c4 ?c5 ?_)
          case own => exact HOJ.out.alloc _
          case src => exact .inr ⟨_, rfl, rfl, World.news_of_block (cs := #[.int .i64 6, .int .i64 (j : Int), .int .i64 0, .string ⟨#[]⟩]) (t := 47) (fr := (0, 0)) (heap_alloc_new wr _), by simp [mHs, Mv.cells, Value.oneCell']⟩
          case c3 => unfold maxLen; omega
          case c4 => omega
          case c5 => simp; omega
          intro v8 w8 hown8 hgrow8 hat8
          obtain ⟨g8, c8, rfl⟩ : ∃ g c, v8 = .slice (some ⟨g, 0, none⟩) (j + 1 + 1) c := by
            rcases hown8.2 with ⟨_, h1⟩ | ⟨g, cap, cur, h1, _⟩
            · omega
            · exact ⟨g, cap, h1⟩
          have hb8 : Below w3'.heap.size w3' w8 := grown_belowT (hblj.trans (hal.mono hsj)) hgrow8 (fun q hq => by simp [Value.ownBlock] at hq; omega)
          have HO8 : Hid (w8.ownsRow w3'.heap.size 47 4 (.slice (some ⟨g8, 0, none⟩) (j + 1 + 1) c8) (j + 1 + 1) (rowM (mX :: (List.range (j + 1)).map mHs))) := by
            have e : mX :: (List.range (j + 1)).map mHs = (mX :: (List.range j).map mHs) ++ [mHs j] := by simp [List.range_succ]
            show World.ownsRow _ _ _ _ _ _ _
            rw [e, rowM_append]
            simpa [rowM] using hown8
          clear hown8 hgrow8 hat8
          go_wp2_with fail
          go_roundw
          case rel => exact ⟨j + 1, g8, c8, by go_num, hltj, rfl, HO8.out, hb8⟩
          case measure => simp [intOf]; omega
        · obtain rfl : j = 12 + r := by omega
          have hnj : decide ((12 : Int) + (r : Int) < 12 + (r : Int)) = false := by simp
          have HRUN2 : Hid (Calls Tryd.prog 24 #[.slice none 0 0, .slice (some ⟨g, 0, none⟩) (12 + r + 1) c] wr fun e w' => RunEnd wr (tms []) (mX :: (List.range (12 + r)).map mHs) e w') := by
            have hl : (mX :: (List.range (12 + r)).map mHs).length = 12 + r + 1 := by simp
            have hmv : MvsAt wr wr.heap.size (mX :: (List.range (12 + r)).map mHs) (some ⟨g, 0, none⟩) := mvs_own (base := w3'.heap.size) (cap := c) (by rw [hl]; exact HOJ.out) rfl
            have h := run_any [] _ (mX :: (List.range (12 + r)).map mHs) (some ⟨g, 0, none⟩) c wr.heap.size wr (sl_none wr) (by simp) (by simp) (Nat.le_refl _) hmv (by rw [hl]; omega) (by
              intro m hm
              rcases List.mem_cons.1 hm with rfl | hm
              · exact mX_short
              · rw [List.mem_map] at hm
                obtain ⟨i, _, rfl⟩ := hm
                exact mH_short i)
            rwa [hl] at h
          clear HOJ hgj
          go_wp2_with fail
          refine Calls.mono HRUN2.out ?_
          intro e w4 he
          obtain ⟨v4, rfl, hb4⟩ := he.err
          rw [run_high (12 + r) (by omega)]
          obtain ⟨E2, hE2⟩ : ∃ E2 : Int, errOf (if 12 + r + 1 ≤ 16 then Except.ok (tows (12 + r + 1)) else Except.error 3) = E2 := ⟨_, rfl⟩
          rw [hE2]
          have HE2 : Hid (E2 = if 12 + r + 1 ≤ 16 then 0 else 3) := by show E2 = _; rw [← hE2]; split <;> rfl
          have hb34 : Below w3'.heap.size w3' w4 := hblj.trans (hb4.mono hblj.size)
          have HOW4 : Hid (w4.ownsRow w1'.heap.size 47 4 (.slice (some ⟨w1'.heap.size, 0, none⟩) (1021 + q) (1021 + q)) (1021 + q) (rowM (List.replicate (1021 + q) mX))) := owns_below HOW3.out hb34
          have hb14 : Below w1'.heap.size w1' w4 := hb13.trans (hb34.mono hb13.size)
          clear he hE2 HRUN2 hb4 HOW3
          have hal4 : Below w4.heap.size w4 (w4.alloc (.cells #[.int .i64 0, .int .i64 0, .int .i64 0, .string ⟨#[]⟩] 47)) := Below.alloc (Below.refl _ _) (Nat.le_refl _) _
          go_wp2_with (at_builtin; refine wpList_append_any _ rfl _ _ 40 rfl w1'.heap.size 47 i5 (.agg #[.int .i64 0, .int .i64 0, .int .i64 0, .string ⟨#[]⟩]) 4 40 Tryd.underlying40 hi hz0 hz1 hz2 rfl (by decide) (.slice (some ⟨w1'.heap.size, 0, none⟩) (1021 + q) (1021 + q)) (1021 + q) (rowM (List.replicate (1021 + q) mX)) rfl ?own (some ⟨w4.heap.size, 0, none⟩) 1 1 mv0.cells rfl ?src ?c3 ?c4 ?c5 ?_)
          case own => exact HOW4.out.alloc _
          case src => exact .inr ⟨_, rfl, rfl, World.news_of_block (cs := #[.int .i64 0, .int .i64 0, .int .i64 0, .string ⟨#[]⟩]) (t := 47) (fr := (0, 0)) (heap_alloc_new w4 _), by simp [mv0, Mv.cells, Value.oneCell']⟩
          case c3 => unfold maxLen; omega
          case c4 => omega
          case c5 => have := hb14.size; simp; omega
          intro v5 w5 hown5 hgrow5 hat5
          obtain ⟨g5, c5, rfl⟩ : ∃ g c, v5 = .slice (some ⟨g, 0, none⟩) (1021 + q + 1) c := by
            rcases hown5.2 with ⟨_, h1⟩ | ⟨g, cap, cur, h1, _⟩
            · omega
            · exact ⟨g, cap, h1⟩
          have hb15 : Below w1'.heap.size w1' w5 := grown_belowT (hb14.trans (hal4.mono hb14.size)) hgrow5 (fun q hq => by simp [Value.ownBlock] at hq; omega)
          have HRUN3 : Hid (Calls Tryd.prog 24 #[.slice none 0 0, .slice (some ⟨g5, 0, none⟩) (1021 + q + 1) c5] w5 fun e w' => RunEnd w5 (tms []) (List.replicate (1021 + q) mX ++ [mv0]) e w') := by
            have hl : (List.replicate (1021 + q) mX ++ [mv0]).length = 1021 + q + 1 := by simp
            have hmv : MvsAt w5 w5.heap.size (List.replicate (1021 + q) mX ++ [mv0]) (some ⟨g5, 0, none⟩) := mvs_own (base := w1'.heap.size) (cap := c5) (by rw [hl]; exact hown5) (by rw [rowM_append]; simp [rowM])
            have h := run_any [] _ (List.replicate (1021 + q) mX ++ [mv0]) (some ⟨g5, 0, none⟩) c5 w5.heap.size w5 (sl_none w5) (by simp) (by simp) (Nat.le_refl _) hmv (by rw [hl]; omega) (by
              intro m hm
              rcases List.mem_append.1 hm with hm | hm
              · rw [List.eq_of_mem_replicate hm]; exact mX_short
              · simp only [List.mem_singleton] at hm; rw [hm]; unfold maxLen; decide)
            rwa [hl] at h
          clear hown5 hgrow5 hat5 HOW4 hal4
          go_wp2_with fail
          refine Calls.mono HRUN3.out ?_
          intro e w6 he
          obtain ⟨v6, rfl, hb6⟩ := he.err
          rw [run_more]
          obtain ⟨E3, hE3⟩ : ∃ E3 : Int, errOf (if 1024 < 1021 + q + 1 then (Except.error 7 : Except Int (List (Nd × Fo))) else Except.error 2) = E3 := ⟨_, rfl⟩
          rw [hE3]
          have HE3 : Hid (E3 = if 1024 < 1021 + q + 1 then 7 else 2) := by show E3 = _; rw [← hE3]; split <;> rfl
          have hbe : Below w.heap.size w w6 := ho1.trans ((hb15.trans (hb6.mono hb15.size)).mono ho1.size)
          have hr4 : r ≤ 3 ∨ 3 < r := by omega
          have hq4 : q < 3 ∨ q = 3 ∨ 3 < q := by omega
          clear he hE3 HRUN3 hb6
          rcases hq4 with hq4 | hq4 | hq4 <;> rcases hr4 with hr4 | hr4
          all_goals
            have e1 := HE1.out
            have e2 := HE2.out
            have e3 := HE3.out
          · rw [if_neg (by omega)] at e1
            rw [if_pos (by omega)] at e2
            rw [if_neg (by omega)] at e3
            subst e1 e2 e3
            have d1 : decide ((1021 : Int) + (q : Int) ≤ 1024) = true := by simp; omega
            have d2 : decide ((12 : Int) + (r : Int) + 1 ≤ 16) = true := by simp; omega
            have d3 : decide ((1024 : Int) < 1021 + (q : Int) + 1) = false := by simp; omega
            have w1q : wrap64 ((1021 : Int) + (q : Int) + 1) = 1021 + (q : Int) + 1 := by unfold wrap64; omega
            have w2r : wrap64 ((12 : Int) + (r : Int) + 1) = 12 + (r : Int) + 1 := by unfold wrap64; omega
            clear hq4 hr4 hq hr
            go_wp2_with fail
            go_ret
            exact ⟨rfl, hbe⟩
          · rw [if_neg (by omega)] at e1
            rw [if_neg (by omega)] at e2
            rw [if_neg (by omega)] at e3
            subst e1 e2 e3
            have d1 : decide ((1021 : Int) + (q : Int) ≤ 1024) = true := by simp; omega
            have d2 : decide ((12 : Int) + (r : Int) + 1 ≤ 16) = false := by simp; omega
            have d3 : decide ((1024 : Int) < 1021 + (q : Int) + 1) = false := by simp; omega
            have w1q : wrap64 ((1021 : Int) + (q : Int) + 1) = 1021 + (q : Int) + 1 := by unfold wrap64; omega
            have w2r : wrap64 ((12 : Int) + (r : Int) + 1) = 12 + (r : Int) + 1 := by unfold wrap64; omega
            clear hq4 hr4 hq hr
            go_wp2_with fail
            go_ret
            exact ⟨rfl, hbe⟩
          · rw [if_neg (by omega)] at e1
            rw [if_pos (by omega)] at e2
            rw [if_pos (by omega)] at e3
            subst e1 e2 e3
            have d1 : decide ((1021 : Int) + (q : Int) ≤ 1024) = true := by simp; omega
            have d2 : decide ((12 : Int) + (r : Int) + 1 ≤ 16) = true := by simp; omega
            have d3 : decide ((1024 : Int) < 1021 + (q : Int) + 1) = true := by simp; omega
            have w1q : wrap64 ((1021 : Int) + (q : Int) + 1) = 1021 + (q : Int) + 1 := by unfold wrap64; omega
            have w2r : wrap64 ((12 : Int) + (r : Int) + 1) = 12 + (r : Int) + 1 := by unfold wrap64; omega
            clear hq4 hr4 hq hr
            go_wp2_with fail
            go_ret
            exact ⟨rfl, hbe⟩
          · rw [if_neg (by omega)] at e1
            rw [if_neg (by omega)] at e2
            rw [if_pos (by omega)] at e3
            subst e1 e2 e3
            have d1 : decide ((1021 : Int) + (q : Int) ≤ 1024) = true := by simp; omega
            have d2 : decide ((12 : Int) + (r : Int) + 1 ≤ 16) = false := by simp; omega
            have d3 : decide ((1024 : Int) < 1021 + (q : Int) + 1) = true := by simp; omega
            have w1q : wrap64 ((1021 : Int) + (q : Int) + 1) = 1021 + (q : Int) + 1 := by unfold wrap64; omega
            have w2r : wrap64 ((12 : Int) + (r : Int) + 1) = 12 + (r : Int) + 1 := by unfold wrap64; omega
            clear hq4 hr4 hq hr
            go_wp2_with fail
            go_ret
            exact ⟨rfl, hbe⟩
          · rw [if_pos (by omega)] at e1
            rw [if_pos (by omega)] at e2
            rw [if_pos (by omega)] at e3
            subst e1 e2 e3
            have d1 : decide ((1021 : Int) + (q : Int) ≤ 1024) = false := by simp; omega
            have d2 : decide ((12 : Int) + (r : Int) + 1 ≤ 16) = true := by simp; omega
            have d3 : decide ((1024 : Int) < 1021 + (q : Int) + 1) = true := by simp; omega
            have w1q : wrap64 ((1021 : Int) + (q : Int) + 1) = 1021 + (q : Int) + 1 := by unfold wrap64; omega
            have w2r : wrap64 ((12 : Int) + (r : Int) + 1) = 12 + (r : Int) + 1 := by unfold wrap64; omega
            clear hq4 hr4 hq hr
            go_wp2_with fail
            go_ret
            exact ⟨rfl, hbe⟩
          · rw [if_pos (by omega)] at e1
            rw [if_neg (by omega)] at e2
            rw [if_pos (by omega)] at e3
            subst e1 e2 e3
            have d1 : decide ((1021 : Int) + (q : Int) ≤ 1024) = false := by simp; omega
            have d2 : decide ((12 : Int) + (r : Int) + 1 ≤ 16) = false := by simp; omega
            have d3 : decide ((1024 : Int) < 1021 + (q : Int) + 1) = true := by simp; omega
            have w1q : wrap64 ((1021 : Int) + (q : Int) + 1) = 1021 + (q : Int) + 1 := by unfold wrap64; omega
            have w2r : wrap64 ((12 : Int) + (r : Int) + 1) = 12 + (r : Int) + 1 := by unfold wrap64; omega
            clear hq4 hr4 hq hr
            go_wp2_with fail
            go_ret
            exact ⟨rfl, hbe⟩

end Go.Proofs.YtldpnhlifgkmiaaDoor
