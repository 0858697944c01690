import Derived.Test.YteohbkfogebldaaT10
import Derived.Deep.DeepCutAuto
namespace Go.Proofs.Yteohbkfogebldaa
open Go.RowKit
set_option linter.unusedVariables false
set_option linter.unusedSimpArgs false

theorem one_conv (c : Nat) (hc : c < 256) (w : World) :
    (convert 33 9 (.slice (some ⟨w.heap.size, 0, none⟩) 1 1)).run Try.prog (w.alloc (.cells #[.int .u8 (c : Int)] 5)) = .ok (.string (oneS c)) (w.alloc (.cells #[.int .u8 (c : Int)] 5)) := by
  have h := run_convert_bytes_back (P := Try.prog) (w.alloc (.cells #[.int .u8 (c : Int)] 5)) 33 9 5 ⟨w.heap.size, 0, none⟩ 1 [UInt8.ofNat c] Try.underlying33 Try.underlying5 Try.underlying9 (fun j hj => by
    obtain rfl : j = 0 := by simp at hj; omega
    have ea : (⟨w.heap.size, 0, none⟩ : Addr).add 0 = ⟨w.heap.size, 0, none⟩ := rfl
    rw [ea]
    simp [go_sem]; omega)
  exact h

set_option maxRecDepth 20000 in
set_option maxHeartbeats 8000000 in
theorem textClasses_any (c0 : Int) (ns : List Int) (LA : Option Addr) (cap : Nat) (w : World) (hc1 : 0 ≤ c0) (hc2 : c0 ≤ 255) (hns : NumsAt w w.heap.size ns LA) (hf : NumsFit ns) :
    Calls Try.prog 5 #[.int .u8 c0, .slice LA ns.length cap] w fun e w' => e = .returned (.bool true) ∧ Below w.heap.size w w' := by
  obtain ⟨c, rfl⟩ : ∃ c : Nat, c0 = (c : Int) := ⟨c0.toNat, by omega⟩
  have hc : c < 256 := by omega
  clear hc1 hc2
  have hcv := one_conv c hc
  go_enter Try.func5, Try.ntmps5
  go_wp2_with fail
  refine (known6_any w).mono ?_
  rintro e w1 ⟨rfl, b1⟩
  have s1 := b1.size
  go_upto_region 4 with fail
  have b2 : Below w.heap.size w (w1.alloc (.cells #[.int .u8 (c : Int)] 5)) := b1.alloc s1 _
  generalize w1.alloc (.cells #[.int .u8 (c : Int)] 5) = w2 at *
  clear b1 s1 hcv
  have s2 := b2.size
  go_cut [6] (fun lv wx => lv = .bool (letB c) ∧ wx = w2)
  case first =>
    go_wp2_with fail
    all_goals go_meet
    all_goals exact ⟨congrArg Value.bool (by rw [Bool.eq_iff_iff]; simp only [letB, Bool.or_eq_true, Bool.and_eq_true, decide_eq_true_eq, Bool.false_eq_true, false_iff, true_iff, iff_true, iff_false]; (try omega)), rfl⟩
  case rest =>
    obtain ⟨rfl, rfl⟩ := hcut
    have HP : Hid (plainB (c : Int) = (letB c || decide (48 ≤ c ∧ c ≤ 57) || decide (c = 45) || decide (c = 46) || decide (c = 95) || decide (c = 126))) := by
      show _ = _
      rw [Bool.eq_iff_iff]; simp only [plainB, letB, Bool.or_eq_true, decide_eq_true_eq]; omega
    generalize letB c = L at *
    go_upto_region 5 with fail
    go_cut [7] (fun pv wx => pv = .bool (plainB (c : Int)) ∧ wx = wc)
    case first =>
      cases L
      · by_cases k1 : (c : Int) ≥ 48 <;> by_cases k2 : (c : Int) ≤ 57
        all_goals try (exfalso; omega)
        all_goals
          have HC : Hid ((((c : Int) == 45) = true ∧ c = 45) ∨ (((c : Int) == 45) = false ∧ ((c : Int) == 46) = true ∧ c = 46) ∨ (((c : Int) == 45) = false ∧ ((c : Int) == 46) = false ∧ ((c : Int) == 95) = true ∧ c = 95) ∨ (((c : Int) == 45) = false ∧ ((c : Int) == 46) = false ∧ ((c : Int) == 95) = false ∧ ((c : Int) == 126) = true ∧ c = 126) ∨ (((c : Int) == 45) = false ∧ ((c : Int) == 46) = false ∧ ((c : Int) == 95) = false ∧ ((c : Int) == 126) = false ∧ c ≠ 45 ∧ c ≠ 46 ∧ c ≠ 95 ∧ c ≠ 126)) := by
            show _ ∨ _
            simp only [beq_iff_eq, beq_eq_false_iff_ne, ne_eq]; omega
          rcases HC.out with ⟨g1, kk⟩ | ⟨g1, g2, kk⟩ | ⟨g1, g2, g3, kk⟩ | ⟨g1, g2, g3, g4, kk⟩ | ⟨g1, g2, g3, g4, kk⟩
          all_goals
            have KK : Hid _ := kk
            clear kk HC
            go_wp2_with fail
        all_goals go_meet
        all_goals exact ⟨congrArg Value.bool (by have kk := KK.out; rw [HP.out, Bool.eq_iff_iff]; simp only [Bool.or_eq_true, Bool.and_eq_true, decide_eq_true_eq, Bool.false_eq_true, false_iff, true_iff, iff_true, iff_false, false_or]; omega), rfl⟩
      · go_wp2_with fail
        go_meet
        exact ⟨congrArg Value.bool (by rw [HP.out]; simp), rfl⟩
    case rest =>
      obtain ⟨rfl, rfl⟩ := hcut
      clear HP
      obtain ⟨o1, o2, o3, o4⟩ := one_facts ⟨c, hc⟩
      have o5 : Hid (plainB (c : Int) = true → tokB (c : Int) = true) := fun h => by simp [tokB, h]
      simp only at o1 o2 o3 o4
      go_wp2_with fail
      refine (some_any ns LA cap w.heap.size 6 (by omega) wc s2 (hns.below b2) hf).mono ?_
      rintro e w3 ⟨rfl, b3⟩
      replace b3 := below_tr b2 b3
      clear b2
      have hx := someF_small ns 6 0 ByteArray.empty
      generalize someF ns 6 0 ByteArray.empty = x at *
      have hx' : x.size ≤ 24 := by simpa using hx
      clear hx
      have F1 := foldS_twice x
      have F2 := foldS_size x
      have Hw : Hid (wordB x = true → _) := word_all x
      go_upto_region 7 with fail
      dsimp only [List.append]
      go_wp2_with fail
      refine (wordB_any (oneS c) _).mono ?_
      rintro e w4 ⟨rfl, b4⟩
      replace b4 := below_tr b3 b4
      clear b3
      rw [o1]
      generalize plainB (c : Int) = P at *
      have hone : (oneS c).size ≤ 9223372036854775807 := by show 1 ≤ _; omega
      clear o1 s2 hns hf
      generalize oneS c = S at *
      go_wp2_with fail
      refine (sawB_any S _).mono ?_
      rintro e w5 ⟨rfl, b5⟩
      replace b5 := below_tr b4 b5
      clear b4
      have o3' : eachF knownB S S.size 0 = decide ((c : Int) < 128) := by rw [o3, Bool.eq_iff_iff]; simp only [decide_eq_true_eq]; omega
      clear o3
      by_cases k1 : (c : Int) ≥ 32
      all_goals
        first
          | rw [show sawB S = decide ((c : Int) ≤ 126) by rw [o2, Bool.eq_iff_iff]; simp only [decide_eq_true_eq]; omega]
          | rw [show sawB S = false by rw [o2, decide_eq_false (show ¬ (32 ≤ c ∧ c ≤ 126) by omega)]]
        clear o2
        go_wp2_with fail
        refine (valid_any S _).mono ?_
        rintro e w6 ⟨rfl, b6⟩
        replace b6 := below_tr b5 b6
        clear b5
        rw [o3']
        clear o3'
        cases P
        · go_wp2_with fail
          refine (wordB_any x _).mono ?_
          rintro e w7 ⟨rfl, b7⟩
          replace b7 := below_tr b6 b7
          clear b6
          generalize hW0 : wordB x = Wd at *
          have HW : Hid (wordB x = Wd) := hW0
          clear hW0
          cases Wd
          · go_wp2_with fail
            refine (fold_any x _ (by omega)).mono ?_
            rintro e x1 ⟨rfl, c1⟩
            replace c1 := below_tr b7 c1
            go_wp2_with fail
            refine (fold_any (foldS x) _ (by omega)).mono ?_
            rintro e x2 ⟨rfl, c2⟩
            replace c2 := below_tr c1 c2
            rw [F1]
            go_wp2_with fail
            refine (fold_any x _ (by omega)).mono ?_
            rintro e x3 ⟨rfl, c3⟩
            replace c3 := below_tr c2 c3
            go_wp2_with fail
            refine (fold_any x _ (by omega)).mono ?_
            rintro e x4 ⟨rfl, c4⟩
            replace c4 := below_tr c3 c4
            go_wp2_with fail
            go_ret
            exact ⟨rfl, c4⟩
          · obtain ⟨t1, t2, t3, t4⟩ := Hw.out (by trivial)
            go_wp2_with fail
            refine (tokenB_any x _).mono ?_
            rintro e wa ⟨rfl, ba⟩
            replace ba := below_tr b7 ba
            rw [t1]
            go_wp2_with fail
            refine (sawB_any x _).mono ?_
            rintro e wb ⟨rfl, bb⟩
            replace bb := below_tr ba bb
            rw [t2]
            go_wp2_with fail
            refine (valid_any x _).mono ?_
            rintro e wd ⟨rfl, bd⟩
            replace bd := below_tr bb bd
            rw [t3]
            go_wp2_with fail
            refine (runes_any x _ (by omega)).mono ?_
            rintro e wf ⟨rfl, bf⟩
            replace bf := below_tr bd bf
            rw [t4]
            clear b7 ba bb bd t1 t2 t3 t4
            go_wp2_with fail
            refine (fold_any x _ (by omega)).mono ?_
            rintro e x1 ⟨rfl, c1⟩
            replace c1 := below_tr bf c1
            go_wp2_with fail
            refine (fold_any (foldS x) _ (by omega)).mono ?_
            rintro e x2 ⟨rfl, c2⟩
            replace c2 := below_tr c1 c2
            rw [F1]
            go_wp2_with fail
            refine (fold_any x _ (by omega)).mono ?_
            rintro e x3 ⟨rfl, c3⟩
            replace c3 := below_tr c2 c3
            go_wp2_with fail
            refine (fold_any x _ (by omega)).mono ?_
            rintro e x4 ⟨rfl, c4⟩
            replace c4 := below_tr c3 c4
            go_wp2_with fail
            go_ret
            exact ⟨rfl, c4⟩
        · go_wp2_with fail
          refine (tokenB_any S _).mono ?_
          rintro e w6' ⟨rfl, b6'⟩
          replace b6' := below_tr b6 b6'
          clear b6
          rw [o4, o5.out (by trivial)]
          go_wp2_with fail
          refine (wordB_any x _).mono ?_
          rintro e w7 ⟨rfl, b7⟩
          replace b7 := below_tr b6' b7
          clear b6'
          generalize hW0 : wordB x = Wd at *
          have HW : Hid (wordB x = Wd) := hW0
          clear hW0
          cases Wd
          · go_wp2_with fail
            refine (fold_any x _ (by omega)).mono ?_
            rintro e x1 ⟨rfl, c1⟩
            replace c1 := below_tr b7 c1
            go_wp2_with fail
            refine (fold_any (foldS x) _ (by omega)).mono ?_
            rintro e x2 ⟨rfl, c2⟩
            replace c2 := below_tr c1 c2
            rw [F1]
            go_wp2_with fail
            refine (fold_any x _ (by omega)).mono ?_
            rintro e x3 ⟨rfl, c3⟩
            replace c3 := below_tr c2 c3
            go_wp2_with fail
            refine (fold_any x _ (by omega)).mono ?_
            rintro e x4 ⟨rfl, c4⟩
            replace c4 := below_tr c3 c4
            go_wp2_with fail
            go_ret
            exact ⟨rfl, c4⟩
          · obtain ⟨t1, t2, t3, t4⟩ := Hw.out (by trivial)
            go_wp2_with fail
            refine (tokenB_any x _).mono ?_
            rintro e wa ⟨rfl, ba⟩
            replace ba := below_tr b7 ba
            rw [t1]
            go_wp2_with fail
            refine (sawB_any x _).mono ?_
            rintro e wb ⟨rfl, bb⟩
            replace bb := below_tr ba bb
            rw [t2]
            go_wp2_with fail
            refine (valid_any x _).mono ?_
            rintro e wd ⟨rfl, bd⟩
            replace bd := below_tr bb bd
            rw [t3]
            go_wp2_with fail
            refine (runes_any x _ (by omega)).mono ?_
            rintro e wf ⟨rfl, bf⟩
            replace bf := below_tr bd bf
            rw [t4]
            clear b7 ba bb bd t1 t2 t3 t4
            go_wp2_with fail
            refine (fold_any x _ (by omega)).mono ?_
            rintro e x1 ⟨rfl, c1⟩
            replace c1 := below_tr bf c1
            go_wp2_with fail
            refine (fold_any (foldS x) _ (by omega)).mono ?_
            rintro e x2 ⟨rfl, c2⟩
            replace c2 := below_tr c1 c2
            rw [F1]
            go_wp2_with fail
            refine (fold_any x _ (by omega)).mono ?_
            rintro e x3 ⟨rfl, c3⟩
            replace c3 := below_tr c2 c3
            go_wp2_with fail
            refine (fold_any x _ (by omega)).mono ?_
            rintro e x4 ⟨rfl, c4⟩
            replace c4 := below_tr c3 c4
            go_wp2_with fail
            go_ret
            exact ⟨rfl, c4⟩

end Go.Proofs.Yteohbkfogebldaa
