import Derived.Test.YtfmkkalidcjilaaDoorE7
import Derived.Deep.DeepCutAuto
namespace Go.Proofs.YtfmkkalidcjilaaDoor
open Go.RowKit
set_option linter.unusedVariables false
set_option linter.unusedSimpArgs false

def one7 (c : Nat) : ByteArray := ⟨#[UInt8.ofNat c]⟩
/-- A percent sign and a byte's two digits. -/
def pctS (c : Nat) : ByteArray := ⟨#[37, UInt8.ofNat (hexN (c / 16)), UInt8.ofNat (hexN (c % 16))]⟩

theorem byte_enc : ∀ c : Fin 256, encS false (one7 c.1) = (if plainB (c.1 : Int) = true then one7 c.1 else pctS c.1) ∧ encS true (one7 c.1) = (if plainB (c.1 : Int) = true then one7 c.1 else if c.1 = 32 then ⟨#[43]⟩ else pctS c.1) := by decide +kernel
theorem byte_dec : ∀ c : Fin 256, decX false (pctS c.1) = (if plainB (c.1 : Int) = true then ⟨#[]⟩ else one7 c.1) ∧ decN false (pctS c.1) = (if plainB (c.1 : Int) = true then 3 else 0) := by decide +kernel

theorem one7_conv (c : Nat) (hc : c < 256) (w : World) :
    (convert 32 9 (.slice (some ⟨w.heap.size, 0, none⟩) 1 1)).run Tryd.prog (w.alloc (.cells #[.int .u8 (c : Int)] 5)) = .ok (.string (one7 c)) (w.alloc (.cells #[.int .u8 (c : Int)] 5)) := by
  have h := run_convert_bytes_back (P := Tryd.prog) (w.alloc (.cells #[.int .u8 (c : Int)] 5)) 32 9 5 ⟨w.heap.size, 0, none⟩ 1 [UInt8.ofNat c] Tryd.underlying32 Tryd.underlying5 Tryd.underlying9 (fun j hj => by
    obtain rfl : j = 0 := by simp at hj; omega
    have ea : (⟨w.heap.size, 0, none⟩ : Addr).add 0 = ⟨w.heap.size, 0, none⟩ := rfl
    rw [ea]
    simp [go_sem]; omega)
  exact h

theorem pct_slices : ∀ c : Fin 256, (⟨#[37]⟩ : ByteArray) ++ (⟨#[48, 49, 50, 51, 52, 53, 54, 55, 56, 57, 65, 66, 67, 68, 69, 70]⟩ : ByteArray).extract (c.1 / 16) (c.1 / 16 + 1) ++ (⟨#[48, 49, 50, 51, 52, 53, 54, 55, 56, 57, 65, 66, 67, 68, 69, 70]⟩ : ByteArray).extract (c.1 % 16) (c.1 % 16 + 1) = pctS c.1 := by decide +kernel

theorem quo_u8 : ∀ c : Fin 256, IntKind.u8.wrap ((c.1 : Int) / 16) = ((c.1 / 16 : Nat) : Int) := by decide +kernel
theorem rem_u8 : ∀ c : Fin 256, (c.1 : Int).tmod 16 = ((c.1 % 16 : Nat) : Int) := by decide +kernel
theorem suc_u8 : ∀ c : Fin 16, IntKind.u8.wrap ((c.1 : Int) + 1) = (c.1 : Int) + 1 := by decide +kernel

theorem ext1 : ∀ c : Fin 16, ((⟨#[48, 49, 50, 51, 52, 53, 54, 55, 56, 57, 65, 66, 67, 68, 69, 70]⟩ : ByteArray).extract c.1 (c.1 + 1)).size = 1 := by decide +kernel

theorem chain7 (c : Nat) : plainB (c : Int) = (decide (97 ≤ c ∧ c ≤ 122) || decide (65 ≤ c ∧ c ≤ 90) || decide (48 ≤ c ∧ c ≤ 57) || decide (c = 45) || decide (c = 46) || decide (c = 95) || decide (c = 126)) := by
  rw [Bool.eq_iff_iff]; simp only [plainB, Bool.or_eq_true, decide_eq_true_eq]; omega

set_option maxRecDepth 20000 in
set_option maxHeartbeats 4000000 in
theorem pctBytes_any (c0 : Int) (w : World) (hc1 : 0 ≤ c0) (hc2 : c0 ≤ 255) (ht : Tab16 w.heap.size w) :
    Calls Tryd.prog 6 #[.int .u8 c0] w fun e w' => e = .returned (.bool true) ∧ Below w.heap.size w w' := by
  obtain ⟨c, rfl⟩ : ∃ c : Nat, c0 = (c : Int) := ⟨c0.toNat, by omega⟩
  have hc : c < 256 := by omega
  clear hc1 hc2
  have hcv := one7_conv c hc
  have k0 := known7_any w ht
  have Htab : Hid (Tab16 w.heap.size w) := ht
  clear ht
  go_enter Tryd.func6, Tryd.ntmps6
  go_wp2_with fail
  refine k0.mono ?_
  rintro e w1 ⟨rfl, b1⟩
  have s1 := b1.size
  clear k0
  go_upto_region 4 with fail
  have b2 : Below w.heap.size w (w1.alloc (.cells #[.int .u8 (c : Int)] 5)) := b1.alloc s1 _
  generalize w1.alloc (.cells #[.int .u8 (c : Int)] 5) = w2 at *
  clear b1 s1 hcv
  go_cut [4] (fun pv wx => pv = .bool (plainB (c : Int)) ∧ wx = w2)
  case first =>
    have HP : Hid (_ = _) := chain7 c
    rcases (show ¬ (c : Int) ≥ 48 ∨ (c : Int) ≥ 48 ∧ (c : Int) ≤ 57 ∨ (c : Int) ≥ 58 ∧ ¬ (c : Int) ≥ 65 ∨ (c : Int) ≥ 65 ∧ (c : Int) ≤ 90 ∨ (c : Int) ≥ 91 ∧ ¬ (c : Int) ≥ 97 ∨ (c : Int) ≥ 97 ∧ (c : Int) ≤ 122 ∨ ¬ (c : Int) ≤ 122 by omega) with q | q | q | q | q | q | q
    all_goals
      by_cases k1 : (c : Int) ≥ 97 <;> by_cases k2 : (c : Int) ≤ 122 <;> by_cases k3 : (c : Int) ≥ 65 <;> by_cases k4 : (c : Int) ≤ 90 <;> by_cases k5 : (c : Int) ≥ 48 <;> by_cases k6 : (c : Int) ≤ 57
      all_goals try (exfalso; omega)
    all_goals
      clear q
      have HC : Hid ((((c : Int) == 45) = true ∧ c = 45) ∨ (((c : Int) == 45) = false ∧ ((c : Int) == 46) = true ∧ c = 46) ∨ (((c : Int) == 45) = false ∧ ((c : Int) == 46) = false ∧ ((c : Int) == 95) = true ∧ c = 95) ∨ (((c : Int) == 45) = false ∧ ((c : Int) == 46) = false ∧ ((c : Int) == 95) = false ∧ ((c : Int) == 126) = true ∧ c = 126) ∨ (((c : Int) == 45) = false ∧ ((c : Int) == 46) = false ∧ ((c : Int) == 95) = false ∧ ((c : Int) == 126) = false ∧ c ≠ 45 ∧ c ≠ 46 ∧ c ≠ 95 ∧ c ≠ 126)) := by
        show _ ∨ _
        simp only [beq_iff_eq, beq_eq_false_iff_ne, ne_eq]; omega
      rcases HC.out with ⟨g1, kk⟩ | ⟨g1, g2, kk⟩ | ⟨g1, g2, g3, kk⟩ | ⟨g1, g2, g3, g4, kk⟩ | ⟨g1, g2, g3, g4, kk⟩
      all_goals try (exfalso; omega)
      all_goals
        have KK : Hid _ := kk
        clear kk HC
        go_wp2_with fail
    all_goals go_meet
    all_goals exact ⟨congrArg Value.bool (by have kk := KK.out; rw [HP.out, Bool.eq_iff_iff]; simp only [Bool.or_eq_true, Bool.and_eq_true, decide_eq_true_eq, Bool.false_eq_true, false_iff, true_iff, iff_true, iff_false, false_or]; omega), rfl⟩
  case rest =>
    obtain ⟨rfl, rfl⟩ := hcut
    go_upto_region 6 with fail
    go_cut [6] (fun pv wx => pv = .string (pctS c) ∧ Below w.heap.size w wx)
    case first =>
      go_region
      go_wp2_with fail
      go_meet
      exact ⟨congrArg Value.string (pct_slices ⟨c, hc⟩), b2.drew⟩
    case rest =>
      clear b2
      obtain ⟨rfl, b3⟩ := hcut
      go_upto_if 69 with fail
      go_cut [6] (fun pv wx => pv = .string (if plainB (c : Int) = true then one7 c else pctS c) ∧ wx = wc)
      case first =>
        generalize plainB (c : Int) = P at *
        cases P
        all_goals go_wp2_with fail
        all_goals go_meet
        all_goals exact ⟨rfl, rfl⟩
      case rest =>
        obtain ⟨rfl, rfl⟩ := hcut
        generalize hwt : (if plainB (c : Int) = true then one7 c else pctS c) = want
        have Hwt : Hid ((if plainB (c : Int) = true then one7 c else pctS c) = want) := hwt
        clear hwt
        have hsl := pct_slices ⟨c, hc⟩
        simp only at hsl
        have z2 : (pctS c).size ≤ 1000000 := by show 3 ≤ _; omega
        have d1 : c / 16 < 16 := by omega
        have d2 : c % 16 < 16 := by omega
        have q1 : IntKind.u8.wrap ((c : Int) / 16) = ((c / 16 : Nat) : Int) := quo_u8 ⟨c, hc⟩
        have q2 : (c : Int).tmod 16 = ((c % 16 : Nat) : Int) := rem_u8 ⟨c, hc⟩
        generalize c / 16 = d at *
        generalize c % 16 = m at *
        have q3 : IntKind.u8.wrap ((d : Int) + 1) = (d : Int) + 1 := suc_u8 ⟨d, d1⟩
        have q4 : IntKind.u8.wrap ((m : Int) + 1) = (m : Int) + 1 := suc_u8 ⟨m, d2⟩
        have q5 : (d : Int) + 1 ≤ 16 := by omega
        have q6 : (m : Int) + 1 ≤ 16 := by omega
        have q7 : 0 ≤ (d : Int) + 1 := by omega
        have q8 : 0 ≤ (m : Int) + 1 := by omega
        have q9 : (d : Int) ≤ (d : Int) + 1 := by omega
        have qa : (m : Int) ≤ (m : Int) + 1 := by omega
        have k1 : ∀ W, Below w.heap.size w W → Calls Tryd.prog 10 #[.string (⟨#[37]⟩ ++ (⟨#[48, 49, 50, 51, 52, 53, 54, 55, 56, 57, 65, 66, 67, 68, 69, 70]⟩ : ByteArray).extract d (d + 1) ++ (⟨#[48, 49, 50, 51, 52, 53, 54, 55, 56, 57, 65, 66, 67, 68, 69, 70]⟩ : ByteArray).extract m (m + 1)), .bool false] W fun e w' => e = .returned (.tuple #[.string (decX false (pctS c)), .int .i64 (decN false (pctS c))]) ∧ Below W.heap.size W w' := by
          intro W hW
          rw [hsl]
          exact dec_at Htab.out (pctS c) z2 false _ _ rfl rfl W hW
        clear hsl z2
        have y1 : ((⟨#[48, 49, 50, 51, 52, 53, 54, 55, 56, 57, 65, 66, 67, 68, 69, 70]⟩ : ByteArray).extract d (d + 1)).size = 1 := ext1 ⟨d, d1⟩
        have y2 : ((⟨#[48, 49, 50, 51, 52, 53, 54, 55, 56, 57, 65, 66, 67, 68, 69, 70]⟩ : ByteArray).extract m (m + 1)).size = 1 := ext1 ⟨m, d2⟩
        generalize hx1 : (⟨#[48, 49, 50, 51, 52, 53, 54, 55, 56, 57, 65, 66, 67, 68, 69, 70]⟩ : ByteArray).extract d (d + 1) = x1 at *
        generalize hx2 : (⟨#[48, 49, 50, 51, 52, 53, 54, 55, 56, 57, 65, 66, 67, 68, 69, 70]⟩ : ByteArray).extract m (m + 1) = x2 at *
        have y3 : ¬ 9223372036854775807 < 1 + x1.size := by rw [y1]; decide
        have y4 : ¬ 9223372036854775807 < 1 + x1.size + x2.size := by rw [y1, y2]; decide
        clear d1 d2 y1 y2
        go_upto_region 9 with fail
        go_region_held3 (fun W => Below w.heap.size w W)
          (first | assumption | exact Below.drew b3)
          ((go_at_call 10; refine (k1 _ (Below.drew b3)).mono ?_; rintro e w4 ⟨rfl, h4'⟩; have h4 : Below w.heap.size w w4 := below_tr (Below.drew b3) h4'))
        clear b3 k1 h4' q1 q2 q3 q4 q5 q6 q7 q8 q9 qa y3 y4 hx1 hx2
        have E := byte_enc ⟨c, hc⟩
        have D := byte_dec ⟨c, hc⟩
        simp only at E D
        have z1 : (one7 c).size ≤ 1000000 := by show 1 ≤ _; omega
        have k2 := enc_at Htab.out (one7 c) z1 false
        have k3 := enc_at Htab.out (one7 c) z1 true
        have h32 : c = 32 → plainB (c : Int) = false := by rintro rfl; decide
        clear z1 Htab
        have hwt := Hwt.out
        clear Hwt
        rw [D.1, D.2]
        generalize plainB (c : Int) = P at *
        cases P
        · rw [if_neg (by decide), if_neg (by decide)] at E
          rw [if_neg (by decide)] at hwt
          rw [if_neg (by decide), if_neg (by decide)]
          subst hwt
          have k2' := k2 _ E.1
          have k3' := k3 _ E.2
          clear k2 k3 D E h32
          generalize pctS c = q at *
          generalize one7 c = s1 at *
          by_cases hb : c = 32
          · rw [if_pos hb] at k3'
            have hb' : ((c : Int) == 32) = true := by rw [hb]; rfl
            clear hb
            go_wp2_with fail
            refine (k2' _ h4).mono ?_
            rintro e w5 ⟨rfl, h5⟩
            replace h5 := below_tr h4 h5
            go_wp2_with fail
            refine (k3' _ h5).mono ?_
            rintro e w6 ⟨rfl, h6⟩
            replace h6 := below_tr h5 h6
            go_wp2_with fail
            go_ret
            exact ⟨ret_bool (by simp), h6⟩
          · rw [if_neg hb] at k3'
            have hb' : ((c : Int) == 32) = false := by simp; omega
            clear hb
            go_wp2_with fail
            refine (k2' _ h4).mono ?_
            rintro e w5 ⟨rfl, h5⟩
            replace h5 := below_tr h4 h5
            go_wp2_with fail
            refine (k3' _ h5).mono ?_
            rintro e w6 ⟨rfl, h6⟩
            replace h6 := below_tr h5 h6
            go_wp2_with fail
            go_ret
            exact ⟨ret_bool (by simp), h6⟩
        · rw [if_pos rfl, if_pos rfl] at E
          rw [if_pos rfl] at hwt
          rw [if_pos rfl, if_pos rfl]
          subst hwt
          have k2' := k2 _ E.1
          have k3' := k3 _ E.2
          have hb' : ((c : Int) == 32) = false := by
            simp only [beq_eq_false_iff_ne, ne_eq]
            intro h
            have := h32 (by omega)
            cases this
          clear k2 k3 D E h32
          generalize pctS c = q at *
          generalize one7 c = s1 at *
          go_wp2_with fail
          refine (k2' _ h4).mono ?_
          rintro e w5 ⟨rfl, h5⟩
          replace h5 := below_tr h4 h5
          go_wp2_with fail
          refine (k3' _ h5).mono ?_
          rintro e w6 ⟨rfl, h6⟩
          replace h6 := below_tr h5 h6
          go_wp2_with fail
          go_ret
          exact ⟨ret_bool (by simp), h6⟩

end Go.Proofs.YtfmkkalidcjilaaDoor
