import Derived.Test.YtfoeeocejcbmlaaDoorUI
namespace Go.Proofs.YtfoeeocejcbmlaaDoor
open Go.RowKit
set_option linter.unusedVariables false
set_option linter.unusedSimpArgs false

def hS (k : Nat) : ByteArray := ⟨(List.replicate k (104 : UInt8)).toArray⟩
def pS (r : Nat) : ByteArray := ⟨((47 : UInt8) :: List.replicate r 112).toArray⟩
theorem hS_size (k : Nat) : (hS k).size = k := by rw [← size_list]; simp [hS]
theorem pS_size (r : Nat) : (pS r).size = r + 1 := by rw [← size_list]; simp [pS]
theorem hS_step (k : Nat) : hS (k + 1) = hS k ++ ⟨#[104]⟩ := ba_ext (by rw [ba_app]; simp only [hS, ba_list]; rw [List.replicate_succ'])
theorem pS_step (k : Nat) : pS (k + 1) = pS k ++ ⟨#[112]⟩ := ba_ext (by rw [ba_app]; simp only [pS, ba_list]; rw [List.replicate_succ']; rfl)

theorem hS_all (k : Nat) : (hS k).data.toList.all hostB = true := by
  rw [List.all_eq_true]
  intro x hx
  simp only [hS, ba_list] at hx
  rw [List.eq_of_mem_replicate hx]; rfl
theorem hS_host (k : Nat) : isHost (hS k) = decide (1 ≤ k ∧ k ≤ 64) := by
  unfold isHost; rw [hS_all, hS_size, Bool.true_and]
theorem hS_free (k : Nat) : ∀ d ∈ (hS k).data.toList, (d == (47 : UInt8)) = false := by
  intro d hd
  simp only [hS, ba_list] at hd
  rw [List.eq_of_mem_replicate hd]; rfl
theorem pS_path (r : Nat) : isPath (pS r) = true := by
  unfold isPath
  rw [Bool.and_eq_true, List.all_eq_true]
  refine ⟨fun x hx => ?_, ?_⟩
  · simp only [pS, ba_list] at hx
    rcases List.mem_cons.1 hx with rfl | hx
    · decide
    · rw [List.eq_of_mem_replicate hx]; decide
  · rfl

theorem uri_nil (h p : ByteArray) : uriS (h, p, []) = httpsS ++ h ++ p := by unfold uriS tgtS; rw [if_pos rfl]
theorem uri_nil_size (h p : ByteArray) : (uriS (h, p, [])).size = 8 + h.size + p.size := by
  rw [uri_nil, ByteArray.size_append, ByteArray.size_append]; rfl
theorem may_host (k : Nat) (h1 : 1 ≤ k) (h2 : k ≤ 900) : mayU (hS k, ⟨#[47]⟩, []) = decide (k ≤ 64) := by
  rw [Bool.eq_iff_iff, mayU_is, decide_eq_true_eq]
  dsimp only
  rw [hS_host, decide_eq_true_eq, uri_nil_size, hS_size]
  constructor
  · intro h; exact h.1.2
  · intro h; exact ⟨⟨h1, h⟩, by decide, Nat.zero_le _, Unl.nil, by show 8 + k + 1 ≤ 1024; omega⟩
theorem may_path (r : Nat) : mayU (⟨#[97, 115]⟩, pS r, []) = decide (r ≤ 1013) := by
  rw [Bool.eq_iff_iff, mayU_is, decide_eq_true_eq]
  dsimp only
  rw [uri_nil_size, pS_size, show (⟨#[97, 115]⟩ : ByteArray).size = 2 from rfl]
  constructor
  · intro h; omega
  · intro h; exact ⟨by decide, pS_path r, Nat.zero_le _, Unl.nil, by omega⟩

theorem par_host (k : Nat) (h1 : 1 ≤ k) (h2 : k ≤ 900) : (prsF (⟨#[104, 116, 116, 112, 115, 58, 47, 47]⟩ ++ hS k ++ ⟨#[47]⟩)).1 = if k ≤ 64 then 0 else 3 := by
  have e : (⟨#[104, 116, 116, 112, 115, 58, 47, 47]⟩ ++ hS k ++ ⟨#[47]⟩ : ByteArray) = uriS (hS k, ⟨#[47]⟩, []) := (uri_nil _ _).symm
  by_cases h : k ≤ 64
  · rw [if_pos h, e, prs_back (by rw [may_host k h1 h2, decide_eq_true h])]
  · rw [if_neg h]
    have e2 : (⟨#[104, 116, 116, 112, 115, 58, 47, 47]⟩ ++ hS k ++ ⟨#[47]⟩ : ByteArray) = httpsS ++ (hS k ++ ⟨#[47]⟩ ++ ⟨#[]⟩) := by
      apply ba_ext; simp only [ba_app, List.append_assoc]; rfl
    have hz := uri_nil_size (hS k) ⟨#[47]⟩
    rw [← e, hS_size, show (⟨#[47]⟩ : ByteArray).size = 1 from rfl] at hz
    obtain ⟨f1, f2⟩ := https_front (hS k ++ ⟨#[47]⟩ ++ ⟨#[]⟩)
    obtain ⟨c1, c2, c3⟩ := cut_app (b := ⟨#[]⟩) (hS_free k)
    rw [e2] at hz ⊢
    unfold prsF
    rw [if_neg (by omega), if_pos f1, f2]
    unfold adrF
    rw [c1, c3, hS_host, if_neg (fun hh => h (of_decide_eq_true hh.2).2)]
theorem par_path (r : Nat) : (prsF (⟨#[104, 116, 116, 112, 115, 58, 47, 47, 97, 115]⟩ ++ pS r)).1 = if r ≤ 1013 then 0 else 4 := by
  have e : (⟨#[104, 116, 116, 112, 115, 58, 47, 47, 97, 115]⟩ ++ pS r : ByteArray) = uriS (⟨#[97, 115]⟩, pS r, []) := by
    rw [uri_nil]; apply ba_ext; simp only [ba_app]; rfl
  by_cases h : r ≤ 1013
  · rw [if_pos h, e, prs_back (by rw [may_path r, decide_eq_true h])]
  · rw [if_neg h]
    have hz := uri_nil_size ⟨#[97, 115]⟩ (pS r)
    rw [← e, pS_size, show (⟨#[97, 115]⟩ : ByteArray).size = 2 from rfl] at hz
    unfold prsF
    rw [if_pos (by omega)]
theorem par_ftp (r : Nat) : (prsF (⟨#[102, 116, 112, 58, 104, 116, 116, 112, 115, 58, 47, 47, 97, 115]⟩ ++ pS r)).1 = if r ≤ 1009 then 3 else 4 := by
  have hz := ByteArray.size_append (a := ⟨#[102, 116, 112, 58, 104, 116, 116, 112, 115, 58, 47, 47, 97, 115]⟩) (b := pS r)
  rw [pS_size, show (⟨#[102, 116, 112, 58, 104, 116, 116, 112, 115, 58, 47, 47, 97, 115]⟩ : ByteArray).size = 14 from rfl] at hz
  unfold prsF
  by_cases h : r ≤ 1009
  · rw [if_pos h, if_neg (by omega), if_neg (by rw [ba_app]; show ¬ Lib.hasPrefix (102 :: _) (104 :: _) = true; simp [Lib.hasPrefix])]
  · rw [if_neg h, if_pos (by omega)]

theorem pnum {w0 : World} (ht : Tab16 w0.heap.size w0) (s : ByteArray) (hs : s.size ≤ 100000) (n : Int) (hn : (prsF s).1 = n) (W : World) (hW : Below w0.heap.size w0 W) :
    Calls Tryd.prog 14 #[.string s] W fun e w' => ∃ h p A m cap, e = .returned (.tuple #[.agg #[.string h, .string p, .slice A m cap], .int .i64 n]) ∧ Below W.heap.size W w' := by
  refine (uparse_any ht s hs W hW).mono ?_
  rintro e w' ⟨q, rfl, ho, hb⟩
  obtain ⟨A, cap, rfl⟩ := slice_ofF ho
  exact ⟨_, _, _, _, _, by rw [hn], hb⟩
theorem mnum {w0 : World} (ht : Tab16 w0.heap.size w0) (h p : ByteArray) (h1 : h.size ≤ 100000) (h2 : p.size ≤ 100000) (b : Bool) (hb : mayU (h, p, []) = b) (W : World) (hW : Below w0.heap.size w0 W) :
    Calls Tryd.prog 7 #[.agg #[.string h, .string p, .slice none 0 0]] W fun e w' => e = .returned (.bool b) ∧ Below W.heap.size W w' := by
  subst hb
  exact umay_any ht (h, p, []) (.slice none 0 0) W hW (RowF.nil _) (Nat.zero_le _) (Nat.zero_le _) h1 h2

set_option maxHeartbeats 400000 in
theorem within11_any (x n : Int) (w : World) (h0 : 1 ≤ n) (h1 : n ≤ 9223372036854775807) (h2 : -9223372036854775808 ≤ x) (h3 : x ≤ 9223372036854775807) :
    Calls Tryd.prog 13 #[.int .i64 x, .int .i64 n] w fun e w' => e = .returned (.int .i64 (x % n)) ∧ w' = w := by
  have l1 := Int.lt_tmod_of_pos x (show 0 < n by omega)
  have l2 := Int.tmod_lt_of_pos x (show 0 < n by omega)
  go_enter Tryd.func13, Tryd.ntmps13
  go_wp2_with fail
  all_goals go_ret
  · exact ⟨ret_int (by rw [tmod_emod x n h0, if_pos (by assumption)]), rfl⟩
  · exact ⟨ret_int (by rw [tmod_emod x n h0, if_neg (by omega)]), rfl⟩

set_option maxRecDepth 100000 in
set_option maxHeartbeats 4000000 in
theorem uriBounds_any (n m : Int) (w : World) (h2 : -9223372036854775808 ≤ n) (h3 : n ≤ 9223372036854775807) (h4 : -9223372036854775808 ≤ m) (h5 : m ≤ 9223372036854775807) (ht : Tab16 w.heap.size w) :
    Calls Tryd.prog 4 #[.int .i64 n, .int .i64 m] w fun e w' => e = .returned (.bool true) ∧ Below w.heap.size w w' := by
  have hk := known11_any w ht
  have hw1 := fun W => within11_any n 20 W (by omega) (by omega) h2 h3
  have hw2 := fun W => within11_any m 8 W (by omega) (by omega) h4 h5
  obtain ⟨k, hk0, hk1, hk2⟩ : ∃ k : Nat, 55 + n % 20 = (k : Int) ∧ 55 ≤ k ∧ k ≤ 74 := ⟨(55 + n % 20).toNat, by omega, by omega, by omega⟩
  obtain ⟨j, hj0, hj1⟩ : ∃ j : Nat, m % 8 = (j : Int) ∧ j ≤ 7 := ⟨(m % 8).toNat, by omega, by omega⟩
  have HT : Hid (Tab16 w.heap.size w) := ht
  rw [show n % 20 = (k : Int) - 55 by omega] at hw1
  rw [hj0] at hw2
  clear hk0 hj0 ht h2 h3 h4 h5
  have hsum : 55 + ((k : Int) - 55) = (k : Int) := by omega
  go_enter Tryd.func4, Tryd.ntmps4
  go_wp2_with fail
  refine hk.mono ?_
  rintro e w1 ⟨rfl, h1⟩
  have HB1 : Hid (Below w.heap.size w w1) := h1
  clear h1 hk
  go_wp2_with (first | (go_at_call_of 13 (Value.int IntKind.i64 20); refine (hw1 _).mono ?_; rintro e w2 ⟨rfl, hw2'⟩; rw [hw2']; clear hw2' w2) | (go_at_call_of 13 (Value.int IntKind.i64 8); refine (hw2 _).mono ?_; rintro e w2 ⟨rfl, hw2'⟩; rw [hw2']; clear hw2' w2))
  go_loopw [7, 8] (fun sv iv wr => ∃ i : Nat, sv = .string (hS i) ∧ iv = .int .i64 (i : Int) ∧ i ≤ k ∧ Below w.heap.size w wr) (fun _ iv _ => k - (intOf iv).toNat)
  case atStart => exact ⟨0, rfl, rfl, Nat.zero_le _, HB1.out⟩
  case round =>
    obtain ⟨i, rfl, rfl, hi, hb⟩ := hrel
    have HB : Hid (Below w.heap.size w wr) := hb
    have hms := hS_size i
    clear hb hw1 hw2
    by_cases hp : i < k
    · have hp' : (i : Int) < (k : Int) := by omega
      have hst := hS_step i
      generalize hS i = acc at *
      have HF : Hid (hS (i + 1) = acc ++ ⟨#[104]⟩) := hst
      clear hst
      go_wp2_with fail
      go_roundw
      case rel => exact ⟨i + 1, by rw [HF.out], by go_num, by omega, HB.out⟩
      case measure => simp [intOf]; omega
    · obtain rfl : i = k := by omega
      have hp' : ¬ (i : Int) < (i : Int) := by omega
      go_wp2_with fail
      go_loopw [9] (fun sv wr => ∃ r : Nat, sv = .string (pS r) ∧ r ≤ 1009 + j ∧ Below w.heap.size w wr) (fun sv _ => 2000 - strLen sv)
      case atStart => exact ⟨0, rfl, Nat.zero_le _, HB.out⟩
      case round =>
        obtain ⟨r, rfl, hr, hb⟩ := hrel
        have HBR : Hid (Below w.heap.size w wr) := hb
        have hps := pS_size r
        clear hb HB HB1
        by_cases hq : r < 1009 + j
        · have hst := pS_step r
          generalize pS r = acc at *
          have hq' : (10 : Int) + (acc.size : Int) < 1020 + (j : Int) := by omega
          have HF : Hid (pS (r + 1) = acc ++ ⟨#[112]⟩) := hst
          have hps2 : (acc ++ ⟨#[112]⟩ : ByteArray).size = acc.size + 1 := by rw [ByteArray.size_append]; rfl
          have HP2 : Hid _ := hps2
          clear hst hps2
          go_wp2_with fail
          go_roundw
          case rel => exact ⟨r + 1, by rw [HF.out], by omega, HBR.out⟩
          case measure =>
            have := HP2.out
            simp only [strLen]; omega
        · obtain rfl : r = 1009 + j := by omega
          have hq' : ¬ (10 : Int) + ((pS (1009 + j)).size : Int) < 1020 + (j : Int) := by omega
          have kE := fun n hn => pnum HT.out (⟨#[104, 116, 116, 112, 115, 58, 47, 47]⟩ ++ hS i ++ ⟨#[47]⟩) (by
            rw [ByteArray.size_append, ByteArray.size_append, hms, show (⟨#[104, 116, 116, 112, 115, 58, 47, 47]⟩ : ByteArray).size = 8 from rfl, size1]; omega) n hn
          have kF := fun n hn => pnum HT.out (⟨#[104, 116, 116, 112, 115, 58, 47, 47, 97, 115]⟩ ++ pS (1009 + j)) (by
            rw [ByteArray.size_append, hps, show (⟨#[104, 116, 116, 112, 115, 58, 47, 47, 97, 115]⟩ : ByteArray).size = 10 from rfl]; omega) n hn
          have kG := fun n hn => pnum HT.out (⟨#[102, 116, 112, 58, 104, 116, 116, 112, 115, 58, 47, 47, 97, 115]⟩ ++ pS (1009 + j)) (by
            rw [ByteArray.size_append, hps, show (⟨#[102, 116, 112, 58, 104, 116, 116, 112, 115, 58, 47, 47, 97, 115]⟩ : ByteArray).size = 14 from rfl]; omega) n hn
          have kM := fun b hb => mnum HT.out ⟨#[97, 115]⟩ (pS (1009 + j)) (by decide) (by omega) b hb
          have kN := fun b hb => mnum HT.out (hS i) ⟨#[47]⟩ (by omega) (by decide) b hb
          have pE := par_host i (by omega) (by omega)
          have pF := par_path (1009 + j)
          have pG := par_ftp (1009 + j)
          have pM := may_path (1009 + j)
          have pN := may_host i (by omega) (by omega)
          have z1 : ¬ 9223372036854775807 < 8 + (hS i).size := by omega
          have z2 : ¬ 9223372036854775807 < 8 + (hS i).size + 1 := by omega
          have z3 : ¬ 9223372036854775807 < 10 + (pS (1009 + j)).size := by omega
          have z4 : ¬ 9223372036854775807 < 14 + (pS (1009 + j)).size := by omega
          generalize hS i = host at *
          generalize pS (1009 + j) = path at *
          by_cases hi64 : i ≤ 64
          · have hi64' : (i : Int) ≤ 64 := by omega
            rw [if_pos hi64] at pE
            rw [decide_eq_true hi64] at pN
            have kE' := kE 0 pE
            have kN' := kN true pN
            clear kE kN pE pN
            by_cases hj : 1009 + j ≤ 1013
            · have hl : ¬ 1020 + (j : Int) > 1024 := by omega
              rw [if_pos hj] at pF
              rw [decide_eq_true hj] at pM
              have kF' := kF 0 pF
              have kM' := kM true pM
              clear kF kM pF pM
              by_cases hg : 1009 + j ≤ 1009
              · have hl2 : ¬ 1024 + (j : Int) > 1024 := by omega
                rw [if_pos hg] at pG
                have kG' := kG 3 pG
                clear kG pG hg hj
                skip
                go_wp2_with fail
                refine (kE' _ HBR.out).mono ?_
                rintro e w2 ⟨x2, y2, A2, n2, c2, rfl, hb2⟩
                have HB2 : Hid (Below w.heap.size w w2) := HBR.out.trans (hb2.mono HBR.out.size)
                clear hb2 kE'
                go_wp2_with fail
                have hb3 := HB2.out.alloc HB2.out.size (.cells #[.string x2, .string y2, .slice A2 n2 c2] 24)
                generalize w2.alloc (.cells #[.string x2, .string y2, .slice A2 n2 c2] 24) = w3 at *
                refine (kF' _ hb3).mono ?_
                rintro e w4 ⟨x4, y4, A4, n4, c4, rfl, hb4⟩
                have HB4 : Hid (Below w.heap.size w w4) := hb3.trans (hb4.mono hb3.size)
                clear hb4 hb3 kF'
                go_wp2_with fail
                have hb5 := HB4.out.alloc HB4.out.size (.cells #[.string x4, .string y4, .slice A4 n4 c4] 24)
                generalize w4.alloc (.cells #[.string x4, .string y4, .slice A4 n4 c4] 24) = w5 at *
                refine (kG' _ hb5).mono ?_
                rintro e w6 ⟨x6, y6, A6, n6, c6, rfl, hb6⟩
                have HB6 : Hid (Below w.heap.size w w6) := hb5.trans (hb6.mono hb5.size)
                clear hb6 hb5 kG'
                go_wp2_with fail
                have hb7 := HB6.out.alloc HB6.out.size (.cells #[.string x6, .string y6, .slice A6 n6 c6] 24)
                generalize w6.alloc (.cells #[.string x6, .string y6, .slice A6 n6 c6] 24) = w7 at *
                refine (kM' _ hb7).mono ?_
                rintro e w8 ⟨rfl, hb8⟩
                have hb9 := hb7.trans (hb8.mono hb7.size)
                clear hb8 hb7 kM'
                go_wp2_with fail
                refine (kN' _ hb9).mono ?_
                rintro e w10 ⟨rfl, hb10⟩
                have HB10 : Hid (Below w.heap.size w w10) := hb9.trans (hb10.mono hb9.size)
                clear hb10 hb9 kN'
                go_wp2_with fail
                go_ret
                first | exact ⟨rfl, HB10.out⟩ | exact ⟨ret_bool (by simp; omega), HB10.out⟩
              · have hl2 : 1024 + (j : Int) > 1024 := by omega
                rw [if_neg hg] at pG
                have kG' := kG 4 pG
                clear kG pG hg hj
                skip
                go_wp2_with fail
                refine (kE' _ HBR.out).mono ?_
                rintro e w2 ⟨x2, y2, A2, n2, c2, rfl, hb2⟩
                have HB2 : Hid (Below w.heap.size w w2) := HBR.out.trans (hb2.mono HBR.out.size)
                clear hb2 kE'
                go_wp2_with fail
                have hb3 := HB2.out.alloc HB2.out.size (.cells #[.string x2, .string y2, .slice A2 n2 c2] 24)
                generalize w2.alloc (.cells #[.string x2, .string y2, .slice A2 n2 c2] 24) = w3 at *
                refine (kF' _ hb3).mono ?_
                rintro e w4 ⟨x4, y4, A4, n4, c4, rfl, hb4⟩
                have HB4 : Hid (Below w.heap.size w w4) := hb3.trans (hb4.mono hb3.size)
                clear hb4 hb3 kF'
                go_wp2_with fail
                have hb5 := HB4.out.alloc HB4.out.size (.cells #[.string x4, .string y4, .slice A4 n4 c4] 24)
                generalize w4.alloc (.cells #[.string x4, .string y4, .slice A4 n4 c4] 24) = w5 at *
                refine (kG' _ hb5).mono ?_
                rintro e w6 ⟨x6, y6, A6, n6, c6, rfl, hb6⟩
                have HB6 : Hid (Below w.heap.size w w6) := hb5.trans (hb6.mono hb5.size)
                clear hb6 hb5 kG'
                go_wp2_with fail
                have hb7 := HB6.out.alloc HB6.out.size (.cells #[.string x6, .string y6, .slice A6 n6 c6] 24)
                generalize w6.alloc (.cells #[.string x6, .string y6, .slice A6 n6 c6] 24) = w7 at *
                refine (kM' _ hb7).mono ?_
                rintro e w8 ⟨rfl, hb8⟩
                have hb9 := hb7.trans (hb8.mono hb7.size)
                clear hb8 hb7 kM'
                go_wp2_with fail
                refine (kN' _ hb9).mono ?_
                rintro e w10 ⟨rfl, hb10⟩
                have HB10 : Hid (Below w.heap.size w w10) := hb9.trans (hb10.mono hb9.size)
                clear hb10 hb9 kN'
                go_wp2_with fail
                go_ret
                first | exact ⟨rfl, HB10.out⟩ | exact ⟨ret_bool (by simp; omega), HB10.out⟩
            · have hl : 1020 + (j : Int) > 1024 := by omega
              rw [if_neg hj] at pF
              rw [decide_eq_false hj] at pM
              rw [if_neg (show ¬ 1009 + j ≤ 1009 by omega)] at pG
              have kF' := kF 4 pF
              have kM' := kM false pM
              have kG' := kG 4 pG
              clear kF kM pF pM kG pG hj
              · have hl2 : 1024 + (j : Int) > 1024 := by omega
                skip
                go_wp2_with fail
                refine (kE' _ HBR.out).mono ?_
                rintro e w2 ⟨x2, y2, A2, n2, c2, rfl, hb2⟩
                have HB2 : Hid (Below w.heap.size w w2) := HBR.out.trans (hb2.mono HBR.out.size)
                clear hb2 kE'
                go_wp2_with fail
                have hb3 := HB2.out.alloc HB2.out.size (.cells #[.string x2, .string y2, .slice A2 n2 c2] 24)
                generalize w2.alloc (.cells #[.string x2, .string y2, .slice A2 n2 c2] 24) = w3 at *
                refine (kF' _ hb3).mono ?_
                rintro e w4 ⟨x4, y4, A4, n4, c4, rfl, hb4⟩
                have HB4 : Hid (Below w.heap.size w w4) := hb3.trans (hb4.mono hb3.size)
                clear hb4 hb3 kF'
                go_wp2_with fail
                have hb5 := HB4.out.alloc HB4.out.size (.cells #[.string x4, .string y4, .slice A4 n4 c4] 24)
                generalize w4.alloc (.cells #[.string x4, .string y4, .slice A4 n4 c4] 24) = w5 at *
                refine (kG' _ hb5).mono ?_
                rintro e w6 ⟨x6, y6, A6, n6, c6, rfl, hb6⟩
                have HB6 : Hid (Below w.heap.size w w6) := hb5.trans (hb6.mono hb5.size)
                clear hb6 hb5 kG'
                go_wp2_with fail
                have hb7 := HB6.out.alloc HB6.out.size (.cells #[.string x6, .string y6, .slice A6 n6 c6] 24)
                generalize w6.alloc (.cells #[.string x6, .string y6, .slice A6 n6 c6] 24) = w7 at *
                refine (kM' _ hb7).mono ?_
                rintro e w8 ⟨rfl, hb8⟩
                have hb9 := hb7.trans (hb8.mono hb7.size)
                clear hb8 hb7 kM'
                go_wp2_with fail
                refine (kN' _ hb9).mono ?_
                rintro e w10 ⟨rfl, hb10⟩
                have HB10 : Hid (Below w.heap.size w w10) := hb9.trans (hb10.mono hb9.size)
                clear hb10 hb9 kN'
                go_wp2_with fail
                go_ret
                first | exact ⟨rfl, HB10.out⟩ | exact ⟨ret_bool (by simp; omega), HB10.out⟩
          · have hi64' : ¬ (i : Int) ≤ 64 := by omega
            rw [if_neg hi64] at pE
            rw [decide_eq_false hi64] at pN
            have kE' := kE 3 pE
            have kN' := kN false pN
            clear kE kN pE pN
            by_cases hj : 1009 + j ≤ 1013
            · have hl : ¬ 1020 + (j : Int) > 1024 := by omega
              rw [if_pos hj] at pF
              rw [decide_eq_true hj] at pM
              have kF' := kF 0 pF
              have kM' := kM true pM
              clear kF kM pF pM
              by_cases hg : 1009 + j ≤ 1009
              · have hl2 : ¬ 1024 + (j : Int) > 1024 := by omega
                rw [if_pos hg] at pG
                have kG' := kG 3 pG
                clear kG pG hg hj
                skip
                go_wp2_with fail
                refine (kE' _ HBR.out).mono ?_
                rintro e w2 ⟨x2, y2, A2, n2, c2, rfl, hb2⟩
                have HB2 : Hid (Below w.heap.size w w2) := HBR.out.trans (hb2.mono HBR.out.size)
                clear hb2 kE'
                go_wp2_with fail
                have hb3 := HB2.out.alloc HB2.out.size (.cells #[.string x2, .string y2, .slice A2 n2 c2] 24)
                generalize w2.alloc (.cells #[.string x2, .string y2, .slice A2 n2 c2] 24) = w3 at *
                refine (kF' _ hb3).mono ?_
                rintro e w4 ⟨x4, y4, A4, n4, c4, rfl, hb4⟩
                have HB4 : Hid (Below w.heap.size w w4) := hb3.trans (hb4.mono hb3.size)
                clear hb4 hb3 kF'
                go_wp2_with fail
                have hb5 := HB4.out.alloc HB4.out.size (.cells #[.string x4, .string y4, .slice A4 n4 c4] 24)
                generalize w4.alloc (.cells #[.string x4, .string y4, .slice A4 n4 c4] 24) = w5 at *
                refine (kG' _ hb5).mono ?_
                rintro e w6 ⟨x6, y6, A6, n6, c6, rfl, hb6⟩
                have HB6 : Hid (Below w.heap.size w w6) := hb5.trans (hb6.mono hb5.size)
                clear hb6 hb5 kG'
                go_wp2_with fail
                have hb7 := HB6.out.alloc HB6.out.size (.cells #[.string x6, .string y6, .slice A6 n6 c6] 24)
                generalize w6.alloc (.cells #[.string x6, .string y6, .slice A6 n6 c6] 24) = w7 at *
                refine (kM' _ hb7).mono ?_
                rintro e w8 ⟨rfl, hb8⟩
                have hb9 := hb7.trans (hb8.mono hb7.size)
                clear hb8 hb7 kM'
                go_wp2_with fail
                refine (kN' _ hb9).mono ?_
                rintro e w10 ⟨rfl, hb10⟩
                have HB10 : Hid (Below w.heap.size w w10) := hb9.trans (hb10.mono hb9.size)
                clear hb10 hb9 kN'
                go_wp2_with fail
                go_ret
                first | exact ⟨rfl, HB10.out⟩ | exact ⟨ret_bool (by simp; omega), HB10.out⟩
              · have hl2 : 1024 + (j : Int) > 1024 := by omega
                rw [if_neg hg] at pG
                have kG' := kG 4 pG
                clear kG pG hg hj
                skip
                go_wp2_with fail
                refine (kE' _ HBR.out).mono ?_
                rintro e w2 ⟨x2, y2, A2, n2, c2, rfl, hb2⟩
                have HB2 : Hid (Below w.heap.size w w2) := HBR.out.trans (hb2.mono HBR.out.size)
                clear hb2 kE'
                go_wp2_with fail
                have hb3 := HB2.out.alloc HB2.out.size (.cells #[.string x2, .string y2, .slice A2 n2 c2] 24)
                generalize w2.alloc (.cells #[.string x2, .string y2, .slice A2 n2 c2] 24) = w3 at *
                refine (kF' _ hb3).mono ?_
                rintro e w4 ⟨x4, y4, A4, n4, c4, rfl, hb4⟩
                have HB4 : Hid (Below w.heap.size w w4) := hb3.trans (hb4.mono hb3.size)
                clear hb4 hb3 kF'
                go_wp2_with fail
                have hb5 := HB4.out.alloc HB4.out.size (.cells #[.string x4, .string y4, .slice A4 n4 c4] 24)
                generalize w4.alloc (.cells #[.string x4, .string y4, .slice A4 n4 c4] 24) = w5 at *
                refine (kG' _ hb5).mono ?_
                rintro e w6 ⟨x6, y6, A6, n6, c6, rfl, hb6⟩
                have HB6 : Hid (Below w.heap.size w w6) := hb5.trans (hb6.mono hb5.size)
                clear hb6 hb5 kG'
                go_wp2_with fail
                have hb7 := HB6.out.alloc HB6.out.size (.cells #[.string x6, .string y6, .slice A6 n6 c6] 24)
                generalize w6.alloc (.cells #[.string x6, .string y6, .slice A6 n6 c6] 24) = w7 at *
                refine (kM' _ hb7).mono ?_
                rintro e w8 ⟨rfl, hb8⟩
                have hb9 := hb7.trans (hb8.mono hb7.size)
                clear hb8 hb7 kM'
                go_wp2_with fail
                refine (kN' _ hb9).mono ?_
                rintro e w10 ⟨rfl, hb10⟩
                have HB10 : Hid (Below w.heap.size w w10) := hb9.trans (hb10.mono hb9.size)
                clear hb10 hb9 kN'
                go_wp2_with fail
                go_ret
                first | exact ⟨rfl, HB10.out⟩ | exact ⟨ret_bool (by simp; omega), HB10.out⟩
            · have hl : 1020 + (j : Int) > 1024 := by omega
              rw [if_neg hj] at pF
              rw [decide_eq_false hj] at pM
              rw [if_neg (show ¬ 1009 + j ≤ 1009 by omega)] at pG
              have kF' := kF 4 pF
              have kM' := kM false pM
              have kG' := kG 4 pG
              clear kF kM pF pM kG pG hj
              · have hl2 : 1024 + (j : Int) > 1024 := by omega
                skip
                go_wp2_with fail
                refine (kE' _ HBR.out).mono ?_
                rintro e w2 ⟨x2, y2, A2, n2, c2, rfl, hb2⟩
                have HB2 : Hid (Below w.heap.size w w2) := HBR.out.trans (hb2.mono HBR.out.size)
                clear hb2 kE'
                go_wp2_with fail
                have hb3 := HB2.out.alloc HB2.out.size (.cells #[.string x2, .string y2, .slice A2 n2 c2] 24)
                generalize w2.alloc (.cells #[.string x2, .string y2, .slice A2 n2 c2] 24) = w3 at *
                refine (kF' _ hb3).mono ?_
                rintro e w4 ⟨x4, y4, A4, n4, c4, rfl, hb4⟩
                have HB4 : Hid (Below w.heap.size w w4) := hb3.trans (hb4.mono hb3.size)
                clear hb4 hb3 kF'
                go_wp2_with fail
                have hb5 := HB4.out.alloc HB4.out.size (.cells #[.string x4, .string y4, .slice A4 n4 c4] 24)
                generalize w4.alloc (.cells #[.string x4, .string y4, .slice A4 n4 c4] 24) = w5 at *
                refine (kG' _ hb5).mono ?_
                rintro e w6 ⟨x6, y6, A6, n6, c6, rfl, hb6⟩
                have HB6 : Hid (Below w.heap.size w w6) := hb5.trans (hb6.mono hb5.size)
                clear hb6 hb5 kG'
                go_wp2_with fail
                have hb7 := HB6.out.alloc HB6.out.size (.cells #[.string x6, .string y6, .slice A6 n6 c6] 24)
                generalize w6.alloc (.cells #[.string x6, .string y6, .slice A6 n6 c6] 24) = w7 at *
                refine (kM' _ hb7).mono ?_
                rintro e w8 ⟨rfl, hb8⟩
                have hb9 := hb7.trans (hb8.mono hb7.size)
                clear hb8 hb7 kM'
                go_wp2_with fail
                refine (kN' _ hb9).mono ?_
                rintro e w10 ⟨rfl, hb10⟩
                have HB10 : Hid (Below w.heap.size w w10) := hb9.trans (hb10.mono hb9.size)
                clear hb10 hb9 kN'
                go_wp2_with fail
                go_ret
                first | exact ⟨rfl, HB10.out⟩ | exact ⟨ret_bool (by simp; omega), HB10.out⟩

end Go.Proofs.YtfoeeocejcbmlaaDoor
