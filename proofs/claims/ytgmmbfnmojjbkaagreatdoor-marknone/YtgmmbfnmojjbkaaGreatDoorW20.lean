import Derived.Test.YtgmmbfnmojjbkaaGreatDoorW6
namespace Go.Proofs.YtgmmbfnmojjbkaaGreatDoor
open Go.RowKit
set_option linter.unusedVariables false
set_option linter.unusedSimpArgs false

theorem emp_list' : ByteArray.empty.toList = [] := by rw [ByteArray.toList_eq]; rfl
theorem tapeStrs_1024 (i : Nat) : ((tapeStrs.getD i ByteArray.empty).size : Int) ≤ 1024 := by
  have := getD_all (fun s : ByteArray => s.size ≤ 9) tapeStrs ByteArray.empty (by decide) (by decide) i
  omega

theorem mayT_of (a : Nd) (l : Fo) (deep c : Int) (h : mayB a (flen l) deep c = true) : mayT a l deep c = mayF l (deep + 1) (c + 1) := by rw [mayT, if_pos h]

theorem mayT_leaf (a : Nd) (deep c : Int) (hf : formedB a.kind a.n a.s 0 = true) (hc : c + 1 ≤ 64) (hd : deep ≤ 16) : mayT a .nil deep c = (true, c + 1) := by
  have : mayB a (flen .nil) deep c = true := by simp [mayB, hc, hd, flen, hf]
  rw [mayT, if_pos this, mayF]

theorem tape_leafA (ns : List Int) (i : Nat) : formedB 1 0 (tapeStrs.getD i ByteArray.empty) 0 = true := by
  have := tapeStrs_1024 i
  simp only [formedB]; simp [kidsOf]; exact this
theorem tape_leafN (i : Nat) : formedB 2 (tapeNums.getD i 0) ByteArray.empty 0 = true := by
  have := tapeNums_small i
  generalize tapeNums.getD i 0 = z at *
  simp only [formedB]; simp only [kidsOf, emp_list']; simp; omega

theorem tape_may (ns : List Int) : ∀ (d k : Nat) (deep c : Int), c + (2 ^ (d + 1) - 1 : Nat) ≤ 64 → deep + d ≤ 16 →
    (mayT (tapeT ns d k).1.1 (tapeT ns d k).1.2 deep c).1 = true ∧ (mayT (tapeT ns d k).1.1 (tapeT ns d k).1.2 deep c).2 ≤ c + (2 ^ (d + 1) - 1 : Nat)
  | 0, k, deep, c, hc, hd => by
    simp at hc
    rw [tapeT]; split
    · rw [mayT_leaf _ _ _ (tape_leafA ns _) (by omega) (by omega)]; simp
    · rw [mayT_leaf _ _ _ (tape_leafN _) (by omega) (by omega)]; simp
  | d + 1, k, deep, c, hc, hd => by
    have h2 : 1 ≤ 2 ^ (d + 1) := Nat.one_le_two_pow
    have e2 : 2 ^ (d + 1 + 1) = 2 * 2 ^ (d + 1) := by rw [Nat.pow_succ]; omega
    have l1 := nextV_lo ns k 10
    have l2 := nextV_hi ns k 10 (by omega)
    rw [tapeT]
    generalize nextV ns k 10 = x at *
    generalize nextK ns k 10 = k1
    by_cases h : x < 2
    · rw [if_pos h, mayT_leaf _ _ _ (tape_leafA ns _) (by omega) (by omega)]; exact ⟨rfl, by simp; omega⟩
    · rw [if_neg h]
      by_cases h5 : x < 5
      · rw [if_pos h5, mayT_leaf _ _ _ (tape_leafN _) (by omega) (by omega)]; exact ⟨rfl, by simp; omega⟩
      · rw [if_neg h5]
        obtain ⟨a1, a2⟩ := tape_may ns d k1 (deep + 1) (c + 1) (by omega) (by omega)
        by_cases h7 : x < 7
        · rw [if_pos h7]
          generalize tapeT ns d k1 = T at *
          obtain ⟨⟨n1, f1⟩, k2⟩ := T
          have hB : mayB ⟨3 + x - 5, 0, ByteArray.empty⟩ (flen (.node 0 0 n1 f1 .nil)) deep c = true := by
            have hk : kidsOf (3 + x - 5) = 1 := by unfold kidsOf; rw [if_neg (by omega), if_pos (by omega)]
            have h1 : ¬ (3 + x - 5 = 1) := by omega
            have h2 : ¬ (3 + x - 5 = 2) := by omega
            simp only [mayB, formedB, flen, hk, emp_list', h1, h2, if_false]
            simp; omega
          simp only at a1 a2
          rw [mayT_of _ _ _ _ hB, mayF_node, if_pos a1, mayF]
          exact ⟨rfl, by simp; omega⟩
        · rw [if_neg h7]
          have hT2 := tape_may ns d (tapeT ns d k1).2
          generalize tapeT ns d k1 = T at *
          obtain ⟨⟨n1, f1⟩, k2⟩ := T
          simp only at a1 a2 hT2
          obtain ⟨b1, b2⟩ := hT2 (deep + 1) (mayT n1 f1 (deep + 1) (c + 1)).2 (by omega) (by omega)
          generalize tapeT ns d k2 = T2 at *
          obtain ⟨⟨n2, f2⟩, k3⟩ := T2
          simp only at b1 b2
          have hB : mayB ⟨5 + x - 7, 0, ByteArray.empty⟩ (flen (.node 0 0 n1 f1 (.node 0 0 n2 f2 .nil))) deep c = true := by
            have hk : kidsOf (5 + x - 7) = 2 := by unfold kidsOf; rw [if_neg (by omega), if_neg (by omega), if_pos (by omega)]
            have h1 : ¬ (5 + x - 7 = 1) := by omega
            have h2 : ¬ (5 + x - 7 = 2) := by omega
            simp only [mayB, formedB, flen, hk, emp_list', h1, h2, if_false]
            simp; omega
          rw [mayT_of _ _ _ _ hB, mayF_node, if_pos a1, mayF_node, if_pos b1, mayF]
          exact ⟨rfl, by simp; omega⟩

theorem one_may (ns : List Int) : may (tapeT ns 4 0).1.1 (tapeT ns 4 0).1.2 = true := (tape_may ns 4 0 1 0 (by decide) (by decide)).1

end Go.Proofs.YtgmmbfnmojjbkaaGreatDoor
