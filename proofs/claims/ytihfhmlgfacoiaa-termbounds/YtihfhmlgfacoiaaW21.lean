import Derived.Test.YtihfhmlgfacoiaaW20
namespace Go.Proofs.Ytihfhmlgfacoiaa
open Go.RowKit
set_option linter.unusedVariables false
set_option linter.unusedSimpArgs false

theorem res4b {w W : World} {T : TypeId} (h : Below (w.alloc (.cells #[.int .i64 0, .int .i64 0, .string ⟨#[]⟩, .slice none 0 0] T)).heap.size (w.alloc (.cells #[.int .i64 0, .int .i64 0, .string ⟨#[]⟩, .slice none 0 0] T)) W) :
    Box4 W w.heap.size (.int .i64 0) (.int .i64 0) (.string ⟨#[]⟩) (.slice none 0 0) ∧ W.frozen? ⟨w.heap.size, 0, none⟩ = false ∧ W.frozen? ⟨w.heap.size, 1, none⟩ = false ∧ W.frozen? ⟨w.heap.size, 2, none⟩ = false ∧ W.frozen? ⟨w.heap.size, 3, none⟩ = false := by
  refine ⟨(Box4.new w _ _ _ _ _).below h, ?_, ?_, ?_, ?_⟩
  all_goals rw [h.frozen (by simp)]; simp [go_sem]

theorem Below.set4 {B q : Nat} {a w : World} (h : Below B a w) (hq : B ≤ q) (u0 u1 u2 u3 : Value) :
    Below B a ((((w.setCell ⟨q, 0, none⟩ u0).setCell ⟨q, 1, none⟩ u1).setCell ⟨q, 2, none⟩ u2).setCell ⟨q, 3, none⟩ u3) :=
  Below.setCell (p := ⟨q, 3, none⟩) (Below.setCell (p := ⟨q, 2, none⟩) (Below.setCell (p := ⟨q, 1, none⟩) (Below.setCell (p := ⟨q, 0, none⟩) h hq _) hq _) hq _) hq _

def fullT : Nat → Nd × Fo
  | 0 => (⟨2, 1, ByteArray.empty⟩, .nil)
  | d + 1 => (⟨7, 0, ByteArray.empty⟩, .node 0 0 (fullT d).1 (fullT d).2 (.node 0 0 (fullT d).1 (fullT d).2 .nil))

/-- j nodes of a kind over a term. -/
def wrapT (k : Int) : Nat → Nd × Fo → Nd × Fo
  | 0, t => t
  | j + 1, t => (⟨k, 0, ByteArray.empty⟩, .node 0 0 (wrapT k j t).1 (wrapT k j t).2 .nil)

theorem mayB_one (k : Int) (hk : k = 3 ∨ k = 4) (a : Nd) (l : Fo) (deep c : Int) : mayB ⟨k, 0, ByteArray.empty⟩ (flen (.node 0 0 a l .nil)) deep c = (decide (c + 1 ≤ 64) && decide (deep ≤ 16)) := by
  rcases hk with rfl | rfl <;> simp [mayB, formedB, kidsOf, flen, emp_list']

theorem wrap_may (k : Int) (hk : k = 3 ∨ k = 4) (t : Nd × Fo) : ∀ (j : Nat) (deep c : Int), (mayT (wrapT k j t).1 (wrapT k j t).2 deep c).1 = (decide (j = 0 ∨ (c + j ≤ 64 ∧ deep + j ≤ 17)) && (mayT t.1 t.2 (deep + j) (c + j)).1)
  | 0, deep, c => by simp [wrapT]
  | j + 1, deep, c => by
    have ih := wrap_may k hk t j (deep + 1) (c + 1)
    rw [wrapT, mayT, mayB_one k hk]
    have e1 : deep + 1 + (j : Int) = deep + ((j + 1 : Nat) : Int) := by omega
    have e2 : c + 1 + (j : Int) = c + ((j + 1 : Nat) : Int) := by omega
    rw [e1, e2] at ih
    by_cases h : c + 1 ≤ 64 ∧ deep ≤ 16
    · rw [if_pos (by simp [h])]
      rw [mayF_node]
      have hx : (if (mayT (wrapT k j t).1 (wrapT k j t).2 (deep + 1) (c + 1)).1 = true then mayF Deep.BT.nil (deep + 1) (mayT (wrapT k j t).1 (wrapT k j t).2 (deep + 1) (c + 1)).2 else (false, (mayT (wrapT k j t).1 (wrapT k j t).2 (deep + 1) (c + 1)).2)).1 = (mayT (wrapT k j t).1 (wrapT k j t).2 (deep + 1) (c + 1)).1 := by
        split
        · rename_i h'; rw [mayF, h']
        · rename_i h'; simp at h'; rw [h']
      rw [hx, ih]
      congr 1
      by_cases hj : j = 0
      · subst hj
        have : deep ≤ 16 := h.2
        have : c + 1 ≤ 64 := h.1
        rw [decide_eq_true (by omega), decide_eq_true (by omega)]
      · exact decide_eq_decide.2 (by omega)
    · rw [if_neg (by simp; omega)]
      have : ¬ (j + 1 = 0 ∨ (c + ((j + 1 : Nat) : Int) ≤ 64 ∧ deep + ((j + 1 : Nat) : Int) ≤ 17)) := by omega
      rw [decide_eq_false this]; rfl

theorem full_size : ∀ d, 1 + sizeF (fullT d).2 = 2 ^ (d + 1) - 1
  | 0 => rfl
  | d + 1 => by
    have := full_size d
    have h2 : 1 ≤ 2 ^ (d + 1) := Nat.one_le_two_pow
    rw [fullT]; simp only [sizeF]
    rw [Nat.pow_succ 2 (d + 1)]; omega

theorem full_may : ∀ (d : Nat) (deep c : Int), c + (2 ^ (d + 1) - 1 : Nat) ≤ 64 → deep + d ≤ 16 → mayT (fullT d).1 (fullT d).2 deep c = (true, c + (2 ^ (d + 1) - 1 : Nat))
  | 0, deep, c, hc, hd => by
    simp at hc hd
    rw [fullT, mayT_leaf _ _ _ (by simp [formedB, kidsOf, emp_list']) (by omega) (by omega)]; simp
  | d + 1, deep, c, hc, hd => by
    have h2 : 1 ≤ 2 ^ (d + 1) := Nat.one_le_two_pow
    have e2 : 2 ^ (d + 1 + 1) = 2 * 2 ^ (d + 1) := by rw [Nat.pow_succ]; omega
    have a1 := full_may d (deep + 1) (c + 1) (by omega) (by omega)
    have a2 := full_may d (deep + 1) (c + 1 + (2 ^ (d + 1) - 1 : Nat)) (by omega) (by omega)
    have hB : mayB ⟨7, 0, ByteArray.empty⟩ (flen (.node 0 0 (fullT d).1 (fullT d).2 (.node 0 0 (fullT d).1 (fullT d).2 .nil))) deep c = true := by
      simp [mayB, formedB, kidsOf, flen, emp_list']; omega
    rw [fullT, mayT_of _ _ _ _ hB, mayF_node, a1]
    simp only [if_true]
    rw [mayF_node, a2]
    simp only [if_true, mayF]
    exact Prod.ext rfl (by simp; omega)

theorem full_not (d : Nat) (deep c : Int) (h : 64 < c + (2 ^ (d + 1) - 1 : Nat)) (hc : c ≤ 64) : (mayT (fullT d).1 (fullT d).2 deep c).1 = false := by
  cases hm : (mayT (fullT d).1 (fullT d).2 deep c).1
  · rfl
  · have h1 := mayT_le _ _ _ _ hc hm
    rw [mayT_node _ _ _ _ 0 0] at hm h1
    rw [mayF_size _ _ _ hm] at h1
    have h2 := full_size d
    simp only [sizeF] at h1
    omega

set_option maxHeartbeats 2000000 in
theorem full_any : ∀ (d : Nat) (di : Int) (hdi : di = (d : Int)) (hd : d ≤ 100) (w : World),
    Calls Try.prog 30 #[.int .i64 di] w fun e w' => ∃ u, e = .returned u ∧ Below w.heap.size w w' ∧ RepVG w' (fun b => w.heap.size ≤ b ∧ b < w'.heap.size) (fullT d).1 (fullT d).2 u
  | 0, di, hdi, hd, w => by
    subst hdi
    go_enter Try.func30, Try.ntmps30
    go_wp2_with fail
    refine (refN_any _ _).mono ?_
    rintro e w1 ⟨rfl, ho1⟩
    have hO : Only (w.heap.size + 1) (w.alloc (.cells #[.int .i64 0, .int .i64 0, .string ⟨#[]⟩, .slice none 0 0] 24)) w1 := (Only.refl _ _).below ho1
    obtain ⟨⟨y0, y1, y2, y3, y4⟩, f0, f1, f2, f3⟩ := res4b ho1
    go_wp2_with fail
    refine bodyPost_ret (v := .agg #[.int .i64 2, .int .i64 1, .string ByteArray.empty, .slice none 0 0]) (by simp [results, Try.results30, go_sem, y1, y2, y3, y4]) rfl ⟨_, rfl, ?_, ?_⟩
    · exact Below.set4 (Below.trans (Below.alloc (Below.refl _ _) (Nat.le_refl _) _) (ho1.mono (by simp))) (Nat.le_refl _) _ _ _ _
    · exact ⟨⟨by simp [fullT], by simp [fullT], by simp [fullT], by simp [fullT], empty_small⟩, none, 0, 0, 0, rfl, Nat.zero_le _, .inl rfl, trivial⟩
  | d + 1, di, hdi, hd, w => by
    subst hdi
    have hne : (((d + 1 : Nat) : Int) == 0) = false := beq_eq_false_iff_ne.2 (by omega)
    go_enter Try.func30, Try.ntmps30
    go_wp2_with fail
    refine (full_any d _ (by omega) (by omega) _).mono ?_
    generalize hT0 : fullT d = T
    have hT : Hid (fullT d = T) := hT0
    clear hT0
    have ih : ∀ w, Calls Try.prog 30 #[.int .i64 (d : Int)] w fun e w' => ∃ u, e = .returned u ∧ Below w.heap.size w w' ∧ RepVG w' (fun b => w.heap.size ≤ b ∧ b < w'.heap.size) T.1 T.2 u := fun w => by
      have := full_any d _ rfl (by omega) w
      rwa [hT.out] at this
    obtain ⟨a1, l1⟩ := T
    rintro e w2 ⟨v, rfl, ho2, hfa, A1, cap1, b1, o1, rfl, hn1, hA1, hl1⟩
    have HA1 : Hid (flen l1 = 0 ∨ A1 = some ⟨b1, o1, none⟩) := hA1
    clear hA1
    have hsz2 := ho2.size
    simp only [World.heap_size_alloc'] at hsz2
    have e1 : IntKind.i64.wrap (((d + 1 : Nat) : Int) - 1) = (d : Int) := by rw [wrap_in _ (by omega) (by omega)]; omega
    go_wp2_with fail
    refine (ih _).mono ?_
    rintro e w3 ⟨v, rfl, ho3, hfb, A2, cap2, b2, o2, rfl, hn2, hA2, hl2⟩
    have HA2 : Hid (flen l1 = 0 ∨ A2 = some ⟨b2, o2, none⟩) := hA2
    clear hA2
    have hsz3 := ho3.size
    go_wp2_with fail
    refine (refT_any _ _ _ _ _).mono ?_
    rintro e w4 ⟨rfl, ho4⟩
    have hs4 := ho4.size
    simp only [World.heap_size_alloc'] at hs4
    have hO : Below (w.heap.size + 1) (w.alloc (.cells #[.int .i64 0, .int .i64 0, .string ⟨#[]⟩, .slice none 0 0] 24)) w4 := by
      have h2 : Below (w.heap.size + 1) (w.alloc (.cells #[.int .i64 0, .int .i64 0, .string ⟨#[]⟩, .slice none 0 0] 24)) w2 := ho2.mono (by simp)
      exact (Below.alloc (h2.trans (ho3.mono (by omega))) (by omega) _).trans (ho4.mono (by simp; omega))
    obtain ⟨⟨y0, y1, y2, y3, y4⟩, f0, f1, f2, f3⟩ := res4b (hO.mono (by simp))
    go_wp2_with fail
    refine bodyPost_ret (v := .agg #[.int .i64 7, .int .i64 0, .string ByteArray.empty, .slice (some ⟨w3.heap.size, 0, none⟩) 2 2]) (by simp [results, Try.results30, go_sem, y1, y2, y3, y4]) rfl ⟨_, rfl, ?_, ?_⟩
    · exact Below.set4 (Below.trans (Below.alloc (Below.refl _ _) (Nat.le_refl _) _) (hO.mono (by omega))) (Nat.le_refl _) _ _ _ _
    · rw [fullT, hT.out]
      refine ⟨fit_kind _ (by omega), some ⟨w3.heap.size, 0, none⟩, 2, w3.heap.size, 0, rfl, by simp [flen], .inr rfl, ?_⟩
      have hc : ∀ o, ((((w4.setCell ⟨w.heap.size, 0, none⟩ (.int .i64 7)).setCell ⟨w.heap.size, 1, none⟩ (.int .i64 0)).setCell ⟨w.heap.size, 2, none⟩ (.string ByteArray.empty)).setCell ⟨w.heap.size, 3, none⟩
          (.slice (some ⟨w3.heap.size, 0, none⟩) 2 2)).cell? ⟨w3.heap.size, o, none⟩ = (#[Value.int .i64 a1.kind, .int .i64 a1.n, .string a1.s, .slice A1 (flen l1) cap1, .int .i64 a1.kind, .int .i64 a1.n, .string a1.s, .slice A2 (flen l1) cap2] : Array Value)[o]? := fun o => by
        rw [cell_set4 _ _ _ _ _ _ _ _ (by omega), ho4.cell (by simp)]; simp [go_sem]
      refine ⟨⟨by omega, by rw [size_set4]; omega⟩, hfa, by rw [hc]; rfl, by rw [hc]; rfl, by rw [hc]; rfl, ⟨A1, cap1, b1, o1, by rw [hc]; rfl, hn1, HA1.out, ?_⟩,
        ⟨⟨by omega, by rw [size_set4]; omega⟩, hfb, by rw [hc]; rfl, by rw [hc]; rfl, by rw [hc]; rfl, ⟨A2, cap2, b2, o2, by rw [hc]; rfl, hn2, HA2.out, ?_⟩, trivial⟩⟩
      · refine RepG.keep (fun b hb => ⟨by simp at hb; omega, by rw [size_set4]; omega⟩) (fun b o hb => ?_) hl1
        simp at hb
        rw [cell_set4 _ _ _ _ _ _ _ _ (by omega), ho4.cell (by simp; omega), World.cell?_alloc_past _ _ _ (by omega), ho3.cell (by simp; omega)]
      · refine RepG.keep (fun b hb => ⟨by omega, by rw [size_set4]; omega⟩) (fun b o hb => ?_) hl2
        rw [cell_set4 _ _ _ _ _ _ _ _ (by omega), ho4.cell (by simp; omega), World.cell?_alloc_past _ _ _ (by omega)]

end Go.Proofs.Ytihfhmlgfacoiaa
