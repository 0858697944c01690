import Derived.Test.YtihfhmlgfacoiaaW26
import Derived.Test.YtihfhmlgfacoiaaW13
import Derived.Test.YtihfhmlgfacoiaaA1
import Derived.Deep.RegionHeld3
namespace Go.Proofs.Ytihfhmlgfacoiaa
open Go.RowKit
set_option linter.unusedVariables false
set_option linter.unusedSimpArgs false

/-- A number put where it belongs, once. -/
def InsOf (zs : List Int) (n : Int) (ys : List Int) : Prop :=
  ∃ i, i ≤ zs.length ∧ (∀ j, j < i → zs.getD j 0 < n) ∧ ((i < zs.length ∧ zs.getD i 0 = n ∧ ys = zs) ∨ ((i = zs.length ∨ n < zs.getD i 0) ∧ ys = zs.take i ++ n :: zs.drop i))

/-- A row of numbers, at least one. -/
def RowI (w : World) (g : Nat) (zs : List Int) : Prop := g < w.heap.size ∧ ∀ j, j < zs.length → w.cell? ⟨g, j, none⟩ = some (.int .i64 (zs.getD j 0))

theorem RowI.below {w w' : World} {g : Nat} {zs : List Int} (h : RowI w g zs) (hb : Below w.heap.size w w') : RowI w' g zs := ⟨Nat.lt_of_lt_of_le h.1 hb.size, fun j hj => by rw [hb.cell h.1]; exact h.2 j hj⟩

theorem RowI.src {w : World} {g : Nat} {zs : List Int} (h : RowI w g zs) (a m : Nat) (hm : a + m ≤ zs.length) : SrcAt w 1 (some ⟨g, a, none⟩) m (((zs.drop a).take m).map (Value.int .i64)) := by
  refine .inr ⟨_, rfl, by simp; omega, fun j u hu => ?_, fun u hu => ?_⟩
  · have hj : j < m := by have := (List.getElem?_eq_some_iff.1 hu).1; simp at this; omega
    have ea : (⟨g, a, none⟩ : Addr).add j = ⟨g, a + j, none⟩ := by cases j <;> simp [Addr.add]
    rw [ea, h.2 (a + j) (by omega)]
    simp [List.getElem?_take, hj, List.getElem?_drop] at hu
    obtain ⟨z, hz, rfl⟩ := hu
    simp [List.getD, hz]
  · obtain ⟨z, _, rfl⟩ := List.mem_map.1 hu; rfl

theorem RowI.src_tail {w : World} {g : Nat} {zs : List Int} (h : RowI w g zs) {k cap : Nat} (hk : k ≤ zs.length) (hc : zs.length ≤ cap) :
    SrcAt w 1 (if cap = k then some ⟨g, 0, none⟩ else some ⟨g, k, none⟩) (zs.length - k) (((zs.drop k).take (zs.length - k)).map (Value.int .i64)) := by
  split
  · obtain rfl : k = zs.length := by omega
    exact .inl ⟨by omega, by simp⟩
  · exact h.src k _ (by omega)

theorem keepRow {w a b : World} {g0 : Nat} {zs : List Int} {row : Option Nat} (h : RowI a g0 zs ∧ Below w.heap.size w a) (hg : a.grownBy b row) (hrow : ∀ q, row = some q → w.heap.size ≤ q) (hg0 : g0 < w.heap.size) : RowI b g0 zs ∧ Below w.heap.size w b := by
  have hs := h.2.size
  have hb : ∀ q, q < w.heap.size → b.heap[q]? = a.heap[q]? := fun q hq => hg.block q (by omega) (fun e => by have := hrow q e.symm; omega)
  exact ⟨⟨by have := hg.size; have := h.1.1; omega, fun j hj => by rw [World.cell?_of_block (hb g0 hg0)]; exact h.1.2 j hj⟩, h.2.trans ⟨hg.os, hg.tape, hg.output, hg.size, hb⟩⟩

def InsEnd (w : World) (zs : List Int) (n : Int) (g0 : Nat) (e : Ending) (w' : World) : Prop :=
  ∃ (ys : List Int) (g c : Nat), InsOf zs n ys ∧ e = .returned (.slice (some ⟨g, 0, none⟩) ys.length c) ∧ ys.length ≤ c ∧ c ≤ 9223372036854775807 ∧ Below w.heap.size w w' ∧ (g = g0 ∨ w.heap.size ≤ g) ∧ RowI w' g ys

theorem ins_done {w w8 : World} {zs : List Int} {n : Int} {g0 k m : Nat} {v8 : Value} {P1 P2 : List Value} (hk : k ≤ zs.length) (hm : m = zs.length - k) (hlt : ∀ j, j < k → zs.getD j 0 < n) (hend : k = zs.length ∨ n < zs.getD k 0)
    (h1 : P1 = ((zs.drop 0).take k).map (Value.int .i64)) (h2 : P2 = ((zs.drop k).take (zs.length - k)).map (Value.int .i64)) (hown : w8.ownsRow w.heap.size 3 1 v8 (k + 1 + m) ((P1 ++ [.int .i64 n]) ++ P2)) (hb : Below w.heap.size w w8) :
    InsEnd w zs n g0 (.returned v8) w8 := by
  subst hm
  have hlen : (zs.take k ++ n :: zs.drop k).length = k + 1 + (zs.length - k) := by simp; omega
  have hxs : (P1 ++ [.int .i64 n]) ++ P2 = (zs.take k ++ n :: zs.drop k).map (Value.int .i64) := by
    rw [h1, h2, List.drop_zero, List.take_of_length_le (l := zs.drop k) (by simp)]; simp
  rw [hxs] at hown
  have hcap : ∃ g cap, v8 = .slice (some ⟨g, 0, none⟩) (k + 1 + (zs.length - k)) cap ∧ w.heap.size ≤ g ∧ k + 1 + (zs.length - k) ≤ cap ∧ cap ≤ maxLen := by
    rcases hown.2 with ⟨_, h0⟩ | ⟨g, cap, cur, h3, h4, _, h5, h6, _⟩
    · omega
    · exact ⟨g, cap, h3, h4, h5, h6⟩
  obtain ⟨g, cap, rfl, hg, hc1, hc2⟩ := hcap
  have hg8 := (hown.lt g rfl).2
  refine ⟨zs.take k ++ n :: zs.drop k, g, cap, ⟨k, hk, hlt, .inr ⟨hend, rfl⟩⟩, by rw [hlen], by omega, by unfold maxLen at hc2; omega, hb, .inr hg, hg8, fun j hj => ?_⟩
  rw [hown.cellAt j (by omega)]
  rw [List.getElem?_map, List.getElem?_eq_getElem hj]
  simp only [Option.map_some, List.getD, List.getElem?_eq_getElem hj, Option.getD_some]

set_option maxRecDepth 20000 in
set_option maxHeartbeats 2000000 in
theorem ins_row (zs : List Int) (n : Int) (g0 cap : Nat) (w : World) (hz : 0 < zs.length) (hl : zs.length ≤ 1000) (hcap : zs.length ≤ cap) (hcm : cap ≤ 9223372036854775807) (hrow : RowI w g0 zs) :
    Calls Try.prog 40 #[.slice (some ⟨g0, 0, none⟩) zs.length cap, .int .i64 n] w fun e w' => InsEnd w zs n g0 e w' := by
  obtain ⟨i, hi, hz0, hz1, hz2⟩ := info_get Try.infoInt
  have HR : Hid (RowI w g0 zs) := hrow
  clear hrow
  go_enter Try.func40, Try.ntmps40
  go_wp2_with fail
  go_loopw [5] (fun iv wr => ∃ k : Nat, iv = .int .i64 (k : Int) ∧ k ≤ zs.length ∧ (∀ j, j < k → zs.getD j 0 < n) ∧ w = wr) (fun iv _ => zs.length - (intOf iv).toNat)
  case atStart => exact ⟨0, rfl, by omega, by omega, rfl⟩
  case round =>
    obtain ⟨k, rfl, hk, hlt, rfl⟩ := hrel
    have Hlt : Hid (∀ j, j < k → zs.getD j 0 < n) := hlt
    clear hlt
    by_cases hkl : k < zs.length
    · have hc := HR.out.2 k hkl
      have Hz : Hid (zs.getD k 0 = zs.getD k 0) := rfl
      generalize hz0' : zs.getD k 0 = zk at *
      have HZ : Hid (zs.getD k 0 = zk) := hz0'
      clear hz0' Hz
      by_cases hlz : zk < n
      · go_wp2_with fail
        go_roundw
        case rel => exact ⟨k + 1, by go_num, by omega, fun j hj => by rcases Nat.lt_or_ge j k with h | h; exact Hlt.out j h; rw [show j = k by omega, HZ.out]; exact hlz, trivial⟩
        case measure => simp [intOf]; omega
      · by_cases heq : zk = n
        · have heq' : (zk == n) = true := by simp [heq]
          go_wp2_with fail
          go_ret
          exact ⟨zs, g0, cap, ⟨k, by omega, Hlt.out, .inl ⟨hkl, by rw [HZ.out, heq], rfl⟩⟩, rfl, hcap, hcm, Below.refl _ _, .inl rfl, HR.out⟩
        · have heq' : (zk == n) = false := by simp [heq]
          have hend : Hid (k = zs.length ∨ n < zs.getD k 0) := by show k = zs.length ∨ n < zs.getD k 0; rw [HZ.out]; omega
          obtain ⟨P1, hP1⟩ : ∃ P1 : List Value, P1 = ((zs.drop 0).take k).map (Value.int .i64) := ⟨_, rfl⟩
          obtain ⟨P2, hP2⟩ : ∃ P2 : List Value, P2 = ((zs.drop k).take (zs.length - k)).map (Value.int .i64) := ⟨_, rfl⟩
          have H1 : Hid (P1 = ((zs.drop 0).take k).map (Value.int .i64)) := hP1
          have H2 : Hid (P2 = ((zs.drop k).take (zs.length - k)).map (Value.int .i64)) := hP2
          clear hP1 hP2
          go_wp2_with (at_builtin; refine wpList_append_any _ rfl _ _ 25 rfl w.heap.size 3 i (.int .i64 0) 1 8 Try.underlying25 hi hz0 hz1 hz2 rfl (by decide) (.slice (some ⟨w.heap.size, 0, none⟩) 0 0) 0 [] rfl ?own (some ⟨g0, 0, none⟩) k cap P1 rfl ?src ?c3 ?c4 ?c5 ?_)
          case own => exact ⟨rfl, .inr ⟨w.heap.size, 0, #[], rfl, Nat.le_refl _, heap_alloc_new w _, Nat.le_refl _, Nat.zero_le _, rfl, rfl⟩⟩
          case src => rw [H1.out]; exact (HR.out.below (Below.alloc (Below.refl _ _) (Nat.le_refl _) _)).src 0 k (by omega)
          case c3 => unfold maxLen; omega
          case c4 => omega
          intro v6 w6 hown6 hgrow6 hat6
          have hs6 := hgrow6.size
          simp only [World.heap_size_alloc'] at hs6
          have hb6 : Below w.heap.size w w6 := ⟨hgrow6.os, hgrow6.tape, hgrow6.output, by omega, fun q hq => by rw [hgrow6.block q (by simp; omega) (fun e => by simp [Value.ownBlock] at e; omega), Below.heap_alloc _ _ _ (by omega)]⟩
          have hr6 : RowI w6 g0 zs := HR.out.below hb6
          have o6 : w6.ownsRow w.heap.size 3 1 v6 k P1 := by simpa using hown6
          have O6 : Hid (w6.ownsRow w.heap.size 3 1 v6 k P1) := o6
          have R6 : Hid (RowI w6 g0 zs) := hr6
          clear hown6 hr6 o6
          have hg0 : g0 < w.heap.size := HR.out.1
          go_wp2_with fail
          go_region_held3 (fun w' => RowI w' g0 zs ∧ Below w.heap.size w w')
            (first | exact ⟨R6.out.below (Below.drew (Below.refl _ _)), hb6.drew⟩ | exact ⟨RowI.below (And.left (by assumption)) (Below.alloc (Below.refl _ _) (Nat.le_refl _) _), Below.alloc (And.right (by assumption)) (by simp; omega) _⟩ | exact keepRow (by assumption) hgrow8 (fun q hq => (hown7.lt q hq).1) hg0 | exact keepRow (by assumption) hgrow7 (fun q hq => (O6.out.lt q hq).1) hg0 | assumption)
            (first
              | (refine step_append_any _ (by rfl) _ _ 25 (by rfl) w.heap.size 3 i (.int .i64 0) 1 8 Try.underlying25 hi hz0 hz1 hz2 rfl (by decide) v6 k P1 (by rfl) ((World.ownsRow.drew O6.out).alloc _) (some ⟨w6.heap.size, 0, none⟩) 1 1 [.int .i64 n] (by rfl) (.inr ⟨_, rfl, rfl, World.news_of_block (cs := #[.int .i64 n]) (t := 3) (fr := (0, 0)) (heap_alloc_new w6.drew _), by simp [Value.oneCell']⟩) (by unfold maxLen; omega) (by omega) (by simp; omega) ?_; intro v7 w7 hown7 hgrow7 hat7)
              | (refine step_append_any _ (by rfl) _ _ 25 (by rfl) w.heap.size 3 i (.int .i64 0) 1 8 Try.underlying25 hi hz0 hz1 hz2 rfl (by decide) v7 (k + 1) (P1 ++ [.int .i64 n]) (by rfl) hown7 (if cap = k then some ⟨g0, 0, none⟩ else some ⟨g0, k, none⟩) (zs.length - k) (cap - k) P2 (by rfl) (by rw [H2.out]; exact RowI.src_tail (And.left (by assumption)) (by omega) (by omega)) (by unfold maxLen; omega) (by omega) (Below.size (And.right (by assumption))) ?_; intro v8 w8 hown8 hgrow8 hat8))
          have hfin : RowI w8 g0 zs ∧ Below w.heap.size w w8 := by assumption
          have O8 : Hid (w8.ownsRow w.heap.size 3 1 v8 (k + 1 + (zs.length - k)) ((P1 ++ [.int .i64 n]) ++ P2)) := hown8
          clear hown8 hown7
          go_wp2_with fail
          all_goals go_ret
          all_goals first | exact ins_done (by omega) (by omega) Hlt.out hend.out H1.out H2.out O8.out hfin.2 | exact ins_done (by omega) (by omega) Hlt.out (.inl rfl) H1.out H2.out O8.out hfin.2
    · obtain rfl : k = zs.length := by omega
      have hend : Hid (zs.length = zs.length ∨ n < zs.getD zs.length 0) := .inl rfl
      · · obtain ⟨P1, hP1⟩ : ∃ P1 : List Value, P1 = ((zs.drop 0).take zs.length).map (Value.int .i64) := ⟨_, rfl⟩
          obtain ⟨P2, hP2⟩ : ∃ P2 : List Value, P2 = ((zs.drop zs.length).take (zs.length - zs.length)).map (Value.int .i64) := ⟨_, rfl⟩
          have H1 : Hid (P1 = ((zs.drop 0).take zs.length).map (Value.int .i64)) := hP1
          have H2 : Hid (P2 = ((zs.drop zs.length).take (zs.length - zs.length)).map (Value.int .i64)) := hP2
          clear hP1 hP2
          go_wp2_with (at_builtin; refine wpList_append_any _ rfl _ _ 25 rfl w.heap.size 3 i (.int .i64 0) 1 8 Try.underlying25 hi hz0 hz1 hz2 rfl (by decide) (.slice (some ⟨w.heap.size, 0, none⟩) 0 0) 0 [] rfl ?own (some ⟨g0, 0, none⟩) zs.length cap P1 rfl ?src ?c3 ?c4 ?c5 ?_)
          case own => exact ⟨rfl, .inr ⟨w.heap.size, 0, #[], rfl, Nat.le_refl _, heap_alloc_new w _, Nat.le_refl _, Nat.zero_le _, rfl, rfl⟩⟩
          case src => rw [H1.out]; exact (HR.out.below (Below.alloc (Below.refl _ _) (Nat.le_refl _) _)).src 0 zs.length (by omega)
          case c3 => unfold maxLen; omega
          case c4 => omega
          intro v6 w6 hown6 hgrow6 hat6
          have hs6 := hgrow6.size
          simp only [World.heap_size_alloc'] at hs6
          have hb6 : Below w.heap.size w w6 := ⟨hgrow6.os, hgrow6.tape, hgrow6.output, by omega, fun q hq => by rw [hgrow6.block q (by simp; omega) (fun e => by simp [Value.ownBlock] at e; omega), Below.heap_alloc _ _ _ (by omega)]⟩
          have hr6 : RowI w6 g0 zs := HR.out.below hb6
          have o6 : w6.ownsRow w.heap.size 3 1 v6 zs.length P1 := by simpa using hown6
          have O6 : Hid (w6.ownsRow w.heap.size 3 1 v6 zs.length P1) := o6
          have R6 : Hid (RowI w6 g0 zs) := hr6
          clear hown6 hr6 o6
          have hg0 : g0 < w.heap.size := HR.out.1
          go_wp2_with fail
          go_region_held3 (fun w' => RowI w' g0 zs ∧ Below w.heap.size w w')
            (first | exact ⟨R6.out.below (Below.drew (Below.refl _ _)), hb6.drew⟩ | exact ⟨RowI.below (And.left (by assumption)) (Below.alloc (Below.refl _ _) (Nat.le_refl _) _), Below.alloc (And.right (by assumption)) (by simp; omega) _⟩ | exact keepRow (by assumption) hgrow8 (fun q hq => (hown7.lt q hq).1) hg0 | exact keepRow (by assumption) hgrow7 (fun q hq => (O6.out.lt q hq).1) hg0 | assumption)
            (first
              | (refine step_append_any _ (by rfl) _ _ 25 (by rfl) w.heap.size 3 i (.int .i64 0) 1 8 Try.underlying25 hi hz0 hz1 hz2 rfl (by decide) v6 zs.length P1 (by rfl) ((World.ownsRow.drew O6.out).alloc _) (some ⟨w6.heap.size, 0, none⟩) 1 1 [.int .i64 n] (by rfl) (.inr ⟨_, rfl, rfl, World.news_of_block (cs := #[.int .i64 n]) (t := 3) (fr := (0, 0)) (heap_alloc_new w6.drew _), by simp [Value.oneCell']⟩) (by unfold maxLen; omega) (by omega) (by simp; omega) ?_; intro v7 w7 hown7 hgrow7 hat7)
              | (refine step_append_any _ (by rfl) _ _ 25 (by rfl) w.heap.size 3 i (.int .i64 0) 1 8 Try.underlying25 hi hz0 hz1 hz2 rfl (by decide) v7 (zs.length + 1) (P1 ++ [.int .i64 n]) (by rfl) hown7 (if cap = zs.length then some ⟨g0, 0, none⟩ else some ⟨g0, zs.length, none⟩) (0) (cap - zs.length) P2 (by rfl) (by rw [H2.out]; exact .inl ⟨rfl, by simp⟩) (by unfold maxLen; omega) (by omega) (Below.size (And.right (by assumption))) ?_; intro v8 w8 hown8 hgrow8 hat8))
          have hfin : RowI w8 g0 zs ∧ Below w.heap.size w w8 := by assumption
          have O8 : Hid (w8.ownsRow w.heap.size 3 1 v8 (zs.length + 1 + (0)) ((P1 ++ [.int .i64 n]) ++ P2)) := hown8
          clear hown8 hown7
          go_wp2_with fail
          all_goals go_ret
          all_goals first | exact ins_done (by omega) (by omega) Hlt.out hend.out H1.out H2.out O8.out hfin.2 | exact ins_done (by omega) (by omega) Hlt.out (.inl rfl) H1.out H2.out O8.out hfin.2

theorem keepB {w a b : World} {row : Option Nat} (h : Below w.heap.size w a) (hg : a.grownBy b row) (hrow : ∀ q, row = some q → w.heap.size ≤ q) : Below w.heap.size w b := by
  have hs := h.size
  exact h.trans ⟨hg.os, hg.tape, hg.output, hg.size, fun q hq => hg.block q (by omega) (fun e => by have := hrow q e.symm; omega)⟩

set_option maxRecDepth 20000 in
set_option maxHeartbeats 2000000 in
theorem ins_nil (n : Int) (g0 : Nat) (w : World) :
    Calls Try.prog 40 #[.slice none 0 0, .int .i64 n] w fun e w' => InsEnd w [] n g0 e w' := by
  obtain ⟨i, hi, hz0, hz1, hz2⟩ := info_get Try.infoInt
  go_enter Try.func40, Try.ntmps40
  go_wp2_with fail
  go_loopw [5] (fun iv wr => iv = .int .i64 0 ∧ w = wr) (fun _ _ => 0)
  case atStart => exact ⟨rfl, rfl⟩
  case round =>
    obtain ⟨rfl, rfl⟩ := hrel
    go_wp2_with fail
    have o6 : (w.alloc (.cells #[] 3)).ownsRow w.heap.size 3 1 (.slice (some ⟨w.heap.size, 0, none⟩) 0 0) 0 [] := ⟨rfl, .inr ⟨w.heap.size, 0, #[], rfl, Nat.le_refl _, heap_alloc_new w _, Nat.le_refl _, Nat.zero_le _, rfl, rfl⟩⟩
    have O6 : Hid ((w.alloc (.cells #[] 3)).ownsRow w.heap.size 3 1 (.slice (some ⟨w.heap.size, 0, none⟩) 0 0) 0 []) := o6
    clear o6
    have hb6 : Below w.heap.size w (w.alloc (.cells #[] 3)) := Below.alloc (Below.refl _ _) (Nat.le_refl _) _
    go_region_held3 (fun w' => Below w.heap.size w w')
      (first | exact hb6.drew | exact Below.drew (Below.alloc hb6 (by simp) _) | exact keepB (by assumption) hgrow8 (fun q hq => (hown7.lt q hq).1) | exact keepB (by assumption) hgrow7 (fun q hq => (O6.out.lt q hq).1) | assumption)
      (first
        | (refine step_append_any _ (by rfl) _ _ 25 (by rfl) w.heap.size 3 i (.int .i64 0) 1 8 Try.underlying25 hi hz0 hz1 hz2 rfl (by decide) (.slice (some ⟨w.heap.size, 0, none⟩) 0 0) 0 [] (by rfl) (World.ownsRow.drew (O6.out.alloc _)) (some ⟨w.heap.size + 1, 0, none⟩) 1 1 [.int .i64 n] (by rfl) (.inr ⟨_, rfl, rfl, World.news_of_block (cs := #[.int .i64 n]) (t := 3) (fr := (0, 0)) (by have h := heap_alloc_new (w.alloc (.cells #[] 3)) (.cells #[.int .i64 n] 3); rw [World.heap_size_alloc'] at h; exact h), by simp [Value.oneCell']⟩) (by unfold maxLen; omega) (by omega) (by simp; omega) ?_; intro v7 w7 hown7 hgrow7 hat7)
        | (refine step_append_any _ (by rfl) _ _ 25 (by rfl) w.heap.size 3 i (.int .i64 0) 1 8 Try.underlying25 hi hz0 hz1 hz2 rfl (by decide) v7 (0 + 1) ([] ++ [.int .i64 n]) (by rfl) hown7 none 0 0 [] (by rfl) (.inl ⟨rfl, rfl⟩) (by unfold maxLen; omega) (by omega) (Below.size (by assumption)) ?_; intro v8 w8 hown8 hgrow8 hat8))
    have hfin : Below w.heap.size w w8 := by assumption
    have O8 : Hid (w8.ownsRow w.heap.size 3 1 v8 (0 + 1 + 0) (([] ++ [.int .i64 n]) ++ [])) := hown8
    clear hown8 hown7
    go_wp2_with fail
    all_goals go_ret
    all_goals exact ins_done (zs := []) (k := 0) (m := 0) (P1 := []) (P2 := []) (by omega) (by simp) (by omega) (.inl rfl) rfl rfl O8.out hfin

end Go.Proofs.Ytihfhmlgfacoiaa
