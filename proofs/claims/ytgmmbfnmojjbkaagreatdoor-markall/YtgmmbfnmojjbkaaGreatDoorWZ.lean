import Derived.Test.YtgmmbfnmojjbkaaGreatDoorWY
import Derived.Test.YtgmmbfnmojjbkaaGreatDoorW25
import Derived.Test.YtgmmbfnmojjbkaaGreatDoorA1
import Derived.Deep.RegionHeld3
import Derived.Test.YtgmmbfnmojjbkaaGreatDoorW14
namespace Go.Proofs.YtgmmbfnmojjbkaaGreatDoor
open Go.RowKit
set_option linter.unusedVariables false
set_option linter.unusedSimpArgs false

/-- A row of terms in block g. -/
def RowT (w : World) (g : Nat) (ks : List Kd) : Prop :=
  g < w.heap.size ∧ (∀ t, t < 4 * ks.length → w.cell? ⟨g, t, none⟩ = (rowOf ks)[t]?) ∧ ∀ k ∈ ks, k.Ok w (fun b => b < w.heap.size) ∧ k.Ar

theorem Kd.Ok.below {w w' : World} {k : Kd} (h : k.Ok w (fun b => b < w.heap.size)) (hb : Below w.heap.size w w') : k.Ok w' (fun b => b < w'.heap.size) :=
  h.keep (fun b hb' => Nat.lt_of_lt_of_le hb' hb.size) (fun b o hb' => hb.cell hb')

theorem RowT.below {w w' : World} {g : Nat} {ks : List Kd} (h : RowT w g ks) (hb : Below w.heap.size w w') : RowT w' g ks :=
  ⟨Nat.lt_of_lt_of_le h.1 hb.size, fun t ht => by rw [hb.cell h.1]; exact h.2.1 t ht, fun k hk => ⟨(h.2.2 k hk).1.below hb, (h.2.2 k hk).2⟩⟩

theorem RowAt.toT {w : World} {g : Nat} {ks : List Kd} (h : RowAt w g ks) : RowT w g ks :=
  ⟨h.1, fun t ht => (h.2.1 t ht).1, fun k hk => ⟨(h.2.2 k hk).1.keep (fun b hb => hb.1) (fun _ _ _ => rfl), (h.2.2 k hk).2⟩⟩

theorem RowT.at {w : World} {g : Nat} {ks : List Kd} (h : RowT w g ks) (m : Nat) (hm : m < ks.length) :
    w.cell? ⟨g, m * 4, none⟩ = some (.int .i64 (ks.getD m kd0).a.kind) ∧ w.cell? ⟨g, m * 4 + 1, none⟩ = some (.int .i64 (ks.getD m kd0).a.n) ∧ w.cell? ⟨g, m * 4 + 2, none⟩ = some (.string (ks.getD m kd0).a.s) ∧
      w.cell? ⟨g, m * 4 + 3, none⟩ = some (.slice (ks.getD m kd0).A (flen (ks.getD m kd0).l) (ks.getD m kd0).cap) := by
  have c : ∀ j, j < 4 → w.cell? ⟨g, m * 4 + j, none⟩ = (ks.getD m kd0).cells[j]? := fun j hj => by
    rw [h.2.1 (m * 4 + j) (by omega), rowOf_get, show (m * 4 + j) / 4 = m from by omega, show (m * 4 + j) % 4 = j from by omega]
    simp [List.getD, List.getElem?_eq_getElem hm]
  exact ⟨c 0 (by omega), c 1 (by omega), c 2 (by omega), c 3 (by omega)⟩

theorem RowT.ok {w : World} {g : Nat} {ks : List Kd} (h : RowT w g ks) (m : Nat) (hm : m < ks.length) : (ks.getD m kd0).Ok w (fun b => b < w.heap.size) ∧ (ks.getD m kd0).Ar :=
  h.2.2 _ (by simp [List.getD, List.getElem?_eq_getElem hm])

/-- A term as a value. -/
abbrev Kd.val (k : Kd) : Value := .agg #[.int .i64 k.a.kind, .int .i64 k.a.n, .string k.a.s, .slice k.A (flen k.l) k.cap]

theorem Kd.rep {w : World} {k : Kd} (h : k.Ok w (fun b => b < w.heap.size)) : RepV w w.heap.size k.a k.l k.val :=
  ⟨h.1, k.A, k.cap, k.b, k.o, rfl, h.2.1, h.2.2.1, RepG.toF (fun _ h => h) h.2.2.2⟩

theorem refLessK {w : World} {j k : Kd} (hj : j.Ok w (fun b => b < w.heap.size) ∧ j.Ar) (hk : k.Ok w (fun b => b < w.heap.size) ∧ k.Ar) :
    Calls Tryz.prog 80 #[j.val, k.val] w fun e w' => e = .returned (.bool (decide (ordK j k < 0))) ∧ Below w.heap.size w w' :=
  refLess_any _ _ _ _ _ _ w.heap.size w (Kd.rep hj.1) (Kd.rep hk.1) (Nat.le_refl _) hj.2.1 hk.2.1 hj.2.2 hk.2.2

theorem refSameK {w : World} {j k : Kd} (hj : j.Ok w (fun b => b < w.heap.size) ∧ j.Ar) (hk : k.Ok w (fun b => b < w.heap.size) ∧ k.Ar) :
    Calls Tryz.prog 17 #[j.val, k.val] w fun e w' => e = .returned (.bool (ordK j k == 0)) ∧ Below w.heap.size w w' :=
  refSame_any _ _ _ _ _ _ w.heap.size w (Kd.rep hj.1) (Kd.rep hk.1) (Nat.le_refl _) hj.2.1 hk.2.1 hj.2.2 hk.2.2

theorem rowOf_one : ∀ ks : List Kd, ∀ u ∈ rowOf ks, u.oneCell' = true
  | [], u, h => by simp [rowOf] at h
  | k :: r, u, h => by
    simp only [rowOf, List.mem_append] at h
    rcases h with h | h
    · simp [Kd.cells] at h; rcases h with rfl | rfl | rfl | rfl <;> rfl
    · exact rowOf_one r u h

theorem RowT.src {w : World} {g : Nat} {ks : List Kd} (h : RowT w g ks) (a m : Nat) (hm : a + m ≤ ks.length) : SrcAt w 4 (some ⟨g, a * 4, none⟩) m (rowOf ((ks.drop a).take m)) := by
  refine .inr ⟨_, rfl, by rw [rowOf_length]; simp; omega, fun j u hu => ?_, fun u hu => rowOf_one _ u hu⟩
  have hj : j < 4 * m := by have := (List.getElem?_eq_some_iff.1 hu).1; rw [rowOf_length] at this; simp at this; omega
  have ea : (⟨g, a * 4, none⟩ : Addr).add j = ⟨g, a * 4 + j, none⟩ := by cases j <;> simp [Addr.add]
  rw [ea, h.2.1 (a * 4 + j) (by omega), rowOf_get, show (a * 4 + j) / 4 = a + j / 4 from by omega, show (a * 4 + j) % 4 = j % 4 from by omega]
  rw [rowOf_get, List.getElem?_take, if_pos (by omega), List.getElem?_drop] at hu
  exact hu

theorem RowT.src_tail {w : World} {g : Nat} {ks : List Kd} (h : RowT w g ks) {k cap : Nat} (hk : k ≤ ks.length) (hc : ks.length ≤ cap) :
    SrcAt w 4 (if cap = k then some ⟨g, 0, none⟩ else some ⟨g, k * 4, none⟩) (ks.length - k) (rowOf ((ks.drop k).take (ks.length - k))) := by
  split
  · obtain rfl : k = ks.length := by omega
    exact .inl ⟨by omega, by simp [rowOf]⟩
  · exact h.src k _ (by omega)

/-- A term put where it belongs, once. -/
def AddOf (ks : List Kd) (t : Kd) (ys : List Kd) : Prop :=
  ∃ i, i ≤ ks.length ∧ (∀ j, j < i → ordK (ks.getD j kd0) t < 0) ∧ ((i < ks.length ∧ ordK (ks.getD i kd0) t = 0 ∧ ys = ks) ∨ ((i = ks.length ∨ 0 < ordK (ks.getD i kd0) t) ∧ ys = ks.take i ++ t :: ks.drop i))

def AddEnd (w : World) (ks : List Kd) (t : Kd) (g0 : Nat) (e : Ending) (w' : World) : Prop :=
  ∃ (ys : List Kd) (g c : Nat), AddOf ks t ys ∧ e = .returned (.slice (some ⟨g, 0, none⟩) ys.length c) ∧ ys.length ≤ c ∧ c ≤ 9223372036854775807 ∧ Below w.heap.size w w' ∧ (g = g0 ∨ w.heap.size ≤ g) ∧ RowT w' g ys

theorem add_done {w w1 w8 : World} {ks : List Kd} {t : Kd} {g0 k m : Nat} {v8 : Value} {P1 P2 : List Value} (hk : k ≤ ks.length) (hm : m = ks.length - k) (hlt : ∀ j, j < k → ordK (ks.getD j kd0) t < 0) (hend : k = ks.length ∨ 0 < ordK (ks.getD k kd0) t)
    (h1 : P1 = rowOf ((ks.drop 0).take k)) (h2 : P2 = rowOf ((ks.drop k).take (ks.length - k))) (hown : w8.ownsRow w1.heap.size 24 4 v8 (k + 1 + m) ((P1 ++ t.cells) ++ P2))
    (hb1 : Below w.heap.size w w1) (hb : Below w1.heap.size w1 w8) (hok : ∀ k ∈ ks, k.Ok w1 (fun b => b < w1.heap.size) ∧ k.Ar) (ht : t.Ok w1 (fun b => b < w1.heap.size) ∧ t.Ar) :
    AddEnd w ks t g0 (.returned v8) w8 := by
  subst hm
  have hlen : (ks.take k ++ t :: ks.drop k).length = k + 1 + (ks.length - k) := by simp; omega
  have hxs : (P1 ++ t.cells) ++ P2 = rowOf (ks.take k ++ t :: ks.drop k) := by
    rw [h1, h2, List.drop_zero, List.take_of_length_le (l := ks.drop k) (by simp), rowOf_append, rowOf]; simp
  rw [hxs] at hown
  have hcap : ∃ g cap, v8 = .slice (some ⟨g, 0, none⟩) (k + 1 + (ks.length - k)) cap ∧ w1.heap.size ≤ g ∧ k + 1 + (ks.length - k) ≤ cap ∧ cap ≤ maxLen := by
    rcases hown.2 with ⟨_, h0⟩ | ⟨g, cap, cur, h3, h4, _, h5, h6, _⟩
    · omega
    · exact ⟨g, cap, h3, h4, h5, h6⟩
  obtain ⟨g, cap, rfl, hg, hc1, hc2⟩ := hcap
  have hg8 := (hown.lt g rfl).2
  refine ⟨ks.take k ++ t :: ks.drop k, g, cap, ⟨k, hk, hlt, .inr ⟨hend, rfl⟩⟩, by rw [hlen], by omega, by unfold maxLen at hc2; omega, hb1.trans (hb.mono hb1.size), .inr (by have := hb1.size; omega), hg8, fun j hj => ?_, fun q hq => ?_⟩
  · exact hown.cellAt j (by omega)
  · have hq' : q = t ∨ q ∈ ks := by
      rcases List.mem_append.1 hq with h | h
      · exact .inr (List.mem_of_mem_take h)
      · rcases List.mem_cons.1 h with h | h
        · exact .inl h
        · exact .inr (List.mem_of_mem_drop h)
    rcases hq' with rfl | h
    · exact ⟨ht.1.below hb, ht.2⟩
    · exact ⟨(hok q h).1.below hb, (hok q h).2⟩

theorem grown_belowT {w a b : World} {row : Option Nat} (h : Below w.heap.size w a) (hg : a.grownBy b row) (hrow : ∀ q, row = some q → w.heap.size ≤ q) : Below w.heap.size w b := by
  have hs := h.size
  exact h.trans ⟨hg.os, hg.tape, hg.output, hg.size, fun q hq => hg.block q (by omega) (fun e => by have := hrow q e.symm; omega)⟩

theorem tailS {w b : World} {g0 N : Nat} {ks : List Kd} {v0 v1 v2 v3 : Value} (hR : RowT w g0 ks) (hB : Box4 w N v0 v1 v2 v3) (hb : Below w.heap.size w b) : RowT b g0 ks ∧ Box4 b N v0 v1 v2 v3 ∧ Below w.heap.size w b := ⟨hR.below hb, hB.below hb, hb⟩

theorem boxS {w b : World} {N : Nat} {v0 v1 v2 v3 : Value} (hB : Box4 w N v0 v1 v2 v3) (hb : Below w.heap.size w b) : Box4 b N v0 v1 v2 v3 ∧ Below w.heap.size w b := ⟨hB.below hb, hb⟩

end Go.Proofs.YtgmmbfnmojjbkaaGreatDoor

namespace Go.Proofs.YtgmmbfnmojjbkaaGreatDoor
open Go.RowKit
set_option linter.unusedVariables false
set_option linter.unusedSimpArgs false

set_option maxRecDepth 20000 in
set_option maxHeartbeats 4000000 in
theorem add_row (ks : List Kd) (t : Kd) (g cap : Nat) (w : World) (hz : 0 < ks.length) (hl : ks.length ≤ 100000) (hcap : ks.length ≤ cap) (hcm : cap ≤ 9223372036854775807) (hrow : RowT w g ks) (ht : t.Ok w (fun b => b < w.heap.size) ∧ t.Ar) :
    Calls Tryz.prog 62 #[.slice (some ⟨g, 0, none⟩) ks.length cap, t.val] w fun e w' => AddEnd w ks t g e w' := by
  obtain ⟨i, hi, hz0, hz1, hz2⟩ := info_get Tryz.infoTerm
  go_enter Tryz.func62, Tryz.ntmps62
  go_wp2_with fail
  obtain ⟨w0, hw0⟩ : ∃ w0, w0 = w.alloc (.cells #[.int .i64 t.a.kind, .int .i64 t.a.n, .string t.a.s, .slice t.A (flen t.l) t.cap] 24) := ⟨_, rfl⟩
  have hbw : Below w.heap.size w w0 := by rw [hw0]; exact Below.alloc (Below.refl _ _) (Nat.le_refl _) _
  have HB : Hid (Box4 w0 w.heap.size (.int .i64 t.a.kind) (.int .i64 t.a.n) (.string t.a.s) (.slice t.A (flen t.l) t.cap)) := by show Box4 _ _ _ _ _ _; rw [hw0]; exact Box4.new _ _ _ _ _ _
  have HR : Hid (RowT w0 g ks) := hrow.below hbw
  have HT : Hid (t.Ok w0 (fun b => b < w0.heap.size) ∧ t.Ar) := ⟨ht.1.below hbw, ht.2⟩
  rw [← hw0]
  clear hw0 hrow ht
  go_loopw [5] (fun iv wr => ∃ k : Nat, iv = .int .i64 (k : Int) ∧ k ≤ ks.length ∧ (∀ j, j < k → ordK (ks.getD j kd0) t < 0) ∧ Below w0.heap.size w0 wr) (fun iv _ => ks.length - (intOf iv).toNat)
  case atStart => exact ⟨0, rfl, by omega, by omega, Below.refl _ _⟩
  case round =>
    obtain ⟨k, rfl, hk, hlt, hbl⟩ := hrel
    have Hlt : Hid (∀ j, j < k → ordK (ks.getD j kd0) t < 0) := hlt
    clear hlt
    by_cases hkl : k < ks.length
    · have e1 : ∀ W, Below w0.heap.size w0 W → (W.cell? ⟨g, k * 4, none⟩ = some (.int .i64 (ks.getD k kd0).a.kind) ∧ W.cell? ⟨g, k * 4 + 1, none⟩ = some (.int .i64 (ks.getD k kd0).a.n) ∧ W.cell? ⟨g, k * 4 + 2, none⟩ = some (.string (ks.getD k kd0).a.s) ∧ W.cell? ⟨g, k * 4 + 3, none⟩ = some (.slice (ks.getD k kd0).A (flen (ks.getD k kd0).l) (ks.getD k kd0).cap)) ∧
          Box4 W w.heap.size (.int .i64 t.a.kind) (.int .i64 t.a.n) (.string t.a.s) (.slice t.A (flen t.l) t.cap) := fun W hW => ⟨(HR.out.below hW).at k hkl, HB.out.below hW⟩
      have c1 : ∀ W, Below w0.heap.size w0 W → Calls Tryz.prog 80 #[(ks.getD k kd0).val, t.val] W fun e w' => e = .returned (.bool (decide (ordK (ks.getD k kd0) t < 0))) ∧ Below w0.heap.size w0 w' :=
        fun W hW => (refLessK ((HR.out.below hW).ok k hkl) ⟨HT.out.1.below hW, HT.out.2⟩).mono (fun e w' h => ⟨h.1, hW.trans (h.2.mono hW.size)⟩)
      have c2 : ∀ W, Below w0.heap.size w0 W → Calls Tryz.prog 17 #[(ks.getD k kd0).val, t.val] W fun e w' => e = .returned (.bool (ordK (ks.getD k kd0) t == 0)) ∧ Below w0.heap.size w0 w' :=
        fun W hW => (refSameK ((HR.out.below hW).ok k hkl) ⟨HT.out.1.below hW, HT.out.2⟩).mono (fun e w' h => ⟨h.1, hW.trans (h.2.mono hW.size)⟩)
      generalize hx0 : ks.getD k kd0 = x at *
      have HX : Hid (ks.getD k kd0 = x) := hx0
      clear hx0
      have E1 : Hid _ := e1
      have C1 : Hid _ := c1
      have C2 : Hid _ := c2
      clear e1 c1 c2
      have hki : (k : Int) < (ks.length : Int) := by omega
      have hk0 : (0 : Int) ≤ (k : Int) := by omega
      by_cases hlx : ordK x t < 0
      · rw [decide_eq_true hlx] at C1
        go_wp2_with fail
        go_region_held3 (fun w' => (w'.cell? ⟨g, k * 4, none⟩ = some (.int .i64 x.a.kind) ∧ w'.cell? ⟨g, k * 4 + 1, none⟩ = some (.int .i64 x.a.n) ∧ w'.cell? ⟨g, k * 4 + 2, none⟩ = some (.string x.a.s) ∧ w'.cell? ⟨g, k * 4 + 3, none⟩ = some (.slice x.A (flen x.l) x.cap)) ∧ Box4 w' w.heap.size (.int .i64 t.a.kind) (.int .i64 t.a.n) (.string t.a.s) (.slice t.A (flen t.l) t.cap) ∧ Below w0.heap.size w0 w')
            (first | exact ⟨(E1.out _ hbl.drew).1, (E1.out _ hbl.drew).2, hbl.drew⟩ | exact ⟨(E1.out _ ho1).1, (E1.out _ ho1).2, ho1⟩)
            (first
              | (go_at_call 80; refine (C1.out _ ?_).mono ?_; exact (And.right (And.right (by assumption))); rintro e w1 ⟨rfl, ho1⟩))
        go_wp2_with fail
        go_roundw
        case rel => exact ⟨k + 1, by go_num, by omega, fun j hj => by rcases Nat.lt_or_ge j k with h | h; exact Hlt.out j h; rw [show j = k by omega, HX.out]; exact hlx, ho1⟩
        case measure => simp [intOf]; omega
      · rw [decide_eq_false hlx] at C1
        go_wp2_with fail
        go_region_held3 (fun w' => (w'.cell? ⟨g, k * 4, none⟩ = some (.int .i64 x.a.kind) ∧ w'.cell? ⟨g, k * 4 + 1, none⟩ = some (.int .i64 x.a.n) ∧ w'.cell? ⟨g, k * 4 + 2, none⟩ = some (.string x.a.s) ∧ w'.cell? ⟨g, k * 4 + 3, none⟩ = some (.slice x.A (flen x.l) x.cap)) ∧ Box4 w' w.heap.size (.int .i64 t.a.kind) (.int .i64 t.a.n) (.string t.a.s) (.slice t.A (flen t.l) t.cap) ∧ Below w0.heap.size w0 w')
            (first | exact ⟨(E1.out _ hbl.drew).1, (E1.out _ hbl.drew).2, hbl.drew⟩ | exact ⟨(E1.out _ ho1).1, (E1.out _ ho1).2, ho1⟩)
            (first
              | (go_at_call 80; refine (C1.out _ ?_).mono ?_; exact (And.right (And.right (by assumption))); rintro e w1 ⟨rfl, ho1⟩))
        by_cases heq : ordK x t = 0
        · rw [show (ordK x t == 0) = true from by simp [heq]] at C2
          go_wp2_with fail
          go_region_held3 (fun w' => (w'.cell? ⟨g, k * 4, none⟩ = some (.int .i64 x.a.kind) ∧ w'.cell? ⟨g, k * 4 + 1, none⟩ = some (.int .i64 x.a.n) ∧ w'.cell? ⟨g, k * 4 + 2, none⟩ = some (.string x.a.s) ∧ w'.cell? ⟨g, k * 4 + 3, none⟩ = some (.slice x.A (flen x.l) x.cap)) ∧ Box4 w' w.heap.size (.int .i64 t.a.kind) (.int .i64 t.a.n) (.string t.a.s) (.slice t.A (flen t.l) t.cap) ∧ Below w0.heap.size w0 w')
            (first | exact ⟨(E1.out _ ho1.drew).1, (E1.out _ ho1.drew).2, ho1.drew⟩ | exact ⟨(E1.out _ ho2).1, (E1.out _ ho2).2, ho2⟩)
            (first
              | (go_at_call 17; refine (C2.out _ ?_).mono ?_; exact (And.right (And.right (by assumption))); rintro e w2 ⟨rfl, ho2⟩))
          go_wp2_with fail
          go_ret
          exact ⟨ks, g, cap, ⟨k, by omega, Hlt.out, .inl ⟨hkl, by rw [HX.out, heq], rfl⟩⟩, rfl, hcap, hcm, hbw.trans (ho2.mono hbw.size), .inl rfl, HR.out.below ho2⟩
        · rw [show (ordK x t == 0) = false from by simp [heq]] at C2
          go_wp2_with fail
          go_region_held3 (fun w' => (w'.cell? ⟨g, k * 4, none⟩ = some (.int .i64 x.a.kind) ∧ w'.cell? ⟨g, k * 4 + 1, none⟩ = some (.int .i64 x.a.n) ∧ w'.cell? ⟨g, k * 4 + 2, none⟩ = some (.string x.a.s) ∧ w'.cell? ⟨g, k * 4 + 3, none⟩ = some (.slice x.A (flen x.l) x.cap)) ∧ Box4 w' w.heap.size (.int .i64 t.a.kind) (.int .i64 t.a.n) (.string t.a.s) (.slice t.A (flen t.l) t.cap) ∧ Below w0.heap.size w0 w')
            (first | exact ⟨(E1.out _ ho1.drew).1, (E1.out _ ho1.drew).2, ho1.drew⟩ | exact ⟨(E1.out _ ho2).1, (E1.out _ ho2).2, ho2⟩)
            (first
              | (go_at_call 17; refine (C2.out _ ?_).mono ?_; exact (And.right (And.right (by assumption))); rintro e w2 ⟨rfl, ho2⟩))
          have hend : Hid (k = ks.length ∨ 0 < ordK (ks.getD k kd0) t) := by show k = ks.length ∨ 0 < ordK (ks.getD k kd0) t; rw [HX.out]; omega
          clear E1 C1 C2
          obtain ⟨P1, hP1⟩ : ∃ P1 : List Value, P1 = rowOf ((ks.drop 0).take k) := ⟨_, rfl⟩
          obtain ⟨P2, hP2⟩ : ∃ P2 : List Value, P2 = rowOf ((ks.drop k).take (ks.length - k)) := ⟨_, rfl⟩
          have H1 : Hid (P1 = rowOf ((ks.drop 0).take k)) := hP1
          have H2 : Hid (P2 = rowOf ((ks.drop k).take (ks.length - k))) := hP2
          clear hP1 hP2
          have R5 : Hid (RowT w2 g ks) := HR.out.below ho2
          have B5 : Hid (Box4 w2 w.heap.size (.int .i64 t.a.kind) (.int .i64 t.a.n) (.string t.a.s) (.slice t.A (flen t.l) t.cap)) := HB.out.below ho2
          have T5 : Hid (t.Ok w2 (fun b => b < w2.heap.size) ∧ t.Ar) := ⟨HT.out.1.below ho2, HT.out.2⟩
          go_wp2_with (at_builtin; refine wpList_append_any _ rfl _ _ 22 rfl w2.heap.size 24 i (.agg #[.int .i64 0, .int .i64 0, .string ⟨#[]⟩, .slice none 0 0]) 4 56 Tryz.underlying22 hi hz0 hz1 hz2 rfl (by decide) (.slice (some ⟨w2.heap.size, 0, none⟩) 0 0) 0 [] rfl ?own (some ⟨g, 0, none⟩) k cap P1 rfl ?src ?c3 ?c4 ?c5 ?_)
          case own => exact ⟨rfl, .inr ⟨w2.heap.size, 0, #[], rfl, Nat.le_refl _, heap_alloc_new w2 _, Nat.le_refl _, Nat.zero_le _, rfl, rfl⟩⟩
          case src => rw [H1.out]; have h := (R5.out.below (Below.alloc (Below.refl _ _) (Nat.le_refl _) (.cells #[] 24))).src 0 k (by omega); rw [Nat.zero_mul] at h; exact h
          case c3 => unfold maxLen; omega
          case c4 => omega
          case c5 => simp
          intro v6 w6 hown6 hgrow6 hat6
          have hs6 := hgrow6.size
          simp only [World.heap_size_alloc'] at hs6
          have hb6 : Below w2.heap.size w2 w6 := ⟨hgrow6.os, hgrow6.tape, hgrow6.output, by omega, fun q hq => by rw [hgrow6.block q (by simp; omega) (fun e => by simp [Value.ownBlock] at e; omega), Below.heap_alloc _ _ _ (by omega)]⟩
          have o6 : w6.ownsRow w2.heap.size 24 4 v6 k P1 := by simpa using hown6
          have O6 : Hid (w6.ownsRow w2.heap.size 24 4 v6 k P1) := o6
          obtain ⟨c60, c61, c62, c63, c64⟩ := B5.out.below hb6
          clear hown6 o6
          go_wp2_with fail
          go_region_held3 (fun w' => RowT w' g ks ∧ Box4 w' w.heap.size (.int .i64 t.a.kind) (.int .i64 t.a.n) (.string t.a.s) (.slice t.A (flen t.l) t.cap) ∧ Below w2.heap.size w2 w')
            (first | exact tailS R5.out B5.out hb6.drew | exact tailS R5.out B5.out (Below.alloc (And.right (And.right (by assumption))) (by simp; omega) _) | exact tailS R5.out B5.out (grown_belowT (And.right (And.right (by assumption))) hgrow8 (fun q hq => (hown7.lt q hq).1)) | exact tailS R5.out B5.out (grown_belowT (And.right (And.right (by assumption))) hgrow7 (fun q hq => (O6.out.lt q hq).1)) | assumption)
            (first
              | (refine step_append_any _ (by rfl) _ _ 22 (by rfl) w2.heap.size 24 i (.agg #[.int .i64 0, .int .i64 0, .string ⟨#[]⟩, .slice none 0 0]) 4 56 Tryz.underlying22 hi hz0 hz1 hz2 rfl (by decide) v6 k P1 (by rfl) ((World.ownsRow.drew O6.out).alloc _) (some ⟨w6.heap.size, 0, none⟩) 1 1 [.int .i64 t.a.kind, .int .i64 t.a.n, .string t.a.s, .slice t.A (flen t.l) t.cap] (by rfl) (.inr ⟨_, rfl, rfl, World.news_of_block (cs := #[.int .i64 t.a.kind, .int .i64 t.a.n, .string t.a.s, .slice t.A (flen t.l) t.cap]) (t := 24) (fr := (0, 0)) (heap_alloc_new w6.drew _), by simp [Value.oneCell']⟩) (by unfold maxLen; omega) (by omega) (by simp; omega) ?_; intro v7 w7 hown7 hgrow7 hat7)
              | (refine step_append_any _ (by rfl) _ _ 22 (by rfl) w2.heap.size 24 i (.agg #[.int .i64 0, .int .i64 0, .string ⟨#[]⟩, .slice none 0 0]) 4 56 Tryz.underlying22 hi hz0 hz1 hz2 rfl (by decide) v7 (k + 1) (P1 ++ [.int .i64 t.a.kind, .int .i64 t.a.n, .string t.a.s, .slice t.A (flen t.l) t.cap]) (by rfl) hown7 (if cap = k then some ⟨g, 0, none⟩ else some ⟨g, k * 4, none⟩) (ks.length - k) (cap - k) P2 (by rfl) (by rw [H2.out]; exact RowT.src_tail (And.left (by assumption)) (by omega) (by omega)) (by unfold maxLen; omega) (by omega) (Below.size (And.right (And.right (by assumption)))) ?_; intro v8 w8 hown8 hgrow8 hat8))
          have hfin : RowT w8 g ks ∧ Box4 w8 w.heap.size (.int .i64 t.a.kind) (.int .i64 t.a.n) (.string t.a.s) (.slice t.A (flen t.l) t.cap) ∧ Below w2.heap.size w2 w8 := by assumption
          have O8 : Hid (w8.ownsRow w2.heap.size 24 4 v8 (k + 1 + (ks.length - k)) ((P1 ++ [.int .i64 t.a.kind, .int .i64 t.a.n, .string t.a.s, .slice t.A (flen t.l) t.cap]) ++ P2)) := hown8
          clear hown8 hown7
          go_wp2_with fail
          all_goals go_ret
          all_goals first | exact add_done (w1 := w2) (by omega) (by omega) Hlt.out hend.out H1.out H2.out O8.out (hbw.trans (ho2.mono hbw.size)) hfin.2.2 R5.out.2.2 T5.out | exact add_done (w1 := w2) (by omega) (by omega) Hlt.out (.inl rfl) H1.out H2.out O8.out (hbw.trans (ho2.mono hbw.size)) hfin.2.2 R5.out.2.2 T5.out
    · obtain rfl : k = ks.length := by omega
      have hend : Hid (ks.length = ks.length ∨ 0 < ordK (ks.getD ks.length kd0) t) := .inl rfl
      · · have hdf : decide ((ks.length : Int) < (ks.length : Int)) = false := by simp
          go_wp2_with fail
          go_quiet (fail)
          have hb2 := below_drewN hbl nq
          generalize wr.drewN nq = wq at *
          clear hbl
          go_wp2_with fail
          go_quiet (fail)
          have ho2 := below_drewN hb2 nq
          generalize wq.drewN nq = w2 at *
          clear hb2
          obtain ⟨P1, hP1⟩ : ∃ P1 : List Value, P1 = rowOf ((ks.drop 0).take ks.length) := ⟨_, rfl⟩
          obtain ⟨P2, hP2⟩ : ∃ P2 : List Value, P2 = rowOf ((ks.drop ks.length).take (ks.length - ks.length)) := ⟨_, rfl⟩
          have H1 : Hid (P1 = rowOf ((ks.drop 0).take ks.length)) := hP1
          have H2 : Hid (P2 = rowOf ((ks.drop ks.length).take (ks.length - ks.length))) := hP2
          clear hP1 hP2
          have R5 : Hid (RowT w2 g ks) := HR.out.below ho2
          have B5 : Hid (Box4 w2 w.heap.size (.int .i64 t.a.kind) (.int .i64 t.a.n) (.string t.a.s) (.slice t.A (flen t.l) t.cap)) := HB.out.below ho2
          have T5 : Hid (t.Ok w2 (fun b => b < w2.heap.size) ∧ t.Ar) := ⟨HT.out.1.below ho2, HT.out.2⟩
          go_wp2_with (at_builtin; refine wpList_append_any _ rfl _ _ 22 rfl w2.heap.size 24 i (.agg #[.int .i64 0, .int .i64 0, .string ⟨#[]⟩, .slice none 0 0]) 4 56 Tryz.underlying22 hi hz0 hz1 hz2 rfl (by decide) (.slice (some ⟨w2.heap.size, 0, none⟩) 0 0) 0 [] rfl ?own (some ⟨g, 0, none⟩) ks.length cap P1 rfl ?src ?c3 ?c4 ?c5 ?_)
          case own => exact ⟨rfl, .inr ⟨w2.heap.size, 0, #[], rfl, Nat.le_refl _, heap_alloc_new w2 _, Nat.le_refl _, Nat.zero_le _, rfl, rfl⟩⟩
          case src => rw [H1.out]; have h := (R5.out.below (Below.alloc (Below.refl _ _) (Nat.le_refl _) (.cells #[] 24))).src 0 ks.length (by omega); rw [Nat.zero_mul] at h; exact h
          case c3 => unfold maxLen; omega
          case c4 => omega
          case c5 => simp
          intro v6 w6 hown6 hgrow6 hat6
          have hs6 := hgrow6.size
          simp only [World.heap_size_alloc'] at hs6
          have hb6 : Below w2.heap.size w2 w6 := ⟨hgrow6.os, hgrow6.tape, hgrow6.output, by omega, fun q hq => by rw [hgrow6.block q (by simp; omega) (fun e => by simp [Value.ownBlock] at e; omega), Below.heap_alloc _ _ _ (by omega)]⟩
          have o6 : w6.ownsRow w2.heap.size 24 4 v6 ks.length P1 := by simpa using hown6
          have O6 : Hid (w6.ownsRow w2.heap.size 24 4 v6 ks.length P1) := o6
          obtain ⟨c60, c61, c62, c63, c64⟩ := B5.out.below hb6
          clear hown6 o6
          go_wp2_with fail
          go_region_held3 (fun w' => RowT w' g ks ∧ Box4 w' w.heap.size (.int .i64 t.a.kind) (.int .i64 t.a.n) (.string t.a.s) (.slice t.A (flen t.l) t.cap) ∧ Below w2.heap.size w2 w')
            (first | exact tailS R5.out B5.out hb6.drew | exact tailS R5.out B5.out (Below.alloc (And.right (And.right (by assumption))) (by simp; omega) _) | exact tailS R5.out B5.out (grown_belowT (And.right (And.right (by assumption))) hgrow8 (fun q hq => (hown7.lt q hq).1)) | exact tailS R5.out B5.out (grown_belowT (And.right (And.right (by assumption))) hgrow7 (fun q hq => (O6.out.lt q hq).1)) | assumption)
            (first
              | (refine step_append_any _ (by rfl) _ _ 22 (by rfl) w2.heap.size 24 i (.agg #[.int .i64 0, .int .i64 0, .string ⟨#[]⟩, .slice none 0 0]) 4 56 Tryz.underlying22 hi hz0 hz1 hz2 rfl (by decide) v6 ks.length P1 (by rfl) ((World.ownsRow.drew O6.out).alloc _) (some ⟨w6.heap.size, 0, none⟩) 1 1 [.int .i64 t.a.kind, .int .i64 t.a.n, .string t.a.s, .slice t.A (flen t.l) t.cap] (by rfl) (.inr ⟨_, rfl, rfl, World.news_of_block (cs := #[.int .i64 t.a.kind, .int .i64 t.a.n, .string t.a.s, .slice t.A (flen t.l) t.cap]) (t := 24) (fr := (0, 0)) (heap_alloc_new w6.drew _), by simp [Value.oneCell']⟩) (by unfold maxLen; omega) (by omega) (by simp; omega) ?_; intro v7 w7 hown7 hgrow7 hat7)
              | (refine step_append_any _ (by rfl) _ _ 22 (by rfl) w2.heap.size 24 i (.agg #[.int .i64 0, .int .i64 0, .string ⟨#[]⟩, .slice none 0 0]) 4 56 Tryz.underlying22 hi hz0 hz1 hz2 rfl (by decide) v7 (ks.length + 1) (P1 ++ [.int .i64 t.a.kind, .int .i64 t.a.n, .string t.a.s, .slice t.A (flen t.l) t.cap]) (by rfl) hown7 (if cap = ks.length then some ⟨g, 0, none⟩ else some ⟨g, ks.length * 4, none⟩) (0) (cap - ks.length) P2 (by rfl) (by rw [H2.out]; exact .inl ⟨rfl, by simp [rowOf]⟩) (by unfold maxLen; omega) (by omega) (Below.size (And.right (And.right (by assumption)))) ?_; intro v8 w8 hown8 hgrow8 hat8))
          have hfin : RowT w8 g ks ∧ Box4 w8 w.heap.size (.int .i64 t.a.kind) (.int .i64 t.a.n) (.string t.a.s) (.slice t.A (flen t.l) t.cap) ∧ Below w2.heap.size w2 w8 := by assumption
          have O8 : Hid (w8.ownsRow w2.heap.size 24 4 v8 (ks.length + 1 + (0)) ((P1 ++ [.int .i64 t.a.kind, .int .i64 t.a.n, .string t.a.s, .slice t.A (flen t.l) t.cap]) ++ P2)) := hown8
          clear hown8 hown7
          go_wp2_with fail
          all_goals go_ret
          all_goals first | exact add_done (w1 := w2) (by omega) (by omega) Hlt.out hend.out H1.out H2.out O8.out (hbw.trans (ho2.mono hbw.size)) hfin.2.2 R5.out.2.2 T5.out | exact add_done (w1 := w2) (by omega) (by omega) Hlt.out (.inl rfl) H1.out H2.out O8.out (hbw.trans (ho2.mono hbw.size)) hfin.2.2 R5.out.2.2 T5.out

set_option maxRecDepth 20000 in
set_option maxHeartbeats 4000000 in
theorem add_nil (t : Kd) (g : Nat) (w : World) (ht : t.Ok w (fun b => b < w.heap.size) ∧ t.Ar) :
    Calls Tryz.prog 62 #[.slice none 0 0, t.val] w fun e w' => AddEnd w [] t g e w' := by
  obtain ⟨i, hi, hz0, hz1, hz2⟩ := info_get Tryz.infoTerm
  go_enter Tryz.func62, Tryz.ntmps62
  go_wp2_with fail
  obtain ⟨w0, hw0⟩ : ∃ w0, w0 = w.alloc (.cells #[.int .i64 t.a.kind, .int .i64 t.a.n, .string t.a.s, .slice t.A (flen t.l) t.cap] 24) := ⟨_, rfl⟩
  have hbw : Below w.heap.size w w0 := by rw [hw0]; exact Below.alloc (Below.refl _ _) (Nat.le_refl _) _
  have HB : Hid (Box4 w0 w.heap.size (.int .i64 t.a.kind) (.int .i64 t.a.n) (.string t.a.s) (.slice t.A (flen t.l) t.cap)) := by show Box4 _ _ _ _ _ _; rw [hw0]; exact Box4.new _ _ _ _ _ _
  have HT : Hid (t.Ok w0 (fun b => b < w0.heap.size) ∧ t.Ar) := ⟨ht.1.below hbw, ht.2⟩
  rw [← hw0]
  clear hw0 ht
  go_loopw [5] (fun iv wr => iv = .int .i64 0 ∧ w0 = wr) (fun _ _ => 0)
  case atStart => exact ⟨rfl, rfl⟩
  case round =>
    obtain ⟨rfl, rfl⟩ := hrel
    have hdf : decide ((0 : Int) < ((0 : Nat) : Int)) = false := by simp
    go_wp2_with fail
    go_quiet (fail)
    have hb2 := below_drewN (Below.refl w0.heap.size w0) nq
    generalize w0.drewN nq = wq at *
    go_wp2_with fail
    go_quiet (fail)
    have ho2 := below_drewN hb2 nq
    generalize wq.drewN nq = w2 at *
    clear hb2
    have B5 : Hid (Box4 w2 w.heap.size (.int .i64 t.a.kind) (.int .i64 t.a.n) (.string t.a.s) (.slice t.A (flen t.l) t.cap)) := HB.out.below ho2
    have T5 : Hid (t.Ok w2 (fun b => b < w2.heap.size) ∧ t.Ar) := ⟨HT.out.1.below ho2, HT.out.2⟩
    go_wp2_with fail
    have o6 : (w2.alloc (.cells #[] 24)).ownsRow w2.heap.size 24 4 (.slice (some ⟨w2.heap.size, 0, none⟩) 0 0) 0 [] := ⟨rfl, .inr ⟨w2.heap.size, 0, #[], rfl, Nat.le_refl _, heap_alloc_new w2 _, Nat.le_refl _, Nat.zero_le _, rfl, rfl⟩⟩
    have O6 : Hid ((w2.alloc (.cells #[] 24)).ownsRow w2.heap.size 24 4 (.slice (some ⟨w2.heap.size, 0, none⟩) 0 0) 0 []) := o6
    clear o6
    have hb6 : Below w2.heap.size w2 (w2.alloc (.cells #[] 24)) := Below.alloc (Below.refl _ _) (Nat.le_refl _) _
    go_region_held3 (fun w' => Box4 w' w.heap.size (.int .i64 t.a.kind) (.int .i64 t.a.n) (.string t.a.s) (.slice t.A (flen t.l) t.cap) ∧ Below w2.heap.size w2 w')
      (first | exact boxS B5.out hb6.drew | exact boxS B5.out (Below.drew (Below.alloc hb6 (by simp) _)) | exact boxS B5.out (Below.alloc (And.right (by assumption)) (by simp) _) | exact boxS B5.out (grown_belowT (And.right (by assumption)) hgrow8 (fun q hq => (hown7.lt q hq).1)) | exact boxS B5.out (grown_belowT (And.right (by assumption)) hgrow7 (fun q hq => (O6.out.lt q hq).1)) | assumption)
      (first
        | (refine step_append_any _ (by rfl) _ _ 22 (by rfl) w2.heap.size 24 i (.agg #[.int .i64 0, .int .i64 0, .string ⟨#[]⟩, .slice none 0 0]) 4 56 Tryz.underlying22 hi hz0 hz1 hz2 rfl (by decide) (.slice (some ⟨w2.heap.size, 0, none⟩) 0 0) 0 [] (by rfl) (World.ownsRow.alloc (World.ownsRow.drew O6.out) _) (some ⟨w2.heap.size + 1, 0, none⟩) 1 1 [.int .i64 t.a.kind, .int .i64 t.a.n, .string t.a.s, .slice t.A (flen t.l) t.cap] (by rfl) (.inr ⟨_, rfl, rfl, World.news_of_block (cs := #[.int .i64 t.a.kind, .int .i64 t.a.n, .string t.a.s, .slice t.A (flen t.l) t.cap]) (t := 24) (fr := (0, 0)) (by have h := heap_alloc_new (w2.alloc (.cells #[] 24)) (.cells #[.int .i64 t.a.kind, .int .i64 t.a.n, .string t.a.s, .slice t.A (flen t.l) t.cap] 24); rw [World.heap_size_alloc'] at h; exact h), by simp [Value.oneCell']⟩) (by unfold maxLen; omega) (by omega) (by simp; omega) ?_; intro v7 w7 hown7 hgrow7 hat7)
        | (refine step_append_any _ (by rfl) _ _ 22 (by rfl) w2.heap.size 24 i (.agg #[.int .i64 0, .int .i64 0, .string ⟨#[]⟩, .slice none 0 0]) 4 56 Tryz.underlying22 hi hz0 hz1 hz2 rfl (by decide) v7 (0 + 1) ([] ++ [.int .i64 t.a.kind, .int .i64 t.a.n, .string t.a.s, .slice t.A (flen t.l) t.cap]) (by rfl) hown7 none 0 0 [] (by rfl) (.inl ⟨rfl, rfl⟩) (by unfold maxLen; omega) (by omega) (Below.size (And.right (by assumption))) ?_; intro v8 w8 hown8 hgrow8 hat8))
    have hfin : Box4 w8 w.heap.size (.int .i64 t.a.kind) (.int .i64 t.a.n) (.string t.a.s) (.slice t.A (flen t.l) t.cap) ∧ Below w2.heap.size w2 w8 := by assumption
    have O8 : Hid (w8.ownsRow w2.heap.size 24 4 v8 (0 + 1 + 0) (([] ++ [.int .i64 t.a.kind, .int .i64 t.a.n, .string t.a.s, .slice t.A (flen t.l) t.cap]) ++ [])) := hown8
    clear hown8 hown7
    go_wp2_with fail
    all_goals go_ret
    all_goals exact add_done (ks := []) (k := 0) (m := 0) (P1 := []) (P2 := []) (w1 := w2) (by omega) (by simp) (by omega) (.inl rfl) rfl rfl O8.out (hbw.trans (ho2.mono hbw.size)) hfin.2 (by simp) T5.out

end Go.Proofs.YtgmmbfnmojjbkaaGreatDoor

namespace Go.Proofs.YtgmmbfnmojjbkaaGreatDoor
open Go.RowKit
set_option linter.unusedVariables false
set_option linter.unusedSimpArgs false

/-- v is a list of the terms ks. -/
def SlT (w : World) (v : Value) (ks : List Kd) : Prop :=
  (ks = [] ∧ v = .slice none 0 0) ∨ ∃ g c, v = .slice (some ⟨g, 0, none⟩) ks.length c ∧ RowT w g ks

theorem SlT.below {w w' : World} {v : Value} {ks : List Kd} (h : SlT w v ks) (hb : Below w.heap.size w w') : SlT w' v ks := by
  rcases h with h | ⟨g, c, h1, h4⟩
  · exact .inl h
  · exact .inr ⟨g, c, h1, h4.below hb⟩

theorem SlT.len {w : World} {v : Value} {ks : List Kd} (h : SlT w v ks) : ∃ A c, v = .slice A ks.length c ∧ (ks.length = 0 ∨ ∃ g, A = some ⟨g, 0, none⟩ ∧ RowT w g ks) := by
  rcases h with ⟨rfl, rfl⟩ | ⟨g, c, h1, h4⟩
  · exact ⟨none, 0, rfl, .inl rfl⟩
  · exact ⟨_, c, h1, .inr ⟨g, rfl, h4⟩⟩

theorem addOf_sort {L L' : List Kd} {t : Kd} (hL : L.Pairwise (fun j k => ordK j k < 0)) (h : AddOf L t L') :
    L'.Pairwise (fun j k => ordK j k < 0) ∧ (∀ y ∈ L', y = t ∨ y ∈ L) ∧ (∀ y ∈ L, y ∈ L') ∧ (∃ y ∈ L', ordK t y = 0) ∧ L'.length ≤ L.length + 1 := by
  obtain ⟨i, hi, hlt, ⟨h1, h2, rfl⟩ | ⟨h1, rfl⟩⟩ := h
  · refine ⟨hL, fun y hy => .inr hy, fun y hy => hy, ⟨L'.getD i kd0, getD_mem h1, ?_⟩, by omega⟩
    rw [neg_ordK]; omega
  · have hcut := List.take_append_drop i L
    have hP := hL
    rw [← hcut, List.pairwise_append] at hP
    obtain ⟨p1, p2, p3⟩ := hP
    have hge : ∀ y ∈ L.drop i, ordK t y < 0 := by
      intro y hy
      rcases h1 with h1 | h1
      · rw [h1, List.drop_length] at hy; cases hy
      · rcases Nat.lt_or_ge i L.length with hil | hil
        · have e : L.getD i kd0 = L[i] := by simp [List.getD, List.getElem?_eq_getElem hil]
          rw [e, neg_ordK] at h1
          rw [List.drop_eq_getElem_cons hil] at hy p2
          rcases List.mem_cons.1 hy with rfl | hy
          · omega
          · have := (List.pairwise_cons.1 p2).1 y hy
            have tt := tri_ordK t L[i] y
            unfold Tri at tt; omega
        · rw [List.drop_of_length_le hil] at hy; cases hy
    have hle : ∀ x ∈ L.take i, ordK x t < 0 := by
      intro x hx
      obtain ⟨j, hj, rfl⟩ := List.getElem_of_mem hx
      simp only [List.length_take] at hj
      have := hlt j (by omega)
      rw [List.getElem_take]
      simpa [List.getD, List.getElem?_eq_getElem (show j < L.length by omega)] using this
    refine ⟨?_, fun y hy => ?_, fun y hy => ?_, ⟨t, by simp, ordK_self t⟩, by simp; omega⟩
    · rw [List.pairwise_append]
      refine ⟨p1, List.pairwise_cons.2 ⟨hge, p2⟩, fun x hx y hy => ?_⟩
      rcases List.mem_cons.1 hy with rfl | hy
      · exact hle x hx
      · exact p3 x hx y hy
    · rcases List.mem_append.1 hy with hy | hy
      · exact .inr (List.mem_of_mem_take hy)
      · rcases List.mem_cons.1 hy with hy | hy
        · exact .inl hy
        · exact .inr (List.mem_of_mem_drop hy)
    · rw [← hcut] at hy
      rcases List.mem_append.1 hy with hy | hy
      · exact List.mem_append.2 (.inl hy)
      · exact List.mem_append.2 (.inr (List.mem_cons_of_mem _ hy))

theorem sortOf_step {ks L L' : List Kd} {n : Nat} (hn : n < ks.length) (h : SortOf (ks.take n) L) (ha : AddOf L (ks.getD n kd0) L') : SortOf (ks.take (n + 1)) L' := by
  obtain ⟨h1, h2, h3⟩ := h
  obtain ⟨a1, a2, a3, a4, _⟩ := addOf_sort h1 ha
  have e : ks.take (n + 1) = ks.take n ++ [ks.getD n kd0] := by rw [List.take_succ_eq_append_getElem hn]; simp [List.getD, List.getElem?_eq_getElem hn]
  refine ⟨a1, fun y hy => ?_, fun x hx => ?_⟩
  · rw [e]
    rcases a2 y hy with rfl | hy
    · simp
    · exact List.mem_append.2 (.inl (h2 y hy))
  · rw [e] at hx
    rcases List.mem_append.1 hx with hx | hx
    · obtain ⟨y, hy, e⟩ := h3 x hx
      exact ⟨y, a3 y hy, e⟩
    · simp at hx; subst hx; exact a4

/-- A list that is nil where it is empty. -/
def SlN (w : World) (v : Value) (ks : List Kd) : Prop := (ks = [] ∧ v = .slice none 0 0) ∨ ∃ g c, v = .slice (some ⟨g, 0, none⟩) ks.length c ∧ 0 < ks.length ∧ ks.length ≤ c ∧ c ≤ 9223372036854775807 ∧ RowT w g ks

theorem SlN.below {w w' : World} {v : Value} {ks : List Kd} (h : SlN w v ks) (hb : Below w.heap.size w w') : SlN w' v ks := by
  rcases h with h | ⟨g, c, h1, h2, h3, h4, h5⟩
  · exact .inl h
  · exact .inr ⟨g, c, h1, h2, h3, h4, h5.below hb⟩
theorem SlN.sl {w : World} {v : Value} {ks : List Kd} (h : SlN w v ks) : SlT w v ks := by
  rcases h with h | ⟨g, c, h1, h2, h3, h4, h5⟩
  · exact .inl h
  · exact .inr ⟨g, c, h1, h5⟩

def SortRel (w : World) (ks : List Kd) (kv iv : Value) (wr : World) : Prop :=
  ∃ (n : Nat) (L : List Kd), iv = .int .i64 (n : Int) ∧ n ≤ ks.length ∧ L.length ≤ n ∧ SortOf (ks.take n) L ∧ SlN wr kv L ∧ Below w.heap.size w wr

def SortEnd (w : World) (ks : List Kd) (e : Ending) (w' : World) : Prop := ∃ (L : List Kd) (u : Value), e = .returned u ∧ SortOf ks L ∧ SlN w' u L ∧ L.length ≤ ks.length ∧ Below w.heap.size w w'

theorem AddOf.pos {L L' : List Kd} {t : Kd} (h : AddOf L t L') : L'.length ≠ 0 := by
  obtain ⟨i, hi, hlt, ⟨h1, h2, rfl⟩ | ⟨h1, rfl⟩⟩ := h
  · omega
  · simp

/-- A list with one more: nil, or a row. -/
theorem add_any {w : World} {v : Value} {L : List Kd} {t : Kd} (hv : SlN w v L) (hl : L.length ≤ 100000) (ht : t.Ok w (fun b => b < w.heap.size) ∧ t.Ar) :
    Calls Tryz.prog 62 #[v, t.val] w fun e w' => ∃ (L' : List Kd) (u : Value), e = .returned u ∧ AddOf L t L' ∧ SlN w' u L' ∧ Below w.heap.size w w' := by
  rcases hv with ⟨rfl, rfl⟩ | ⟨g, c, rfl, h0, h2, h3, h4⟩
  · refine (add_nil t 0 w ht).mono ?_
    rintro e w' ⟨ys, g, c, a1, rfl, a2, a3, a4, a5, a6⟩
    exact ⟨ys, _, rfl, a1, .inr ⟨g, c, rfl, Nat.pos_of_ne_zero a1.pos, a2, a3, a6⟩, a4⟩
  · refine (add_row L t g c w h0 hl h2 h3 h4 ht).mono ?_
    rintro e w' ⟨ys, g, c, a1, rfl, a2, a3, a4, a5, a6⟩
    exact ⟨ys, _, rfl, a1, .inr ⟨g, c, rfl, Nat.pos_of_ne_zero a1.pos, a2, a3, a6⟩, a4⟩

set_option maxRecDepth 20000 in
set_option maxHeartbeats 2000000 in
theorem refAll_any (xs ys : List Kd) (va vb : Value) (w : World) (ha : SlT w va xs) (hb : SlT w vb ys) (hl : xs.length ≤ 100000) (hlen : xs.length = ys.length) (hs : ∀ i, i < xs.length → ordK (xs.getD i kd0) (ys.getD i kd0) = 0) :
    Calls Tryz.prog 20 #[va, vb] w fun e w' => e = .returned (.bool true) ∧ Below w.heap.size w w' := by
  obtain ⟨A, c, rfl, hA⟩ := ha.len
  obtain ⟨A', c', rfl, hA'⟩ := hb.len
  have HA : Hid (xs.length = 0 ∨ ∃ g, A = some ⟨g, 0, none⟩ ∧ RowT w g xs) := hA
  have HA' : Hid (ys.length = 0 ∨ ∃ g, A' = some ⟨g, 0, none⟩ ∧ RowT w g ys) := hA'
  have HS : Hid (∀ i, i < xs.length → ordK (xs.getD i kd0) (ys.getD i kd0) = 0) := hs
  have HL : Hid (xs.length = ys.length) := hlen
  rw [← hlen]
  clear hA hA' ha hb hs hlen
  go_enter Tryz.func20, Tryz.ntmps20
  go_wp2_with fail
  go_loopw [5] (fun iv wr => ∃ n : Nat, iv = .int .i64 (n : Int) ∧ n ≤ xs.length ∧ Below w.heap.size w wr) (fun iv _ => xs.length - (intOf iv).toNat)
  case atStart => exact ⟨0, rfl, by omega, Below.refl _ _⟩
  case round =>
    obtain ⟨n, rfl, hn, hbl⟩ := hrel
    by_cases hlt : n < xs.length
    · obtain ⟨g, rfl, hrow⟩ : ∃ g, A = some ⟨g, 0, none⟩ ∧ RowT w g xs := by rcases HA.out with h | h; omega; exact h
      obtain ⟨g', rfl, hrow'⟩ : ∃ g, A' = some ⟨g, 0, none⟩ ∧ RowT w g ys := by rcases HA'.out with h | h; (have := HL.out; omega); exact h
      have hlt2 : n < ys.length := by have := HL.out; omega
      have e1 := fun (W : World) (hW : Below w.heap.size w W) => (hrow.below hW).at n hlt
      have e2 := fun (W : World) (hW : Below w.heap.size w W) => (hrow'.below hW).at n hlt2
      have c1 : ∀ W, Below w.heap.size w W → Calls Tryz.prog 17 #[(xs.getD n kd0).val, (ys.getD n kd0).val] W fun e w' => e = .returned (.bool (ordK (xs.getD n kd0) (ys.getD n kd0) == 0)) ∧ Below w.heap.size w w' :=
        fun W hW => (refSameK ((hrow.below hW).ok n hlt) ((hrow'.below hW).ok n hlt2)).mono (fun e w' h => ⟨h.1, hW.trans (h.2.mono hW.size)⟩)
      have hq := HS.out n hlt
      generalize xs.getD n kd0 = x at *
      generalize ys.getD n kd0 = y at *
      rw [show (ordK x y == 0) = true from by simp [hq]] at c1
      have E1 : Hid _ := e1
      have E2 : Hid _ := e2
      have C1 : Hid _ := c1
      clear e1 e2 c1 hq hrow hrow'
      have hni : (n : Int) < (xs.length : Int) := by omega
      go_wp2_with fail
      go_region_held3 (fun w' => (w'.cell? ⟨g, n * 4, none⟩ = some (.int .i64 x.a.kind) ∧ w'.cell? ⟨g, n * 4 + 1, none⟩ = some (.int .i64 x.a.n) ∧ w'.cell? ⟨g, n * 4 + 2, none⟩ = some (.string x.a.s) ∧ w'.cell? ⟨g, n * 4 + 3, none⟩ = some (.slice x.A (flen x.l) x.cap)) ∧ (w'.cell? ⟨g', n * 4, none⟩ = some (.int .i64 y.a.kind) ∧ w'.cell? ⟨g', n * 4 + 1, none⟩ = some (.int .i64 y.a.n) ∧ w'.cell? ⟨g', n * 4 + 2, none⟩ = some (.string y.a.s) ∧ w'.cell? ⟨g', n * 4 + 3, none⟩ = some (.slice y.A (flen y.l) y.cap)) ∧ Below w.heap.size w w')
        (first | exact ⟨E1.out _ hbl.drew, E2.out _ hbl.drew, hbl.drew⟩ | exact ⟨E1.out _ ho1, E2.out _ ho1, ho1⟩)
        (first
          | (go_at_call 17; refine (C1.out _ ?_).mono ?_; exact (And.right (And.right (by assumption))); rintro e w1 ⟨rfl, ho1⟩))
      go_wp2_with fail
      go_roundw
      case rel => exact ⟨n + 1, by go_num, hlt, ho1⟩
      case measure => simp [intOf]; omega
    · obtain rfl : n = xs.length := by omega
      have hni : decide ((xs.length : Int) < (xs.length : Int)) = false := by simp
      go_wp2_with fail
      go_ret
      exact ⟨rfl, hbl⟩

end Go.Proofs.YtgmmbfnmojjbkaaGreatDoor
