import Derived.Test.YtbjneijgbikcpaaDoorWY
import Derived.Test.YtbjneijgbikcpaaDoorW25
import Derived.Test.YtbjneijgbikcpaaDoorA1
import Derived.Deep.RegionHeld3
import Derived.Test.YtbjneijgbikcpaaDoorW14
namespace Go.Proofs.YtbjneijgbikcpaaDoor
open Go.RowKit
set_option linter.unusedVariables false
set_option linter.unusedSimpArgs false

/-- A row of terms in block g. -/
def RowT (w : World) (g : Nat) (ks : List Kd) : Prop :=
  g < w.heap.size ∧ (∀ t, t < 4 * ks.length → w.cell? ⟨g, t, none⟩ = (rowOf ks)[t]?) ∧ ∀ k ∈ ks, k.Ok w (fun b => b < w.heap.size) ∧ k.Ar

theorem Kd.Ok.below {w w' : World} {k : Kd} (h : k.Ok w (fun b => b < w.heap.size)) (hb : Below w.heap.size w w') : k.Ok w' (fun b => b < w'.heap.size) :=
  h.keep (fun b hb' => Nat.lt_of_lt_of_le hb' hb.size) (fun b o hb' => hb.cell hb')

theorem RowT.below {w w' : World} {g : Nat} {ks : List Kd} (h : RowT w g ks) (hb : Below w.heap.size w w') : RowT w' g ks :=
  ⟨Nat.lt_of_lt_of_le h.1 hb.size, fun t ht => by rw [hb.cell h.1]; exact h.2.1 t ht, fun k hk => ⟨(h.2.2 k hk).1.below hb, (h.2.2 k hk).2⟩⟩

theorem RowAt.toT {w : World} {g : Nat} {ks : List Kd} (h : RowAt w g ks) : RowT w g ks :=
  ⟨h.1, fun t ht => (h.2.1 t ht).1, fun k hk => ⟨(h.2.2 k hk).1.keep (fun b hb => hb.1) (fun _ _ _ => rfl), (h.2.2 k hk).2⟩⟩

theorem RowT.at {w : World} {g : Nat} {ks : List Kd} (h : RowT w g ks) (m : Nat) (hm : m < ks.length) :
    w.cell? ⟨g, m * 4, none⟩ = some (.int .i64 (ks.getD m kd0).a.kind) ∧ w.cell? ⟨g, m * 4 + 1, none⟩ = some (.int .i64 (ks.getD m kd0).a.n) ∧ w.cell? ⟨g, m * 4 + 2, none⟩ = some (.string (ks.getD m kd0).a.s) ∧
      w.cell? ⟨g, m * 4 + 3, none⟩ = some (.slice (ks.getD m kd0).A (flen (ks.getD m kd0).l) (ks.getD m kd0).cap) := by
  have c : ∀ j, j < 4 → w.cell? ⟨g, m * 4 + j, none⟩ = (ks.getD m kd0).cells[j]? := fun j hj => by
    rw [h.2.1 (m * 4 + j) (by omega), rowOf_get, show (m * 4 + j) / 4 = m from by omega, show (m * 4 + j) % 4 = j from by omega]
    simp [List.getD, List.getElem?_eq_getElem hm]
  exact ⟨c 0 (by omega), c 1 (by omega), c 2 (by omega), c 3 (by omega)⟩

theorem RowT.ok {w : World} {g : Nat} {ks : List Kd} (h : RowT w g ks) (m : Nat) (hm : m < ks.length) : (ks.getD m kd0).Ok w (fun b => b < w.heap.size) ∧ (ks.getD m kd0).Ar :=
  h.2.2 _ (by simp [List.getD, List.getElem?_eq_getElem hm])

/-- A term as a value. -/
abbrev Kd.val (k : Kd) : Value := .agg #[.int .i64 k.a.kind, .int .i64 k.a.n, .string k.a.s, .slice k.A (flen k.l) k.cap]

theorem Kd.rep {w : World} {k : Kd} (h : k.Ok w (fun b => b < w.heap.size)) : RepV w w.heap.size k.a k.l k.val :=
  ⟨h.1, k.A, k.cap, k.b, k.o, rfl, h.2.1, h.2.2.1, RepG.toF (fun _ h => h) h.2.2.2⟩

theorem refSameK {w : World} {j k : Kd} (hj : j.Ok w (fun b => b < w.heap.size) ∧ j.Ar) (hk : k.Ok w (fun b => b < w.heap.size) ∧ k.Ar) :
    Calls Tryd.prog 15 #[j.val, k.val] w fun e w' => e = .returned (.bool (ordK j k == 0)) ∧ Below w.heap.size w w' :=
  refSame_any _ _ _ _ _ _ w.heap.size w (Kd.rep hj.1) (Kd.rep hk.1) (Nat.le_refl _) hj.2.1 hk.2.1 hj.2.2 hk.2.2

theorem rowOf_one : ∀ ks : List Kd, ∀ u ∈ rowOf ks, u.oneCell' = true
  | [], u, h => by simp [rowOf] at h
  | k :: r, u, h => by
    simp only [rowOf, List.mem_append] at h
    rcases h with h | h
    · simp [Kd.cells] at h; rcases h with rfl | rfl | rfl | rfl <;> rfl
    · exact rowOf_one r u h

theorem RowT.src {w : World} {g : Nat} {ks : List Kd} (h : RowT w g ks) (a m : Nat) (hm : a + m ≤ ks.length) : SrcAt w 4 (some ⟨g, a * 4, none⟩) m (rowOf ((ks.drop a).take m)) := by
  refine .inr ⟨_, rfl, by rw [rowOf_length]; simp; omega, fun j u hu => ?_, fun u hu => rowOf_one _ u hu⟩
  have hj : j < 4 * m := by have := (List.getElem?_eq_some_iff.1 hu).1; rw [rowOf_length] at this; simp at this; omega
  have ea : (⟨g, a * 4, none⟩ : Addr).add j = ⟨g, a * 4 + j, none⟩ := by cases j <;> simp [Addr.add]
  rw [ea, h.2.1 (a * 4 + j) (by omega), rowOf_get, show (a * 4 + j) / 4 = a + j / 4 from by omega, show (a * 4 + j) % 4 = j % 4 from by omega]
  rw [rowOf_get, List.getElem?_take, if_pos (by omega), List.getElem?_drop] at hu
  exact hu

theorem RowT.src_tail {w : World} {g : Nat} {ks : List Kd} (h : RowT w g ks) {k cap : Nat} (hk : k ≤ ks.length) (hc : ks.length ≤ cap) :
    SrcAt w 4 (if cap = k then some ⟨g, 0, none⟩ else some ⟨g, k * 4, none⟩) (ks.length - k) (rowOf ((ks.drop k).take (ks.length - k))) := by
  split
  · obtain rfl : k = ks.length := by omega
    exact .inl ⟨by omega, by simp [rowOf]⟩
  · exact h.src k _ (by omega)

/-- A term put where it belongs, once. -/
def AddOf (ks : List Kd) (t : Kd) (ys : List Kd) : Prop :=
  ∃ i, i ≤ ks.length ∧ (∀ j, j < i → ordK (ks.getD j kd0) t < 0) ∧ ((i < ks.length ∧ ordK (ks.getD i kd0) t = 0 ∧ ys = ks) ∨ ((i = ks.length ∨ 0 < ordK (ks.getD i kd0) t) ∧ ys = ks.take i ++ t :: ks.drop i))

def AddEnd (w : World) (ks : List Kd) (t : Kd) (g0 : Nat) (e : Ending) (w' : World) : Prop :=
  ∃ (ys : List Kd) (g c : Nat), AddOf ks t ys ∧ e = .returned (.slice (some ⟨g, 0, none⟩) ys.length c) ∧ ys.length ≤ c ∧ c ≤ 9223372036854775807 ∧ Below w.heap.size w w' ∧ (g = g0 ∨ w.heap.size ≤ g) ∧ RowT w' g ys

theorem add_done {w w1 w8 : World} {ks : List Kd} {t : Kd} {g0 k m : Nat} {v8 : Value} {P1 P2 : List Value} (hk : k ≤ ks.length) (hm : m = ks.length - k) (hlt : ∀ j, j < k → ordK (ks.getD j kd0) t < 0) (hend : k = ks.length ∨ 0 < ordK (ks.getD k kd0) t)
    (h1 : P1 = rowOf ((ks.drop 0).take k)) (h2 : P2 = rowOf ((ks.drop k).take (ks.length - k))) (hown : w8.ownsRow w1.heap.size 26 4 v8 (k + 1 + m) ((P1 ++ t.cells) ++ P2))
    (hb1 : Below w.heap.size w w1) (hb : Below w1.heap.size w1 w8) (hok : ∀ k ∈ ks, k.Ok w1 (fun b => b < w1.heap.size) ∧ k.Ar) (ht : t.Ok w1 (fun b => b < w1.heap.size) ∧ t.Ar) :
    AddEnd w ks t g0 (.returned v8) w8 := by
  subst hm
  have hlen : (ks.take k ++ t :: ks.drop k).length = k + 1 + (ks.length - k) := by simp; omega
  have hxs : (P1 ++ t.cells) ++ P2 = rowOf (ks.take k ++ t :: ks.drop k) := by
    rw [h1, h2, List.drop_zero, List.take_of_length_le (l := ks.drop k) (by simp), rowOf_append, rowOf]; simp
  rw [hxs] at hown
  have hcap : ∃ g cap, v8 = .slice (some ⟨g, 0, none⟩) (k + 1 + (ks.length - k)) cap ∧ w1.heap.size ≤ g ∧ k + 1 + (ks.length - k) ≤ cap ∧ cap ≤ maxLen := by
    rcases hown.2 with ⟨_, h0⟩ | ⟨g, cap, cur, h3, h4, _, h5, h6, _⟩
    · omega
    · exact ⟨g, cap, h3, h4, h5, h6⟩
  obtain ⟨g, cap, rfl, hg, hc1, hc2⟩ := hcap
  have hg8 := (hown.lt g rfl).2
  refine ⟨ks.take k ++ t :: ks.drop k, g, cap, ⟨k, hk, hlt, .inr ⟨hend, rfl⟩⟩, by rw [hlen], by omega, by unfold maxLen at hc2; omega, hb1.trans (hb.mono hb1.size), .inr (by have := hb1.size; omega), hg8, fun j hj => ?_, fun q hq => ?_⟩
  · exact hown.cellAt j (by omega)
  · have hq' : q = t ∨ q ∈ ks := by
      rcases List.mem_append.1 hq with h | h
      · exact .inr (List.mem_of_mem_take h)
      · rcases List.mem_cons.1 h with h | h
        · exact .inl h
        · exact .inr (List.mem_of_mem_drop h)
    rcases hq' with rfl | h
    · exact ⟨ht.1.below hb, ht.2⟩
    · exact ⟨(hok q h).1.below hb, (hok q h).2⟩

theorem grown_belowT {w a b : World} {row : Option Nat} (h : Below w.heap.size w a) (hg : a.grownBy b row) (hrow : ∀ q, row = some q → w.heap.size ≤ q) : Below w.heap.size w b := by
  have hs := h.size
  exact h.trans ⟨hg.os, hg.tape, hg.output, hg.size, fun q hq => hg.block q (by omega) (fun e => by have := hrow q e.symm; omega)⟩

theorem tailS {w b : World} {g0 N : Nat} {ks : List Kd} {v0 v1 v2 v3 : Value} (hR : RowT w g0 ks) (hB : Box4 w N v0 v1 v2 v3) (hb : Below w.heap.size w b) : RowT b g0 ks ∧ Box4 b N v0 v1 v2 v3 ∧ Below w.heap.size w b := ⟨hR.below hb, hB.below hb, hb⟩

theorem boxS {w b : World} {N : Nat} {v0 v1 v2 v3 : Value} (hB : Box4 w N v0 v1 v2 v3) (hb : Below w.heap.size w b) : Box4 b N v0 v1 v2 v3 ∧ Below w.heap.size w b := ⟨hB.below hb, hb⟩

end Go.Proofs.YtbjneijgbikcpaaDoor

namespace Go.Proofs.YtbjneijgbikcpaaDoor
open Go.RowKit
set_option linter.unusedVariables false
set_option linter.unusedSimpArgs false

end Go.Proofs.YtbjneijgbikcpaaDoor

namespace Go.Proofs.YtbjneijgbikcpaaDoor
open Go.RowKit
set_option linter.unusedVariables false
set_option linter.unusedSimpArgs false

/-- v is a list of the terms ks. -/
def SlT (w : World) (v : Value) (ks : List Kd) : Prop :=
  (ks = [] ∧ v = .slice none 0 0) ∨ ∃ g c, v = .slice (some ⟨g, 0, none⟩) ks.length c ∧ RowT w g ks

theorem SlT.below {w w' : World} {v : Value} {ks : List Kd} (h : SlT w v ks) (hb : Below w.heap.size w w') : SlT w' v ks := by
  rcases h with h | ⟨g, c, h1, h4⟩
  · exact .inl h
  · exact .inr ⟨g, c, h1, h4.below hb⟩

theorem SlT.len {w : World} {v : Value} {ks : List Kd} (h : SlT w v ks) : ∃ A c, v = .slice A ks.length c ∧ (ks.length = 0 ∨ ∃ g, A = some ⟨g, 0, none⟩ ∧ RowT w g ks) := by
  rcases h with ⟨rfl, rfl⟩ | ⟨g, c, h1, h4⟩
  · exact ⟨none, 0, rfl, .inl rfl⟩
  · exact ⟨_, c, h1, .inr ⟨g, rfl, h4⟩⟩

theorem addOf_sort {L L' : List Kd} {t : Kd} (hL : L.Pairwise (fun j k => ordK j k < 0)) (h : AddOf L t L') :
    L'.Pairwise (fun j k => ordK j k < 0) ∧ (∀ y ∈ L', y = t ∨ y ∈ L) ∧ (∀ y ∈ L, y ∈ L') ∧ (∃ y ∈ L', ordK t y = 0) ∧ L'.length ≤ L.length + 1 := by
  obtain ⟨i, hi, hlt, ⟨h1, h2, rfl⟩ | ⟨h1, rfl⟩⟩ := h
  · refine ⟨hL, fun y hy => .inr hy, fun y hy => hy, ⟨L'.getD i kd0, getD_mem h1, ?_⟩, by omega⟩
    rw [neg_ordK]; omega
  · have hcut := List.take_append_drop i L
    have hP := hL
    rw [← hcut, List.pairwise_append] at hP
    obtain ⟨p1, p2, p3⟩ := hP
    have hge : ∀ y ∈ L.drop i, ordK t y < 0 := by
      intro y hy
      rcases h1 with h1 | h1
      · rw [h1, List.drop_length] at hy; cases hy
      · rcases Nat.lt_or_ge i L.length with hil | hil
        · have e : L.getD i kd0 = L[i] := by simp [List.getD, List.getElem?_eq_getElem hil]
          rw [e, neg_ordK] at h1
          rw [List.drop_eq_getElem_cons hil] at hy p2
          rcases List.mem_cons.1 hy with rfl | hy
          · omega
          · have := (List.pairwise_cons.1 p2).1 y hy
            have tt := tri_ordK t L[i] y
            unfold Tri at tt; omega
        · rw [List.drop_of_length_le hil] at hy; cases hy
    have hle : ∀ x ∈ L.take i, ordK x t < 0 := by
      intro x hx
      obtain ⟨j, hj, rfl⟩ := List.getElem_of_mem hx
      simp only [List.length_take] at hj
      have := hlt j (by omega)
      rw [List.getElem_take]
      simpa [List.getD, List.getElem?_eq_getElem (show j < L.length by omega)] using this
    refine ⟨?_, fun y hy => ?_, fun y hy => ?_, ⟨t, by simp, ordK_self t⟩, by simp; omega⟩
    · rw [List.pairwise_append]
      refine ⟨p1, List.pairwise_cons.2 ⟨hge, p2⟩, fun x hx y hy => ?_⟩
      rcases List.mem_cons.1 hy with rfl | hy
      · exact hle x hx
      · exact p3 x hx y hy
    · rcases List.mem_append.1 hy with hy | hy
      · exact .inr (List.mem_of_mem_take hy)
      · rcases List.mem_cons.1 hy with hy | hy
        · exact .inl hy
        · exact .inr (List.mem_of_mem_drop hy)
    · rw [← hcut] at hy
      rcases List.mem_append.1 hy with hy | hy
      · exact List.mem_append.2 (.inl hy)
      · exact List.mem_append.2 (.inr (List.mem_cons_of_mem _ hy))

theorem sortOf_step {ks L L' : List Kd} {n : Nat} (hn : n < ks.length) (h : SortOf (ks.take n) L) (ha : AddOf L (ks.getD n kd0) L') : SortOf (ks.take (n + 1)) L' := by
  obtain ⟨h1, h2, h3⟩ := h
  obtain ⟨a1, a2, a3, a4, _⟩ := addOf_sort h1 ha
  have e : ks.take (n + 1) = ks.take n ++ [ks.getD n kd0] := by rw [List.take_succ_eq_append_getElem hn]; simp [List.getD, List.getElem?_eq_getElem hn]
  refine ⟨a1, fun y hy => ?_, fun x hx => ?_⟩
  · rw [e]
    rcases a2 y hy with rfl | hy
    · simp
    · exact List.mem_append.2 (.inl (h2 y hy))
  · rw [e] at hx
    rcases List.mem_append.1 hx with hx | hx
    · obtain ⟨y, hy, e⟩ := h3 x hx
      exact ⟨y, a3 y hy, e⟩
    · simp at hx; subst hx; exact a4

/-- A list that is nil where it is empty. -/
def SlN (w : World) (v : Value) (ks : List Kd) : Prop := (ks = [] ∧ v = .slice none 0 0) ∨ ∃ g c, v = .slice (some ⟨g, 0, none⟩) ks.length c ∧ 0 < ks.length ∧ ks.length ≤ c ∧ c ≤ 9223372036854775807 ∧ RowT w g ks

theorem SlN.below {w w' : World} {v : Value} {ks : List Kd} (h : SlN w v ks) (hb : Below w.heap.size w w') : SlN w' v ks := by
  rcases h with h | ⟨g, c, h1, h2, h3, h4, h5⟩
  · exact .inl h
  · exact .inr ⟨g, c, h1, h2, h3, h4, h5.below hb⟩
theorem SlN.sl {w : World} {v : Value} {ks : List Kd} (h : SlN w v ks) : SlT w v ks := by
  rcases h with h | ⟨g, c, h1, h2, h3, h4, h5⟩
  · exact .inl h
  · exact .inr ⟨g, c, h1, h5⟩

def SortRel (w : World) (ks : List Kd) (kv iv : Value) (wr : World) : Prop :=
  ∃ (n : Nat) (L : List Kd), iv = .int .i64 (n : Int) ∧ n ≤ ks.length ∧ L.length ≤ n ∧ SortOf (ks.take n) L ∧ SlN wr kv L ∧ Below w.heap.size w wr

def SortEnd (w : World) (ks : List Kd) (e : Ending) (w' : World) : Prop := ∃ (L : List Kd) (u : Value), e = .returned u ∧ SortOf ks L ∧ SlN w' u L ∧ L.length ≤ ks.length ∧ Below w.heap.size w w'

theorem AddOf.pos {L L' : List Kd} {t : Kd} (h : AddOf L t L') : L'.length ≠ 0 := by
  obtain ⟨i, hi, hlt, ⟨h1, h2, rfl⟩ | ⟨h1, rfl⟩⟩ := h
  · omega
  · simp

end Go.Proofs.YtbjneijgbikcpaaDoor
