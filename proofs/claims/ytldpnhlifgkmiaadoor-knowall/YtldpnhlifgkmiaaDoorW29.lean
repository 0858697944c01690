import Derived.Test.YtldpnhlifgkmiaaDoorW16
import Derived.Test.YtldpnhlifgkmiaaDoorW25
import Derived.Test.YtldpnhlifgkmiaaDoorA1
import Derived.Deep.RegionHeld3
namespace Go.Proofs.YtldpnhlifgkmiaaDoor
open Go.RowKit
set_option linter.unusedVariables false
set_option linter.unusedSimpArgs false

/-- A row of terms in block g. -/
def RowT (w : World) (g : Nat) (ks : List Kd) : Prop :=
  g < w.heap.size ∧ (∀ t, t < 4 * ks.length → w.cell? ⟨g, t, none⟩ = (rowOf ks)[t]?) ∧ ∀ k ∈ ks, k.Ok w (fun b => b < w.heap.size) ∧ k.Ar

theorem Kd.Ok.below {w w' : World} {k : Kd} (h : k.Ok w (fun b => b < w.heap.size)) (hb : Below w.heap.size w w') : k.Ok w' (fun b => b < w'.heap.size) :=
  h.keep (fun b hb' => Nat.lt_of_lt_of_le hb' hb.size) (fun b o hb' => hb.cell hb')

theorem RowT.below {w w' : World} {g : Nat} {ks : List Kd} (h : RowT w g ks) (hb : Below w.heap.size w w') : RowT w' g ks :=
  ⟨Nat.lt_of_lt_of_le h.1 hb.size, fun t ht => by rw [hb.cell h.1]; exact h.2.1 t ht, fun k hk => ⟨(h.2.2 k hk).1.below hb, (h.2.2 k hk).2⟩⟩

theorem RowAt.toT {w : World} {g : Nat} {ks : List Kd} (h : RowAt w g ks) : RowT w g ks :=
  ⟨h.1, fun t ht => (h.2.1 t ht).1, fun k hk => ⟨(h.2.2 k hk).1.keep (fun b hb => hb.1) (fun _ _ _ => rfl), (h.2.2 k hk).2⟩⟩

theorem RowT.at {w : World} {g : Nat} {ks : List Kd} (h : RowT w g ks) (m : Nat) (hm : m < ks.length) :
    w.cell? ⟨g, m * 4, none⟩ = some (.int .i64 (ks.getD m kd0).a.kind) ∧ w.cell? ⟨g, m * 4 + 1, none⟩ = some (.int .i64 (ks.getD m kd0).a.n) ∧ w.cell? ⟨g, m * 4 + 2, none⟩ = some (.string (ks.getD m kd0).a.s) ∧
      w.cell? ⟨g, m * 4 + 3, none⟩ = some (.slice (ks.getD m kd0).A (flen (ks.getD m kd0).l) (ks.getD m kd0).cap) := by
  have c : ∀ j, j < 4 → w.cell? ⟨g, m * 4 + j, none⟩ = (ks.getD m kd0).cells[j]? := fun j hj => by
    rw [h.2.1 (m * 4 + j) (by omega), rowOf_get, show (m * 4 + j) / 4 = m from by omega, show (m * 4 + j) % 4 = j from by omega]
    simp [List.getD, List.getElem?_eq_getElem hm]
  exact ⟨c 0 (by omega), c 1 (by omega), c 2 (by omega), c 3 (by omega)⟩

theorem RowT.ok {w : World} {g : Nat} {ks : List Kd} (h : RowT w g ks) (m : Nat) (hm : m < ks.length) : (ks.getD m kd0).Ok w (fun b => b < w.heap.size) ∧ (ks.getD m kd0).Ar :=
  h.2.2 _ (by simp [List.getD, List.getElem?_eq_getElem hm])

/-- A term as a value. -/
abbrev Kd.val (k : Kd) : Value := .agg #[.int .i64 k.a.kind, .int .i64 k.a.n, .string k.a.s, .slice k.A (flen k.l) k.cap]

theorem Kd.rep {w : World} {k : Kd} (h : k.Ok w (fun b => b < w.heap.size)) : RepV w w.heap.size k.a k.l k.val :=
  ⟨h.1, k.A, k.cap, k.b, k.o, rfl, h.2.1, h.2.2.1, RepG.toF (fun _ h => h) h.2.2.2⟩

theorem refLessK {w : World} {j k : Kd} (hj : j.Ok w (fun b => b < w.heap.size) ∧ j.Ar) (hk : k.Ok w (fun b => b < w.heap.size) ∧ k.Ar) :
    Calls Tryd.prog 49 #[j.val, k.val] w fun e w' => e = .returned (.bool (decide (ordK j k < 0))) ∧ Below w.heap.size w w' :=
  refLess_any _ _ _ _ _ _ w.heap.size w (Kd.rep hj.1) (Kd.rep hk.1) (Nat.le_refl _) hj.2.1 hk.2.1 hj.2.2 hk.2.2

theorem refSameK {w : World} {j k : Kd} (hj : j.Ok w (fun b => b < w.heap.size) ∧ j.Ar) (hk : k.Ok w (fun b => b < w.heap.size) ∧ k.Ar) :
    Calls Tryd.prog 28 #[j.val, k.val] w fun e w' => e = .returned (.bool (ordK j k == 0)) ∧ Below w.heap.size w w' :=
  refSame_any _ _ _ _ _ _ w.heap.size w (Kd.rep hj.1) (Kd.rep hk.1) (Nat.le_refl _) hj.2.1 hk.2.1 hj.2.2 hk.2.2

theorem rowOf_one : ∀ ks : List Kd, ∀ u ∈ rowOf ks, u.oneCell' = true
  | [], u, h => by simp [rowOf] at h
  | k :: r, u, h => by
    simp only [rowOf, List.mem_append] at h
    rcases h with h | h
    · simp [Kd.cells] at h; rcases h with rfl | rfl | rfl | rfl <;> rfl
    · exact rowOf_one r u h

theorem RowT.src {w : World} {g : Nat} {ks : List Kd} (h : RowT w g ks) (a m : Nat) (hm : a + m ≤ ks.length) : SrcAt w 4 (some ⟨g, a * 4, none⟩) m (rowOf ((ks.drop a).take m)) := by
  refine .inr ⟨_, rfl, by rw [rowOf_length]; simp; omega, fun j u hu => ?_, fun u hu => rowOf_one _ u hu⟩
  have hj : j < 4 * m := by have := (List.getElem?_eq_some_iff.1 hu).1; rw [rowOf_length] at this; simp at this; omega
  have ea : (⟨g, a * 4, none⟩ : Addr).add j = ⟨g, a * 4 + j, none⟩ := by cases j <;> simp [Addr.add]
  rw [ea, h.2.1 (a * 4 + j) (by omega), rowOf_get, show (a * 4 + j) / 4 = a + j / 4 from by omega, show (a * 4 + j) % 4 = j % 4 from by omega]
  rw [rowOf_get, List.getElem?_take, if_pos (by omega), List.getElem?_drop] at hu
  exact hu

theorem RowT.src_tail {w : World} {g : Nat} {ks : List Kd} (h : RowT w g ks) {k cap : Nat} (hk : k ≤ ks.length) (hc : ks.length ≤ cap) :
    SrcAt w 4 (if cap = k then some ⟨g, 0, none⟩ else some ⟨g, k * 4, none⟩) (ks.length - k) (rowOf ((ks.drop k).take (ks.length - k))) := by
  split
  · obtain rfl : k = ks.length := by omega
    exact .inl ⟨by omega, by simp [rowOf]⟩
  · exact h.src k _ (by omega)

/-- A term put where it belongs, once. -/
def AddOf (ks : List Kd) (t : Kd) (ys : List Kd) : Prop :=
  ∃ i, i ≤ ks.length ∧ (∀ j, j < i → ordK (ks.getD j kd0) t < 0) ∧ ((i < ks.length ∧ ordK (ks.getD i kd0) t = 0 ∧ ys = ks) ∨ ((i = ks.length ∨ 0 < ordK (ks.getD i kd0) t) ∧ ys = ks.take i ++ t :: ks.drop i))

def AddEnd (w : World) (ks : List Kd) (t : Kd) (g0 : Nat) (e : Ending) (w' : World) : Prop :=
  ∃ (ys : List Kd) (g c : Nat), AddOf ks t ys ∧ e = .returned (.slice (some ⟨g, 0, none⟩) ys.length c) ∧ ys.length ≤ c ∧ c ≤ 9223372036854775807 ∧ Below w.heap.size w w' ∧ (g = g0 ∨ w.heap.size ≤ g) ∧ RowT w' g ys

theorem add_done {w w1 w8 : World} {ks : List Kd} {t : Kd} {g0 k m : Nat} {v8 : Value} {P1 P2 : List Value} (hk : k ≤ ks.length) (hm : m = ks.length - k) (hlt : ∀ j, j < k → ordK (ks.getD j kd0) t < 0) (hend : k = ks.length ∨ 0 < ordK (ks.getD k kd0) t)
    (h1 : P1 = rowOf ((ks.drop 0).take k)) (h2 : P2 = rowOf ((ks.drop k).take (ks.length - k))) (hown : w8.ownsRow w1.heap.size 29 4 v8 (k + 1 + m) ((P1 ++ t.cells) ++ P2))
    (hb1 : Below w.heap.size w w1) (hb : Below w1.heap.size w1 w8) (hok : ∀ k ∈ ks, k.Ok w1 (fun b => b < w1.heap.size) ∧ k.Ar) (ht : t.Ok w1 (fun b => b < w1.heap.size) ∧ t.Ar) :
    AddEnd w ks t g0 (.returned v8) w8 := by
  subst hm
  have hlen : (ks.take k ++ t :: ks.drop k).length = k + 1 + (ks.length - k) := by simp; omega
  have hxs : (P1 ++ t.cells) ++ P2 = rowOf (ks.take k ++ t :: ks.drop k) := by
    rw [h1, h2, List.drop_zero, List.take_of_length_le (l := ks.drop k) (by simp), rowOf_append, rowOf]; simp
  rw [hxs] at hown
  have hcap : ∃ g cap, v8 = .slice (some ⟨g, 0, none⟩) (k + 1 + (ks.length - k)) cap ∧ w1.heap.size ≤ g ∧ k + 1 + (ks.length - k) ≤ cap ∧ cap ≤ maxLen := by
    rcases hown.2 with ⟨_, h0⟩ | ⟨g, cap, cur, h3, h4, _, h5, h6, _⟩
    · omega
    · exact ⟨g, cap, h3, h4, h5, h6⟩
  obtain ⟨g, cap, rfl, hg, hc1, hc2⟩ := hcap
  have hg8 := (hown.lt g rfl).2
  refine ⟨ks.take k ++ t :: ks.drop k, g, cap, ⟨k, hk, hlt, .inr ⟨hend, rfl⟩⟩, by rw [hlen], by omega, by unfold maxLen at hc2; omega, hb1.trans (hb.mono hb1.size), .inr (by have := hb1.size; omega), hg8, fun j hj => ?_, fun q hq => ?_⟩
  · exact hown.cellAt j (by omega)
  · have hq' : q = t ∨ q ∈ ks := by
      rcases List.mem_append.1 hq with h | h
      · exact .inr (List.mem_of_mem_take h)
      · rcases List.mem_cons.1 h with h | h
        · exact .inl h
        · exact .inr (List.mem_of_mem_drop h)
    rcases hq' with rfl | h
    · exact ⟨ht.1.below hb, ht.2⟩
    · exact ⟨(hok q h).1.below hb, (hok q h).2⟩

theorem grown_belowT {w a b : World} {row : Option Nat} (h : Below w.heap.size w a) (hg : a.grownBy b row) (hrow : ∀ q, row = some q → w.heap.size ≤ q) : Below w.heap.size w b := by
  have hs := h.size
  exact h.trans ⟨hg.os, hg.tape, hg.output, hg.size, fun q hq => hg.block q (by omega) (fun e => by have := hrow q e.symm; omega)⟩

theorem tailS {w b : World} {g0 N : Nat} {ks : List Kd} {v0 v1 v2 v3 : Value} (hR : RowT w g0 ks) (hB : Box4 w N v0 v1 v2 v3) (hb : Below w.heap.size w b) : RowT b g0 ks ∧ Box4 b N v0 v1 v2 v3 ∧ Below w.heap.size w b := ⟨hR.below hb, hB.below hb, hb⟩

theorem boxS {w b : World} {N : Nat} {v0 v1 v2 v3 : Value} (hB : Box4 w N v0 v1 v2 v3) (hb : Below w.heap.size w b) : Box4 b N v0 v1 v2 v3 ∧ Below w.heap.size w b := ⟨hB.below hb, hb⟩

end Go.Proofs.YtldpnhlifgkmiaaDoor
