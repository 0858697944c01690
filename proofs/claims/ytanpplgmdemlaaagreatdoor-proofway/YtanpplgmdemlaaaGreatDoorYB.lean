import Derived.Test.YtanpplgmdemlaaaGreatDoorY3
import Derived.Test.YtanpplgmdemlaaaGreatDoorY4
import Derived.Test.YtanpplgmdemlaaaGreatDoorY5
import Derived.Deep.RegionLaw
namespace Go.Proofs.YtanpplgmdemlaaaGreatDoor
open Go.RowKit
set_option linter.unusedVariables false
set_option linter.unusedSimpArgs false

theorem refOne4_any (w : World) (R : Nat) (lv ov : Value) (ks js : List Kd) (Q : Nat → Prop) (m : Mv) (h : OneSt w R lv ov ks js Q) (hl : ks.length ≤ 2000) (hj : js.length ≤ 2000) (hs : m.s.size ≤ maxLen) :
    Calls Tryz.prog 50 #[.pointer (some ⟨R, 0, none⟩), .agg #[.int .i64 m.kind, .int .i64 m.a, .int .i64 m.b, .string m.s]] w fun e w' => OneEnd4 w (tms ks) (tms js) m Q e w' := by
  obtain ⟨k, x, y, s⟩ := m
  by_cases hk : k < 1 ∨ 10 < k
  · exact one_bad w R ks js Q k x y s hk hs
  · obtain rfl | rfl | rfl | rfl | rfl | rfl | rfl | rfl | rfl | rfl : k = 1 ∨ k = 2 ∨ k = 3 ∨ k = 4 ∨ k = 5 ∨ k = 6 ∨ k = 7 ∨ k = 8 ∨ k = 9 ∨ k = 10 := by omega
    · exact one_1 w R lv ov ks js Q x y s h hl hj hs
    · exact one_2 w R lv ov ks js Q x y s h hl hj hs
    · exact one_3 w R lv ov ks js Q x y s h hl hj hs
    · exact one_4 w R lv ov ks js Q x y s h hl hj hs
    · exact one_5 w R lv ov ks js Q x y s h hl hj hs
    · exact one_6 w R lv ov ks js Q x y s h hl hj hs
    · exact one_7 w R lv ov ks js Q x y s h hl hj hs
    · exact one_8 w R lv ov ks js Q x y s h hl hj hs
    · exact one_9 w R lv ov ks js Q x y s h hl hj hs
    · exact one_10 w R lv ov ks js Q x y s h hl hj hs

/-- What ref4.Run's box holds: what is known, and the results so far, in a row of its own. -/
def RefAt (w : World) (R : Nat) (lv ov : Value) (js : List Kd) : Prop :=
  R < w.heap.size ∧ w.cell? ⟨R, 0, none⟩ = some lv ∧ w.cell? ⟨R, 1, none⟩ = some ov ∧ w.frozen? ⟨R, 1, none⟩ = false ∧ w.ownsRow (R + 1) 27 4 ov js.length (rowOf js) ∧
  ∀ k ∈ js, k.Ok w (fun b => b ≠ R ∧ b < w.heap.size ∧ ov.ownBlock ≠ some b) ∧ may k.a k.l = true

theorem RefAt.sl {w : World} {R : Nat} {lv ov : Value} {js : List Kd} (h : RefAt w R lv ov js) : SlT w ov js := by
  obtain ⟨h0, h1, h2, h3, h4, h5⟩ := h
  rcases h4.2 with ⟨e1, e2⟩ | ⟨g, cap, cur, e3, _⟩
  · exact .inl ⟨List.eq_nil_of_length_eq_zero e2, e1⟩
  · rw [e3] at h4
    exact .inr ⟨g, cap, e3, (h4.lt g rfl).2, fun t ht => h4.cellAt t (by omega), fun k hk => ⟨(h5 k hk).1.keep (fun b hb => hb.2.1) (fun _ _ _ => rfl), may_ar _ _ (h5 k hk).2⟩⟩

theorem RefAt.one {w0 w : World} {R : Nat} {lv ov : Value} {ks js : List Kd} (h : RefAt w R lv ov js) (hR : R = w0.heap.size) (hb : Below w0.heap.size w0 w) (hs : SlT w0 lv ks) (hm : ∀ k ∈ ks, may k.a k.l = true) : OneSt w R lv ov ks js (fun b => b ≠ R ∧ b < w.heap.size ∧ ov.ownBlock ≠ some b) := by
  refine ⟨h.1, h.2.1, h.2.2.1, hs.below hb, h.sl, fun k hk => ⟨?_, hm k hk⟩, h.2.2.2.2.2, fun b hq => hq.2.1⟩
  refine (hs.oks k hk).1.keep (fun b hq => ⟨by omega, by have := hb.size; omega, fun e => by have := h.2.2.2.2.1.lt b e; omega⟩) (fun b o hq => hb.cell (by simpa using hq))

def RefRel (w : World) (us : List (Nd × Fo)) (ms : List Mv) (lv iv : Value) (wr : World) : Prop :=
  ∃ (n : Nat) (js : List Kd) (ov : Value), iv = .int .i64 (n : Int) ∧ n ≤ ms.length ∧ js.length = n ∧ RefAt wr w.heap.size lv ov js ∧ Below w.heap.size w wr ∧ runS us [] (ms.take n) = .ok (tms js)

theorem RefAt.len {w : World} {R : Nat} {lv ov : Value} {js : List Kd} (h : RefAt w R lv ov js) : ∃ A c, ov = .slice A js.length c := by
  rcases h.2.2.2.2.1.2 with ⟨h1, h2⟩ | ⟨g, cap, cur, h1, _⟩
  · exact ⟨none, 0, by rw [h1, h2]⟩
  · exact ⟨_, cap, h1⟩

/-- The end of ref4.Run: as proof.Run's, but the terms lie where they lay. -/
def RefEnd (w : World) (us : List (Nd × Fo)) (ms : List Mv) (e : Ending) (w' : World) : Prop :=
  Below w.heap.size w w' ∧ ((∃ z, runP us ms = .error z ∧ z ≠ 0 ∧ e = .returned (.tuple #[.slice none 0 0, .int .i64 z])) ∨ ∃ (js : List Kd) (v : Value), runP us ms = .ok (tms js) ∧ e = .returned (.tuple #[v, .int .i64 0]) ∧ SlT w' v js ∧ (∀ k ∈ js, may k.a k.l = true) ∧ js.length = ms.length)

/-- Behind the append of an empty term: the new row, the box, the term that comes. -/
theorem append_put {w2 w5 : World} {x R : Nat} {OA : Option Addr} {n oc : Nat} {xs : List Value} {lv v5 u0 u1 u2 u3 : Value} (hown : w2.ownsRow (R + 1) 27 4 (.slice OA n oc) n xs) (d0 : w2.cell? ⟨R, 0, none⟩ = some lv) (d1 : w2.cell? ⟨R, 1, none⟩ = some (.slice OA n oc)) (df : w2.frozen? ⟨R, 1, none⟩ = false) (hR : R < w2.heap.size)
    (x0 : x < w2.heap.size) (x1 : w2.cell? ⟨x, 0, none⟩ = some u0) (x2 : w2.cell? ⟨x, 1, none⟩ = some u1) (x3 : w2.cell? ⟨x, 2, none⟩ = some u2) (x4 : w2.cell? ⟨x, 3, none⟩ = some u3) (hxo : (Value.slice OA n oc).ownBlock ≠ some x) (hxR : R < x)
    (hown5 : w5.ownsRow (R + 1) 27 4 v5 (n + 1) (xs ++ [.int .i64 0, .int .i64 0, .string ⟨#[]⟩, .slice none 0 0])) (hgrow5 : (w2.drew.alloc (.cells #[.int .i64 0, .int .i64 0, .string ⟨#[]⟩, .slice none 0 0] 27)).grownBy w5 (Value.slice OA n oc).ownBlock)
    (hat5 : v5.ownBlock = (Value.slice OA n oc).ownBlock ∨ v5.ownBlock = some (w2.drew.alloc (.cells #[.int .i64 0, .int .i64 0, .string ⟨#[]⟩, .slice none 0 0] 27)).heap.size) :
    ∃ g cap5, v5 = .slice (some ⟨g, 0, none⟩) (n + 1) cap5 ∧ (w5.cell? ⟨g, n * 4, none⟩ = some (.int .i64 0) ∧ w5.cell? ⟨g, n * 4 + 1, none⟩ = some (.int .i64 0) ∧ w5.cell? ⟨g, n * 4 + 2, none⟩ = some (.string ⟨#[]⟩) ∧ w5.cell? ⟨g, n * 4 + 3, none⟩ = some (.slice none 0 0) ∧
      w5.frozen? ⟨g, n * 4, none⟩ = false ∧ w5.frozen? ⟨g, n * 4 + 1, none⟩ = false ∧ w5.frozen? ⟨g, n * 4 + 2, none⟩ = false ∧ w5.frozen? ⟨g, n * 4 + 3, none⟩ = false ∧
      w5.cell? ⟨R, 0, none⟩ = some lv ∧ w5.cell? ⟨R, 1, none⟩ = some (.slice OA n oc) ∧ w5.frozen? ⟨R, 1, none⟩ = false ∧ w5.cell? ⟨x, 0, none⟩ = some u0 ∧ w5.cell? ⟨x, 1, none⟩ = some u1 ∧ w5.cell? ⟨x, 2, none⟩ = some u2 ∧ w5.cell? ⟨x, 3, none⟩ = some u3 ∧ g ≠ R ∧ g ≠ x ∧
      Hid (w5.ownsRow (R + 1) 27 4 (.slice (some ⟨g, 0, none⟩) (n + 1) cap5) (n + 1) (xs ++ [.int .i64 0, .int .i64 0, .string ⟨#[]⟩, .slice none 0 0]) ∧ (R + 1 ≤ g ∧ g < w5.heap.size) ∧ w2.heap.size ≤ w5.heap.size ∧ (∀ q, q < w2.heap.size → (Value.slice OA n oc).ownBlock ≠ some q → w5.heap[q]? = w2.heap[q]?) ∧ (w5.os = w2.os ∧ w5.tape = w2.tape ∧ w5.output = w2.output) ∧
        ((Value.slice OA n oc).ownBlock = some g ∨ w2.heap.size ≤ g))) := by
  obtain ⟨g, cap5, rfl, hg4, hg5⟩ : ∃ g cap5, v5 = .slice (some ⟨g, 0, none⟩) (n + 1) cap5 ∧ R + 1 ≤ g ∧ g < w5.heap.size := by
    rcases hown5.2 with ⟨_, h0⟩ | ⟨g, c, cur, h1, h2, _⟩
    · omega
    · exact ⟨g, c, h1, h2, (hown5.lt g (by rw [h1]; rfl)).2⟩
  have hs5 : w2.heap.size + 1 ≤ w5.heap.size := by have := hgrow5.size; simpa using this
  have hblk : ∀ q, q < w2.heap.size → (Value.slice OA n oc).ownBlock ≠ some q → w5.heap[q]? = w2.heap[q]? := fun q hq hv => by
    rw [hgrow5.block q (by simp; omega) (fun e => hv e.symm)]; exact Below.heap_alloc _ _ _ hq
  have hnR : (Value.slice OA n oc).ownBlock ≠ some R := fun e => by have := hown.lt R e; omega
  have hat : (Value.slice OA n oc).ownBlock = some g ∨ w2.heap.size ≤ g := by
    rcases hat5 with h | h
    · exact .inl (by rw [← h]; rfl)
    · exact .inr (by simp [Value.ownBlock] at h; omega)
  have hgx : g ≠ x := by
    rintro rfl
    rcases hat with h | h
    · exact hxo h
    · omega
  have hxl := hown.1
  have hlen : xs.length = n * 4 := by omega
  have kk : ∀ j, j < 4 → w5.cell? ⟨g, n * 4 + j, none⟩ = ([.int .i64 0, .int .i64 0, .string ⟨#[]⟩, .slice none 0 0] : List Value)[j]? := fun j hj => by
    rw [hown5.cellAt _ (by omega), List.getElem?_append_right (by omega), hlen, show n * 4 + j - n * 4 = j from by omega]
  refine ⟨g, cap5, rfl, kk 0 (by omega), kk 1 (by omega), kk 2 (by omega), kk 3 (by omega), hown5.frozenAt _, hown5.frozenAt _, hown5.frozenAt _, hown5.frozenAt _, ?_, ?_, ?_, ?_, ?_, ?_, ?_, by omega, hgx, hown5, ⟨hg4, hg5⟩, by omega, hblk, ⟨hgrow5.os, hgrow5.tape, hgrow5.output⟩, hat⟩
  · exact (World.cell?_of_block (hblk R hR hnR)).trans d0
  · exact (World.cell?_of_block (hblk R hR hnR)).trans d1
  · exact (World.frozen?_of_block (hblk R hR hnR)).trans df
  · exact (World.cell?_of_block (hblk x x0 hxo)).trans x1
  · exact (World.cell?_of_block (hblk x x0 hxo)).trans x2
  · exact (World.cell?_of_block (hblk x x0 hxo)).trans x3
  · exact (World.cell?_of_block (hblk x x0 hxo)).trans x4

/-- What the region leaves: the row with the term, the box's field. -/
structure PutR (R g n cap5 : Nat) (lv : Value) (xs : List Value) (w5 W : World) : Prop where
  os : W.os = w5.os
  tape : W.tape = w5.tape
  output : W.output = w5.output
  size : W.heap.size = w5.heap.size
  block : ∀ q, q ≠ g → q ≠ R → W.heap[q]? = w5.heap[q]?
  c0 : W.cell? ⟨R, 0, none⟩ = some lv
  c1 : W.cell? ⟨R, 1, none⟩ = some (.slice (some ⟨g, 0, none⟩) n cap5)
  f1 : W.frozen? ⟨R, 1, none⟩ = false
  own : W.ownsRow (R + 1) 27 4 (.slice (some ⟨g, 0, none⟩) n cap5) n xs

theorem putR_A {R g n cap5 : Nat} {xs : List Value} {m : Nat} {w5 : World} {u0 u1 u2 u3 v lv : Value} (hx : xs.length = m) (hg : g ≠ R) (m0 : w5.cell? ⟨R, 0, none⟩ = some lv) (m1 : w5.cell? ⟨R, 1, none⟩ = some v) (mf : w5.frozen? ⟨R, 1, none⟩ = false)
    (hown : w5.ownsRow (R + 1) 27 4 (.slice (some ⟨g, 0, none⟩) n cap5) n (xs ++ [.int .i64 0, .int .i64 0, .string ⟨#[]⟩, .slice none 0 0])) :
    PutR R g n cap5 lv (xs ++ [u0, u1, u2, u3]) w5 (((((w5.setCell ⟨g, m, none⟩ u0).setCell ⟨g, m + 1, none⟩ u1).setCell ⟨g, m + 2, none⟩ u2).setCell ⟨g, m + 3, none⟩ u3).setCell ⟨R, 1, none⟩ (.slice (some ⟨g, 0, none⟩) n cap5)) := by
  have h4 := owns_setCell (owns_setCell (owns_setCell (owns_setCell hown (m) u0) (m + 1) u1) (m + 2) u2) (m + 3) u3
  rw [set_last4 _ _ _ _ _ _ _ _ _ _ hx] at h4
  have hB := cell_far4 w5 g (m) u0 u1 u2 u3 ⟨R, 1, none⟩ (Ne.symm hg)
  have hc := (World.cell?_of_block (a := ⟨R, 1, none⟩) hB).trans m1
  have hc0 := (World.cell?_of_block (a := ⟨R, 0, none⟩) hB).trans m0
  generalize hX : (((w5.setCell ⟨g, m, none⟩ u0).setCell ⟨g, m + 1, none⟩ u1).setCell ⟨g, m + 2, none⟩ u2).setCell ⟨g, m + 3, none⟩ u3 = X at *
  have hos : X.os = w5.os ∧ X.tape = w5.tape ∧ X.output = w5.output ∧ X.heap.size = w5.heap.size := by rw [← hX]; exact ⟨rfl, rfl, rfl, by rw [size_setK, size_setK, size_setK, size_setK]⟩
  have hfar : ∀ q, q ≠ g → X.heap[q]? = w5.heap[q]? := fun q h1 => by rw [← hX]; exact cell_far4 w5 g m u0 u1 u2 u3 ⟨q, 0, none⟩ h1
  clear hX
  refine ⟨hos.1, hos.2.1, hos.2.2.1, by rw [size_setK]; exact hos.2.2.2, fun q h1 h2 => ?_, ?_, World.cell?_setCell_same _ _ _ hc, ?_, ownsRow_setCell_below h4 (show R < R + 1 by omega) _⟩
  · rw [Below.heap_setCell _ _ _ _ h2]; exact hfar q h1
  · rw [World.cell?_setCell_other _ _ _ _ (by simp)]; exact hc0
  · rw [World.frozen?_setCell]; exact (World.frozen?_of_block hB).trans mf

theorem putR_B {R g n cap5 : Nat} {xs : List Value} {m : Nat} {w5 : World} {u0 u1 u2 u3 v lv : Value} (hx : xs.length = m) (hg : g ≠ R) (m0 : w5.cell? ⟨R, 0, none⟩ = some lv) (m1 : w5.cell? ⟨R, 1, none⟩ = some v) (mf : w5.frozen? ⟨R, 1, none⟩ = false)
    (hown : w5.ownsRow (R + 1) 27 4 (.slice (some ⟨g, 0, none⟩) n cap5) n (xs ++ [.int .i64 0, .int .i64 0, .string ⟨#[]⟩, .slice none 0 0])) :
    PutR R g n cap5 lv (xs ++ [u0, u1, u2, u3]) w5 (((((w5.setCell ⟨R, 1, none⟩ (.slice (some ⟨g, 0, none⟩) n cap5)).setCell ⟨g, m, none⟩ u0).setCell ⟨g, m + 1, none⟩ u1).setCell ⟨g, m + 2, none⟩ u2).setCell ⟨g, m + 3, none⟩ u3) := by
  have h0 := ownsRow_setCell_below hown (a := ⟨R, 1, none⟩) (show R < R + 1 by omega) (.slice (some ⟨g, 0, none⟩) n cap5)
  have hc1 := World.cell?_setCell_same w5 ⟨R, 1, none⟩ (.slice (some ⟨g, 0, none⟩) n cap5) m1
  have hc0 : (w5.setCell ⟨R, 1, none⟩ (.slice (some ⟨g, 0, none⟩) n cap5)).cell? ⟨R, 0, none⟩ = some lv := by rw [World.cell?_setCell_other _ _ _ _ (by simp)]; exact m0
  have hf0 : (w5.setCell ⟨R, 1, none⟩ (.slice (some ⟨g, 0, none⟩) n cap5)).frozen? ⟨R, 1, none⟩ = false := by rw [World.frozen?_setCell]; exact mf
  have hos0 : (w5.setCell ⟨R, 1, none⟩ (.slice (some ⟨g, 0, none⟩) n cap5)).os = w5.os ∧ (w5.setCell ⟨R, 1, none⟩ (.slice (some ⟨g, 0, none⟩) n cap5)).tape = w5.tape ∧ (w5.setCell ⟨R, 1, none⟩ (.slice (some ⟨g, 0, none⟩) n cap5)).output = w5.output ∧ (w5.setCell ⟨R, 1, none⟩ (.slice (some ⟨g, 0, none⟩) n cap5)).heap.size = w5.heap.size := ⟨rfl, rfl, rfl, size_setK _ _ _⟩
  have hfar0 : ∀ q, q ≠ R → (w5.setCell ⟨R, 1, none⟩ (.slice (some ⟨g, 0, none⟩) n cap5)).heap[q]? = w5.heap[q]? := fun q h2 => Below.heap_setCell _ _ _ _ h2
  generalize w5.setCell ⟨R, 1, none⟩ (.slice (some ⟨g, 0, none⟩) n cap5) = Y at *
  have h4 := owns_setCell (owns_setCell (owns_setCell (owns_setCell h0 m u0) (m + 1) u1) (m + 2) u2) (m + 3) u3
  rw [set_last4 _ _ _ _ _ _ _ _ _ _ hx] at h4
  have hB := cell_far4 Y g m u0 u1 u2 u3 ⟨R, 1, none⟩ (Ne.symm hg)
  have hc := (World.cell?_of_block (a := ⟨R, 1, none⟩) hB).trans hc1
  have hc' := (World.cell?_of_block (a := ⟨R, 0, none⟩) hB).trans hc0
  have hf := (World.frozen?_of_block hB).trans hf0
  have hfar : ∀ q, q ≠ g → ((((Y.setCell ⟨g, m, none⟩ u0).setCell ⟨g, m + 1, none⟩ u1).setCell ⟨g, m + 2, none⟩ u2).setCell ⟨g, m + 3, none⟩ u3).heap[q]? = Y.heap[q]? := fun q h1 => cell_far4 Y g m u0 u1 u2 u3 ⟨q, 0, none⟩ h1
  have hos : ((((Y.setCell ⟨g, m, none⟩ u0).setCell ⟨g, m + 1, none⟩ u1).setCell ⟨g, m + 2, none⟩ u2).setCell ⟨g, m + 3, none⟩ u3).os = Y.os ∧ ((((Y.setCell ⟨g, m, none⟩ u0).setCell ⟨g, m + 1, none⟩ u1).setCell ⟨g, m + 2, none⟩ u2).setCell ⟨g, m + 3, none⟩ u3).tape = Y.tape ∧ ((((Y.setCell ⟨g, m, none⟩ u0).setCell ⟨g, m + 1, none⟩ u1).setCell ⟨g, m + 2, none⟩ u2).setCell ⟨g, m + 3, none⟩ u3).output = Y.output ∧ ((((Y.setCell ⟨g, m, none⟩ u0).setCell ⟨g, m + 1, none⟩ u1).setCell ⟨g, m + 2, none⟩ u2).setCell ⟨g, m + 3, none⟩ u3).heap.size = Y.heap.size := ⟨rfl, rfl, rfl, by rw [size_setK, size_setK, size_setK, size_setK]⟩
  generalize (((Y.setCell ⟨g, m, none⟩ u0).setCell ⟨g, m + 1, none⟩ u1).setCell ⟨g, m + 2, none⟩ u2).setCell ⟨g, m + 3, none⟩ u3 = X at *
  exact ⟨hos.1.trans hos0.1, hos.2.1.trans hos0.2.1, hos.2.2.1.trans hos0.2.2.1, hos.2.2.2.trans hos0.2.2.2, fun q h1 h2 => (hfar q h1).trans (hfar0 q h2), hc', hc, hf, h4⟩

theorem putR_eqA {R g n cap5 : Nat} {xs : List Value} {m : Nat} {w5 W : World} {u0 u1 u2 u3 v lv : Value} (hx : xs.length = m) (hg : g ≠ R) (m0 : w5.cell? ⟨R, 0, none⟩ = some lv) (m1 : w5.cell? ⟨R, 1, none⟩ = some v) (mf : w5.frozen? ⟨R, 1, none⟩ = false)
    (hown : w5.ownsRow (R + 1) 27 4 (.slice (some ⟨g, 0, none⟩) n cap5) n (xs ++ [.int .i64 0, .int .i64 0, .string ⟨#[]⟩, .slice none 0 0]))
    (hW : (((((w5.setCell ⟨g, m, none⟩ u0).setCell ⟨g, m + 1, none⟩ u1).setCell ⟨g, m + 2, none⟩ u2).setCell ⟨g, m + 3, none⟩ u3).setCell ⟨R, 1, none⟩ (.slice (some ⟨g, 0, none⟩) n cap5)) = W) : PutR R g n cap5 lv (xs ++ [u0, u1, u2, u3]) w5 W := by rw [← hW]; exact putR_A hx hg m0 m1 mf hown

theorem putR_eqB {R g n cap5 : Nat} {xs : List Value} {m : Nat} {w5 W : World} {u0 u1 u2 u3 v lv : Value} (hx : xs.length = m) (hg : g ≠ R) (m0 : w5.cell? ⟨R, 0, none⟩ = some lv) (m1 : w5.cell? ⟨R, 1, none⟩ = some v) (mf : w5.frozen? ⟨R, 1, none⟩ = false)
    (hown : w5.ownsRow (R + 1) 27 4 (.slice (some ⟨g, 0, none⟩) n cap5) n (xs ++ [.int .i64 0, .int .i64 0, .string ⟨#[]⟩, .slice none 0 0]))
    (hW : (((((w5.setCell ⟨R, 1, none⟩ (.slice (some ⟨g, 0, none⟩) n cap5)).setCell ⟨g, m, none⟩ u0).setCell ⟨g, m + 1, none⟩ u1).setCell ⟨g, m + 2, none⟩ u2).setCell ⟨g, m + 3, none⟩ u3) = W) : PutR R g n cap5 lv (xs ++ [u0, u1, u2, u3]) w5 W := by rw [← hW]; exact putR_B hx hg m0 m1 mf hown

/-- The box behind it. -/
theorem ref_put {w wr w1 w2 w5 W : World} {g cap5 oc : Nat} {OA : Option Addr} {lv : Value} {js : List Kd} {k : Kd} (hra : RefAt wr w.heap.size lv (.slice OA js.length oc) js) (hbl : Below w.heap.size w wr) (hb1 : Below wr.heap.size wr w1) (hb2 : Below w1.heap.size w1 w2)
    (hok : k.Ok w1 (fun b => (b ≠ w.heap.size ∧ b < wr.heap.size ∧ (Value.slice OA js.length oc).ownBlock ≠ some b) ∨ (wr.heap.size ≤ b ∧ b < w1.heap.size))) (hmk : may k.a k.l = true)
    (hg : w.heap.size + 1 ≤ g ∧ g < w5.heap.size) (hs5 : w2.heap.size ≤ w5.heap.size) (hblk : ∀ q, q < w2.heap.size → (Value.slice OA js.length oc).ownBlock ≠ some q → w5.heap[q]? = w2.heap[q]?) (hos : w5.os = w2.os ∧ w5.tape = w2.tape ∧ w5.output = w2.output)
    (hat : (Value.slice OA js.length oc).ownBlock = some g ∨ w2.heap.size ≤ g) (hP : PutR w.heap.size g (js.length + 1) cap5 lv (rowOf js ++ k.cells) w5 W) :
    RefAt W w.heap.size lv (.slice (some ⟨g, 0, none⟩) (js.length + 1) cap5) (js ++ [k]) ∧ Below w.heap.size w W := by
  have hs0 := hbl.size
  have hs1 := hb1.size
  have hs2 := hb2.size
  obtain ⟨r0, r1, r2, r3, r4, r5⟩ := hra
  have hvl := r4.lt
  have far : ∀ q, q < w2.heap.size → q ≠ w.heap.size → (Value.slice OA js.length oc).ownBlock ≠ some q → W.heap[q]? = w2.heap[q]? := fun q h1 h2 h3 => by
    rw [hP.block q ?_ h2, hblk q h1 h3]
    rintro rfl
    rcases hat with h | h
    · exact h3 h
    · omega
  have hgo : ∀ b, b < w2.heap.size → (Value.slice OA js.length oc).ownBlock ≠ some b → (Value.slice (some ⟨g, 0, none⟩) (js.length + 1) cap5).ownBlock ≠ some b := fun b h1 h2 e => by
    simp [Value.ownBlock] at e
    subst e
    rcases hat with h | h
    · exact h2 h
    · omega
  have hb2r : Below wr.heap.size wr w2 := hb1.trans (hb2.mono hs1)
  refine ⟨⟨by rw [hP.size]; omega, hP.c0, hP.c1, hP.f1, ?_, fun k' hk' => ?_⟩, ?_⟩
  · rw [rowOf_append, List.length_append]
    have := hP.own
    simpa [rowOf] using this
  · rcases List.mem_append.1 hk' with h | h
    · refine ⟨(r5 k' h).1.keep (fun b hb => ⟨hb.1, by rw [hP.size]; have := hb.2.1; omega, hgo b (by have := hb.2.1; omega) hb.2.2⟩) (fun b o hb => ?_), (r5 k' h).2⟩
      exact (World.cell?_of_block (far b (by have := hb.2.1; omega) hb.1 hb.2.2)).trans (hb2r.cell (by simpa using hb.2.1))
    · simp only [List.mem_singleton] at h
      subst h
      have all : ∀ b, ((b ≠ w.heap.size ∧ b < wr.heap.size ∧ (Value.slice OA js.length oc).ownBlock ≠ some b) ∨ (wr.heap.size ≤ b ∧ b < w1.heap.size)) → b ≠ w.heap.size ∧ b < w1.heap.size ∧ (Value.slice OA js.length oc).ownBlock ≠ some b := fun b hb => by
        rcases hb with ⟨h1, h2, h3⟩ | ⟨h1, h2⟩
        · exact ⟨h1, by omega, h3⟩
        · exact ⟨by omega, h2, fun e => by have := hvl b e; omega⟩
      refine ⟨hok.keep (fun b hb => ?_) (fun b o hb => ?_), hmk⟩
      · obtain ⟨h1, h2, h3⟩ := all b hb
        exact ⟨h1, by rw [hP.size]; omega, hgo b (by omega) h3⟩
      · obtain ⟨h1, h2, h3⟩ := all b hb
        exact (World.cell?_of_block (far b (by omega) h1 h3)).trans (hb2.cell (by simpa using h2))
  · have hbw : Below w.heap.size w w2 := hbl.trans (hb2r.mono hs0)
    refine hbw.trans ⟨hP.os.trans hos.1, hP.tape.trans hos.2.1, hP.output.trans hos.2.2, by rw [hP.size]; exact hs5, fun q hq => ?_⟩
    exact far q (by omega) (by omega) (fun e => by have := hvl q e; omega)

end Go.Proofs.YtanpplgmdemlaaaGreatDoor

namespace Go.Proofs.YtanpplgmdemlaaaGreatDoor
open Go.RowKit
set_option linter.unusedVariables false
set_option linter.unusedSimpArgs false

set_option maxRecDepth 100000 in
set_option maxHeartbeats 4000000 in
theorem refRun_any (ks : List Kd) (lv : Value) (ms : List Mv) (MA : Option Addr) (mc B : Nat) (w : World) (h : SlT w lv ks) (hl : ks.length ≤ 2000) (hm : ∀ k ∈ ks, may k.a k.l = true) (hB : B ≤ w.heap.size) (hms : MvsAt w B ms MA) (hml : ms.length ≤ 9223372036854775807) (hs : ∀ m ∈ ms, m.s.size ≤ maxLen) :
    Calls Tryz.prog 25 #[lv, .slice MA ms.length mc] w fun e w' => RefEnd w (tms ks) ms e w' := by
  have HSL : Hid (SlT w lv ks) := h
  have HM : Hid (∀ k ∈ ks, may k.a k.l = true) := hm
  have HMS : Hid (MvsAt w B ms MA) := hms
  have HSS : Hid (∀ m ∈ ms, m.s.size ≤ maxLen) := hs
  obtain ⟨LA, lc, rfl, _⟩ := h.len
  clear h hm hms hs
  obtain ⟨i5, hi, hz0, hz1, hz2⟩ := info_get Tryz.infoTerm
  go_enter Tryz.func25, Tryz.ntmps25
  by_cases hbig : 1024 < ms.length
  · have hd : decide ((1024 : Int) < (ms.length : Int)) = true := by simp; omega
    have HE : Hid (runP (tms ks) ms = .error 7) := by show runP _ _ = _; unfold runP; rw [if_pos hbig]
    clear hbig
    go_wp2_with fail
    refine bodyPost_ret (v := .tuple #[.slice none 0 0, .int .i64 7]) (by simp [results, Tryz.results25]) rfl ?_
    exact ⟨Below.refl _ _, .inl ⟨7, HE.out, by decide, rfl⟩⟩
  · have hd : decide ((1024 : Int) < (ms.length : Int)) = false := by simp; omega
    have HRP : Hid (runP (tms ks) ms = runS (tms ks) [] ms) := by show runP _ _ = _; unfold runP; rw [if_neg hbig]
    go_wp2_with fail
    go_loopw [7] (fun iv wr => RefRel w (tms ks) ms (.slice LA ks.length lc) iv wr) (fun iv _ => ms.length - (intOf iv).toNat)
    case atStart => exact ⟨0, [], .slice none 0 0, rfl, by omega, rfl, ⟨by simp, by simp [go_sem], by simp [go_sem], by simp [go_sem], World.ownsRow_nil _ _ _ _, by simp⟩, Below.alloc (Below.refl _ _) (Nat.le_refl _) _, by simp [runS, tms]⟩
    case round =>
      obtain ⟨n, js, ov, rfl, hn, hjn, hra, hbl, hrun⟩ := hrel
      obtain ⟨OA, oc, rfl⟩ := hra.len
      have HRA : Hid (RefAt wr w.heap.size (.slice LA ks.length lc) (.slice OA js.length oc) js) := hra
      have HRUN : Hid (runS (tms ks) [] (ms.take n) = .ok (tms js)) := hrun
      have hsr := hbl.size
      have HJN : Hid (js.length = n) := hjn
      have hjl : js.length ≤ 1024 := by omega
      have HON : Hid (OneSt wr w.heap.size (.slice LA ks.length lc) (.slice OA js.length oc) ks js (fun b => b ≠ w.heap.size ∧ b < wr.heap.size ∧ (Value.slice OA js.length oc).ownBlock ≠ some b)) := hra.one rfl hbl HSL.out HM.out
      obtain ⟨a0, a1, a2, a3, a4, a5⟩ := hra
      clear hrun hjn a4 a5
      by_cases hlt : n < ms.length
      · obtain ⟨mb, mo, rfl, hmb, hcm⟩ : ∃ mb mo, MA = some ⟨mb, mo, none⟩ ∧ mb < B ∧ ∀ i, i < ms.length → w.cell? ⟨mb, mo + i * 4, none⟩ = some (.int .i64 (ms.getD i mv0).kind) ∧ w.cell? ⟨mb, mo + i * 4 + 1, none⟩ = some (.int .i64 (ms.getD i mv0).a) ∧ w.cell? ⟨mb, mo + i * 4 + 2, none⟩ = some (.int .i64 (ms.getD i mv0).b) ∧ w.cell? ⟨mb, mo + i * 4 + 3, none⟩ = some (.string (ms.getD i mv0).s) := by
          rcases HMS.out with h | h
          · rw [h] at hlt; simp at hlt
          · exact h
        obtain ⟨c0, c1, c2, c3⟩ := hcm n hlt
        have hcl : ∀ j, wr.cell? ⟨mb, j, none⟩ = w.cell? ⟨mb, j, none⟩ := fun j => hbl.cell (by simp; omega)
        rw [← hcl] at c0 c1 c2 c3
        have hss := HSS.out (ms.getD n mv0) (by simp [List.getD, List.getElem?_eq_getElem hlt])
        generalize hm0 : ms.getD n mv0 = m at *
        have HM0 : Hid (ms.getD n mv0 = m) := hm0
        clear hcm hcl hm0
        have hni : (n : Int) < (ms.length : Int) := by omega
        have hn0 : (0 : Int) ≤ (n : Int) := by omega
        have hmw : mb < wr.heap.size := by omega
        go_wp2_with fail
        refine (refOne4_any _ w.heap.size _ _ ks js _ m HON.out hl (by omega) hss).mono ?_
        rintro e w1 ⟨hb1, ⟨z, hst, hz, rfl⟩ | ⟨k, hst, rfl, hok⟩⟩
        · have HE : Hid (runP (tms ks) ms = .error z) := by show runP _ _ = _; rw [HRP.out]; exact run_take_err hlt HM0.out HRUN.out (by unfold stepP; rw [hst]; rfl)
          have hzne : (z != 0) = true := by simp [hz]
          have hzeq : (z == 0) = false := by simp [hz]
          have HZ : Hid (z ≠ 0) := hz
          have hb1w : Below w.heap.size w w1 := hbl.trans (hb1.mono hsr)
          clear hst hz
          go_wp2_with fail
          refine bodyPost_ret (v := .tuple #[.slice none 0 0, .int .i64 z]) (by simp [results, Tryz.results25]) rfl ?_
          exact ⟨Below.alloc hb1w hb1w.size _, .inl ⟨z, HE.out, HZ.out, rfl⟩⟩
        · have HOK : Hid (k.Ok w1 (fun b => (b ≠ w.heap.size ∧ b < wr.heap.size ∧ (Value.slice OA js.length oc).ownBlock ≠ some b) ∨ (wr.heap.size ≤ b ∧ b < w1.heap.size))) := hok
          have hs1 := hb1.size
          have hrep : RepV (w1.alloc (.cells #[.int .i64 k.a.kind, .int .i64 k.a.n, .string k.a.s, .slice k.A (flen k.l) k.cap] 27)) (w1.alloc (.cells #[.int .i64 k.a.kind, .int .i64 k.a.n, .string k.a.s, .slice k.A (flen k.l) k.cap] 27)).heap.size k.a k.l k.val := Kd.rep (hok.keep (fun b hq => by rw [World.heap_size_alloc']; rcases hq with ⟨_, h, _⟩ | ⟨_, h⟩ <;> omega) (fun b o hq => World.cell?_alloc_past _ _ _ (by rcases hq with ⟨_, h, _⟩ | ⟨_, h⟩ <;> (show b < _; omega))))
          have HREP : Hid (RepV (w1.alloc (.cells #[.int .i64 k.a.kind, .int .i64 k.a.n, .string k.a.s, .slice k.A (flen k.l) k.cap] 27)) (w1.alloc (.cells #[.int .i64 k.a.kind, .int .i64 k.a.n, .string k.a.s, .slice k.A (flen k.l) k.cap] 27)).heap.size k.a k.l k.val) := hrep
          have hbx : Box4 (w1.alloc (.cells #[.int .i64 k.a.kind, .int .i64 k.a.n, .string k.a.s, .slice k.A (flen k.l) k.cap] 27)) w1.heap.size (.int .i64 k.a.kind) (.int .i64 k.a.n) (.string k.a.s) (.slice k.A (flen k.l) k.cap) := Box4.new _ _ _ _ _ _
          have HST : Hid (rawP (tms ks) (tms js) m = .ok (k.a, k.l)) := hst
          clear hok hrep hst c0 c1 c2 c3
          go_wp2_with fail
          refine (refMay_any k.a k.l _ _ _ (Nat.le_refl _) HREP.out).mono ?_
          cases hmk : may k.a k.l with
          | false =>
            have HE : Hid (runP (tms ks) ms = .error 3) := by show runP _ _ = _; rw [HRP.out]; exact run_take_err hlt HM0.out HRUN.out (by unfold stepP; rw [HST.out]; simp [mayP, hmk])
            clear hmk
            rintro e w2 ⟨rfl, ho2⟩
            have hbw : Below w.heap.size w w2 := (hbl.trans (hb1.mono hsr)).trans (Below.trans (Below.alloc (Below.refl _ _) (by omega) _) (ho2.mono (by simp; omega)))
            go_wp2_with fail
            refine bodyPost_ret (v := .tuple #[.slice none 0 0, .int .i64 3]) (by simp [results, Tryz.results25]) rfl ?_
            exact ⟨hbw, .inl ⟨3, HE.out, by decide, rfl⟩⟩
          | true =>
            have HRU : Hid (runS (tms ks) [] (ms.take (n + 1)) = .ok (tms js ++ [(k.a, k.l)])) := run_take_ok hlt HM0.out HRUN.out (by unfold stepP; rw [HST.out]; simp [mayP, hmk])
            have HMK : Hid (may k.a k.l = true) := hmk
            clear hmk
            rintro e w2 ⟨rfl, ho2⟩
            have hb2 : Below w1.heap.size w1 w2 := Below.trans (Below.alloc (Below.refl _ _) (Nat.le_refl _) _) (ho2.mono (by simp))
            have hbr : Below wr.heap.size wr w2 := hb1.trans (hb2.mono hs1)
            have hbw : Below w.heap.size w w2 := hbl.trans (hbr.mono hsr)
            have hs2 := hb2.size
            obtain ⟨x0, x1, x2, x3, x4⟩ := hbx.below ho2
            clear hbx ho2
            have d0 : w2.cell? ⟨w.heap.size, 0, none⟩ = some (.slice LA ks.length lc) := (hbr.cell a0).trans a1
            have d1 : w2.cell? ⟨w.heap.size, 1, none⟩ = some (.slice OA js.length oc) := (hbr.cell a0).trans a2
            have df : w2.frozen? ⟨w.heap.size, 1, none⟩ = false := (hbr.frozen a0).trans a3
            have hR2 : w.heap.size < w2.heap.size := by omega
            have hown2 := owns_below HRA.out.2.2.2.2.1 hbr
            have HOW2 : Hid (w2.ownsRow (w.heap.size + 1) 27 4 (.slice OA js.length oc) js.length (rowOf js)) := hown2
            clear hown2
            go_wp2_with fail
            have HXO : Hid ((Value.slice OA js.length oc).ownBlock ≠ some w1.heap.size ∧ w.heap.size < w1.heap.size) := ⟨fun e => by have := HRA.out.2.2.2.2.1.lt _ e; omega, by omega⟩
            have hi0 : (0 : Int) ≤ (js.length : Int) := by omega
            have hi1 : (js.length : Int) < (js.length : Int) + 1 := by omega
            go_region_law (refine step_append_any _ (by rfl) _ _ 24 (by rfl) (w.heap.size + 1) 27 i5 (.agg #[.int .i64 0, .int .i64 0, .string ⟨#[]⟩, .slice none 0 0]) 4 56 Tryz.underlying24 hi hz0 hz1 hz2 rfl (by decide) (.slice OA js.length oc) js.length (rowOf js) (by rfl) ?_ (some ⟨w2.heap.size, 0, none⟩) 1 1 [.int .i64 0, .int .i64 0, .string ⟨#[]⟩, .slice none 0 0] (by rfl) ?_ ?_ ?_ ?_ ?_; exact (World.ownsRow.drew HOW2.out).alloc _; exact .inr ⟨_, rfl, rfl, World.news_of_block (t := 27) (fr := (0, 0)) (heap_alloc_new w2.drew _), by simp [Value.oneCell']⟩; (unfold maxLen; omega); omega; (simp; omega); intro v5 w5 hown5 hgrow5 hat5; obtain ⟨g, cap5, rfl, P5⟩ := append_put HOW2.out d0 d1 df hR2 x0 x1 x2 x3 x4 HXO.out.1 HXO.out.2 hown5 hgrow5 hat5; obtain ⟨k0, k1, k2, k3, l0, l1, l2, l3, e0, e1, ef, y1, y2, y3, y4, gB, gX, H5⟩ := P5)
            all_goals
              generalize hW : World.setCell _ _ _ = W
              have hP : PutR w.heap.size g (js.length + 1) cap5 (.slice LA ks.length lc) (rowOf js ++ [.int .i64 k.a.kind, .int .i64 k.a.n, .string k.a.s, .slice k.A (flen k.l) k.cap]) w5 W := by
                have hlen : (rowOf js).length = js.length * 4 := by rw [rowOf_length]; omega
                have h5 := H5.out.1
                clear H5 HRU HST HMK HOK HREP HON HRA HSL HM HMS HSS HRP HRUN HJN HM0 HOW2 HXO
                first
                  | (with_reducible exact putR_eqA hlen gB e0 e1 ef h5 hW)
                  | (with_reducible exact putR_eqB hlen gB e0 e1 ef h5 hW)
              have hN := ref_put HRA.out hbl hb1 hb2 HOK.out HMK.out H5.out.2.1 H5.out.2.2.1 H5.out.2.2.2.1 H5.out.2.2.2.2.1 H5.out.2.2.2.2.2 hP
              have HN : Hid (RefAt W w.heap.size (.slice LA ks.length lc) (.slice (some ⟨g, 0, none⟩) (js.length + 1) cap5) (js ++ [k]) ∧ Below w.heap.size w W) := hN
              clear hN hP hW k0 k1 k2 k3 l0 l1 l2 l3 e0 e1 ef y1 y2 y3 y4 gB gX H5 hown5 hgrow5 hat5 x0 x1 x2 x3 x4 d0 d1 df a0 a1 a2 a3 hbw hbr hb2 hb1 hbl HRA
              go_wp2_with fail
              go_roundw
              case rel =>
                refine ⟨n + 1, js ++ [k], _, by go_num, hlt, by have := HJN.out; simp; omega, HN.out.1, HN.out.2, ?_⟩
                rw [HRU.out]; simp [tms]
              case measure => simp [intOf]; omega
      · obtain rfl : n = ms.length := by omega
        have hni : decide ((ms.length : Int) < (ms.length : Int)) = false := by simp
        have HE : Hid (RefEnd w (tms ks) ms (.returned (.tuple #[.slice OA js.length oc, .int .i64 0])) wr) := by
          refine ⟨hbl, .inr ⟨js, _, ?_, rfl, HRA.out.sl, fun k hk => (HRA.out.2.2.2.2.2 k hk).2, HJN.out⟩⟩
          rw [HRP.out]
          have := HRUN.out
          rwa [List.take_length] at this
        go_wp2_with fail
        refine bodyPost_ret (v := .tuple #[.slice OA js.length oc, .int .i64 0]) (by simp [results, Tryz.results25]) rfl ?_
        exact HE.out

end Go.Proofs.YtanpplgmdemlaaaGreatDoor
