import Derived.Test.YtldpnhlifgkmiaaDoorK7
namespace Go.Proofs.YtldpnhlifgkmiaaDoor
open Go.RowKit
set_option linter.unusedVariables false
set_option linter.unusedSimpArgs false

/-- What the region leaves: list's row with the term, list's variable. -/
structure PutW (B g n cap5 : Nat) (xs : List Value) (w5 W : World) : Prop where
  os : W.os = w5.os
  tape : W.tape = w5.tape
  output : W.output = w5.output
  size : W.heap.size = w5.heap.size
  block : ∀ q, q ≠ g → q ≠ B → W.heap[q]? = w5.heap[q]?
  c0 : W.cell? ⟨B, 0, none⟩ = some (.slice (some ⟨g, 0, none⟩) n cap5)
  f0 : W.frozen? ⟨B, 0, none⟩ = false
  own : W.ownsRow (B + 4) 29 4 (.slice (some ⟨g, 0, none⟩) n cap5) n xs

theorem size_setK (w : World) (p : Addr) (u : Value) : (w.setCell p u).heap.size = w.heap.size := by simp [World.setCell]

theorem cell_far4 (w : World) (g o : Nat) (u0 u1 u2 u3 : Value) (p : Addr) (h : p.block ≠ g) : ((((w.setCell ⟨g, o, none⟩ u0).setCell ⟨g, o + 1, none⟩ u1).setCell ⟨g, o + 2, none⟩ u2).setCell ⟨g, o + 3, none⟩ u3).heap[p.block]? = w.heap[p.block]? := by
  rw [Below.heap_setCell _ _ _ _ h, Below.heap_setCell _ _ _ _ h, Below.heap_setCell _ _ _ _ h, Below.heap_setCell _ _ _ _ h]

theorem putW_A {B g n cap5 : Nat} {xs : List Value} {m : Nat} {w5 : World} {u0 u1 u2 u3 v : Value} (hx : xs.length = m) (hg : g ≠ B) (m0 : w5.cell? ⟨B, 0, none⟩ = some v) (mf : w5.frozen? ⟨B, 0, none⟩ = false)
    (hown : w5.ownsRow (B + 4) 29 4 (.slice (some ⟨g, 0, none⟩) n cap5) n (xs ++ [.int .i64 0, .int .i64 0, .string ⟨#[]⟩, .slice none 0 0])) :
    PutW B g n cap5 (xs ++ [u0, u1, u2, u3]) w5 (((((w5.setCell ⟨g, m, none⟩ u0).setCell ⟨g, m + 1, none⟩ u1).setCell ⟨g, m + 2, none⟩ u2).setCell ⟨g, m + 3, none⟩ u3).setCell ⟨B, 0, none⟩ (.slice (some ⟨g, 0, none⟩) n cap5)) := by
  have h4 := owns_setCell (owns_setCell (owns_setCell (owns_setCell hown (m) u0) (m + 1) u1) (m + 2) u2) (m + 3) u3
  rw [set_last4 _ _ _ _ _ _ _ _ _ _ hx] at h4
  have hB := cell_far4 w5 g (m) u0 u1 u2 u3 ⟨B, 0, none⟩ (Ne.symm hg)
  have hc := (World.cell?_of_block hB).trans m0
  generalize hX : (((w5.setCell ⟨g, m, none⟩ u0).setCell ⟨g, m + 1, none⟩ u1).setCell ⟨g, m + 2, none⟩ u2).setCell ⟨g, m + 3, none⟩ u3 = X at *
  have hos : X.os = w5.os ∧ X.tape = w5.tape ∧ X.output = w5.output ∧ X.heap.size = w5.heap.size := by rw [← hX]; exact ⟨rfl, rfl, rfl, by rw [size_setK, size_setK, size_setK, size_setK]⟩
  have hfar : ∀ q, q ≠ g → X.heap[q]? = w5.heap[q]? := fun q h1 => by rw [← hX]; exact cell_far4 w5 g m u0 u1 u2 u3 ⟨q, 0, none⟩ h1
  clear hX
  refine ⟨hos.1, hos.2.1, hos.2.2.1, by rw [size_setK]; exact hos.2.2.2, fun q h1 h2 => ?_, World.cell?_setCell_same _ _ _ hc, ?_, ownsRow_setCell_below h4 (show B < B + 4 by omega) _⟩
  · rw [Below.heap_setCell _ _ _ _ h2]; exact hfar q h1
  · rw [World.frozen?_setCell]; exact (World.frozen?_of_block hB).trans mf

theorem putW_B {B g n cap5 : Nat} {xs : List Value} {m : Nat} {w5 : World} {u0 u1 u2 u3 v : Value} (hx : xs.length = m) (hg : g ≠ B) (m0 : w5.cell? ⟨B, 0, none⟩ = some v) (mf : w5.frozen? ⟨B, 0, none⟩ = false)
    (hown : w5.ownsRow (B + 4) 29 4 (.slice (some ⟨g, 0, none⟩) n cap5) n (xs ++ [.int .i64 0, .int .i64 0, .string ⟨#[]⟩, .slice none 0 0])) :
    PutW B g n cap5 (xs ++ [u0, u1, u2, u3]) w5 (((((w5.setCell ⟨B, 0, none⟩ (.slice (some ⟨g, 0, none⟩) n cap5)).setCell ⟨g, m, none⟩ u0).setCell ⟨g, m + 1, none⟩ u1).setCell ⟨g, m + 2, none⟩ u2).setCell ⟨g, m + 3, none⟩ u3) := by
  have h0 := ownsRow_setCell_below hown (a := ⟨B, 0, none⟩) (show B < B + 4 by omega) (.slice (some ⟨g, 0, none⟩) n cap5)
  have hc0 := World.cell?_setCell_same w5 ⟨B, 0, none⟩ (.slice (some ⟨g, 0, none⟩) n cap5) m0
  have hf0 : (w5.setCell ⟨B, 0, none⟩ (.slice (some ⟨g, 0, none⟩) n cap5)).frozen? ⟨B, 0, none⟩ = false := by rw [World.frozen?_setCell]; exact mf
  have hos0 : (w5.setCell ⟨B, 0, none⟩ (.slice (some ⟨g, 0, none⟩) n cap5)).os = w5.os ∧ (w5.setCell ⟨B, 0, none⟩ (.slice (some ⟨g, 0, none⟩) n cap5)).tape = w5.tape ∧ (w5.setCell ⟨B, 0, none⟩ (.slice (some ⟨g, 0, none⟩) n cap5)).output = w5.output ∧ (w5.setCell ⟨B, 0, none⟩ (.slice (some ⟨g, 0, none⟩) n cap5)).heap.size = w5.heap.size := ⟨rfl, rfl, rfl, size_setK _ _ _⟩
  have hfar0 : ∀ q, q ≠ B → (w5.setCell ⟨B, 0, none⟩ (.slice (some ⟨g, 0, none⟩) n cap5)).heap[q]? = w5.heap[q]? := fun q h2 => Below.heap_setCell _ _ _ _ h2
  generalize w5.setCell ⟨B, 0, none⟩ (.slice (some ⟨g, 0, none⟩) n cap5) = Y at *
  have h4 := owns_setCell (owns_setCell (owns_setCell (owns_setCell h0 m u0) (m + 1) u1) (m + 2) u2) (m + 3) u3
  rw [set_last4 _ _ _ _ _ _ _ _ _ _ hx] at h4
  have hB := cell_far4 Y g m u0 u1 u2 u3 ⟨B, 0, none⟩ (Ne.symm hg)
  have hc := (World.cell?_of_block hB).trans hc0
  have hf := (World.frozen?_of_block hB).trans hf0
  have hfar : ∀ q, q ≠ g → ((((Y.setCell ⟨g, m, none⟩ u0).setCell ⟨g, m + 1, none⟩ u1).setCell ⟨g, m + 2, none⟩ u2).setCell ⟨g, m + 3, none⟩ u3).heap[q]? = Y.heap[q]? := fun q h1 => cell_far4 Y g m u0 u1 u2 u3 ⟨q, 0, none⟩ h1
  have hos : ((((Y.setCell ⟨g, m, none⟩ u0).setCell ⟨g, m + 1, none⟩ u1).setCell ⟨g, m + 2, none⟩ u2).setCell ⟨g, m + 3, none⟩ u3).os = Y.os ∧ ((((Y.setCell ⟨g, m, none⟩ u0).setCell ⟨g, m + 1, none⟩ u1).setCell ⟨g, m + 2, none⟩ u2).setCell ⟨g, m + 3, none⟩ u3).tape = Y.tape ∧ ((((Y.setCell ⟨g, m, none⟩ u0).setCell ⟨g, m + 1, none⟩ u1).setCell ⟨g, m + 2, none⟩ u2).setCell ⟨g, m + 3, none⟩ u3).output = Y.output ∧ ((((Y.setCell ⟨g, m, none⟩ u0).setCell ⟨g, m + 1, none⟩ u1).setCell ⟨g, m + 2, none⟩ u2).setCell ⟨g, m + 3, none⟩ u3).heap.size = Y.heap.size := ⟨rfl, rfl, rfl, by rw [size_setK, size_setK, size_setK, size_setK]⟩
  generalize (((Y.setCell ⟨g, m, none⟩ u0).setCell ⟨g, m + 1, none⟩ u1).setCell ⟨g, m + 2, none⟩ u2).setCell ⟨g, m + 3, none⟩ u3 = X at *
  exact ⟨hos.1.trans hos0.1, hos.2.1.trans hos0.2.1, hos.2.2.1.trans hos0.2.2.1, hos.2.2.2.trans hos0.2.2.2, fun q h1 h2 => (hfar q h1).trans (hfar0 q h2), hc, hf, h4⟩

/-- learn's state behind it. -/
theorem learn_put {w1 w2 w5 W : World} {B g cap5 : Nat} {LA : Option Addr} {lc : Nat} {ks : List Kd} {kd : Kd} (hst : LSt w1 B (.slice LA ks.length lc) ks) (ho2 : Only (B + 1) w1 w2) (hms : MapS w2 (B + 1) (keyS kd.a kd.l :: ks.map fun k => keyS k.a k.l))
    (h5 : w5.os = w2.os ∧ w5.tape = w2.tape ∧ w5.output = w2.output) (hs5 : w2.heap.size + 1 ≤ w5.heap.size) (hblk : ∀ q, q < w2.heap.size → (Value.slice LA ks.length lc).ownBlock ≠ some q → w5.heap[q]? = w2.heap[q]?)
    (hg4 : B + 4 ≤ g) (hat : (Value.slice (some ⟨g, 0, none⟩) (ks.length + 1) cap5).ownBlock = (Value.slice LA ks.length lc).ownBlock ∨ w2.heap.size ≤ g) (hP : PutW B g (ks.length + 1) cap5 (rowOf ks ++ kd.cells) w5 W)
    (hkd : kd.Ok w1 (fun b => b < B)) (hmay : may kd.a kd.l = true) :
    LSt W B (.slice (some ⟨g, 0, none⟩) (ks.length + 1) cap5) (ks ++ [kd]) ∧ LGrew B w1 W (.slice LA ks.length lc) (.slice (some ⟨g, 0, none⟩) (ks.length + 1) cap5) := by
  have hs1 := hst.sz
  have hs2 := ho2.size
  have hvk := hst.own.lt
  have hnB : ∀ q, q < B + 4 → (Value.slice LA ks.length lc).ownBlock ≠ some q := fun q hq e => by have := hvk q e; omega
  have far : ∀ q, q < w1.heap.size → q ≠ B → q ≠ B + 1 → (Value.slice LA ks.length lc).ownBlock ≠ some q → W.heap[q]? = w1.heap[q]? := fun q h1 h2 h3 h4 => by
    rw [hP.block q ?_ h2, hblk q (by omega) h4, ho2.block q h1 h3]
    rintro rfl
    rcases hat with h | h
    · exact h4 (by rw [← h]; rfl)
    · omega
  have low : ∀ q, q < B → W.heap[q]? = w1.heap[q]? := fun q hq => far q (by omega) (by omega) (by omega) (hnB q (by omega))
  refine ⟨⟨hP.c0, hP.f0, ?_, ?_, ?_, ?_, ?_, by rw [hP.size]; omega⟩, ⟨hP.os.trans (h5.1.trans ho2.os), hP.tape.trans (h5.2.1.trans ho2.tape), hP.output.trans (h5.2.2.trans ho2.output), by rw [hP.size]; omega, far, fun q hq => ?_⟩⟩
  · exact (World.cell?_of_block (far (B + 2) (by omega) (by omega) (by omega) (hnB _ (by omega)))).trans hst.c2
  · exact (World.cell?_of_block (far (B + 3) (by omega) (by omega) (by omega) (hnB _ (by omega)))).trans hst.c3
  · refine (hms.block (w' := W) ?_).same (fun s => by simp [or_comm])
    rw [hP.block (B + 1) (by omega) (by omega), hblk (B + 1) (by omega) (hnB _ (by omega))]
  · rw [rowOf_append, List.length_append]
    have := hP.own
    simpa [rowOf] using this
  · intro k hk
    have hok : k.Ok w1 (fun b => b < B) ∧ may k.a k.l = true := by
      rcases List.mem_append.1 hk with h | h
      · exact hst.ok k h
      · simp at h; subst h; exact ⟨hkd, hmay⟩
    exact ⟨hok.1.keep (fun _ h => h) (fun b o hb => World.cell?_of_block (low b hb)), hok.2⟩
  · rcases hat with h | h
    · exact .inl (by rw [← h]; exact hq)
    · simp [Value.ownBlock] at hq; exact .inr (by omega)

theorem sizeOf_termsK (w : World) : (Go.sizeOf 24).run Tryd.prog w = .ok 1 w := by kernel_rfl

end Go.Proofs.YtldpnhlifgkmiaaDoor
