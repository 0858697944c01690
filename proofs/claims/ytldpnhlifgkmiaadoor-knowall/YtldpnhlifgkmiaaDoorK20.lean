import Derived.Test.YtldpnhlifgkmiaaDoorK19
import Derived.Test.YtldpnhlifgkmiaaDoorW6
namespace Go.Proofs.YtldpnhlifgkmiaaDoor
open Go.RowKit
set_option linter.unusedVariables false
set_option linter.unusedSimpArgs false

/-- A term by itself, as one of a row. -/
theorem RepVG.kd {w : World} {S : Nat → Prop} {a : Nd} {l : Fo} {v : Value} (h : RepVG w S a l v) : ∃ k : Kd, k.a = a ∧ k.l = l ∧ v = k.val ∧ k.Ok w S := by
  obtain ⟨hf, A, cap, b, o, hv, hn, hA, hl⟩ := h
  exact ⟨⟨0, 0, a, l, A, cap, b, o⟩, rfl, rfl, hv, hf, hn, hA, hl⟩

theorem bool_same {b c : Bool} {P : Prop} (hb : b = true ↔ P) (hc : c = true ↔ P) : b = c := by
  cases b with
  | true => exact (hc.2 (hb.1 rfl)).symm
  | false => cases c with
    | true => exact absurd (hb.2 (hc.1 rfl)) (by decide)
    | false => rfl

/-- A row of one's own with one more. -/
theorem sl_append {B : Nat} {w6 w7 w8 : World} {v v8 : Value} {ks : List Kd} {kd : Kd} (ht : TermsAt w6 B v ks) (hb7 : Below w6.heap.size w6 w7) (hkd : kd.Ok w7 (fun b => w6.heap.size ≤ b ∧ b < w7.heap.size)) (hmk : may kd.a kd.l = true)
    (hown : w8.ownsRow B 29 4 v8 (ks.length + 1) (rowOf ks ++ kd.cells)) (hgrow : (w7.alloc (.cells #[.int .i64 kd.a.kind, .int .i64 kd.a.n, .string kd.a.s, .slice kd.A (flen kd.l) kd.cap] 29)).grownBy w8 v.ownBlock) :
    SlT w8 v8 (ks ++ [kd]) ∧ ∀ k ∈ ks ++ [kd], may k.a k.l = true := by
  have hs := hgrow.size
  rw [World.heap_size_alloc'] at hs
  have hs7 := hb7.size
  have hc : ∀ b o, b < w7.heap.size → v.ownBlock ≠ some b → w8.cell? ⟨b, o, none⟩ = w7.cell? ⟨b, o, none⟩ := fun b o hb hv => by
    rw [World.cell?_of_block (w := w7.alloc _) (a := ⟨b, o, none⟩) (hgrow.block b (by rw [World.heap_size_alloc']; omega) (fun e => hv e.symm))]
    exact World.cell?_of_block (Below.heap_alloc _ _ _ hb)
  have hm : ∀ k ∈ ks ++ [kd], may k.a k.l = true := fun k hk => by
    rcases List.mem_append.1 hk with hk | hk
    · exact (ht.2 k hk).2
    · simp only [List.mem_singleton] at hk; rw [hk]; exact hmk
  refine ⟨?_, hm⟩
  have hok : ∀ k ∈ ks ++ [kd], k.Ok w8 (fun b => b < w8.heap.size) ∧ k.Ar := fun k hk => by
    refine ⟨?_, may_ar _ _ (hm k hk)⟩
    rcases List.mem_append.1 hk with hk | hk
    · exact (ht.2 k hk).1.keep (fun b hb => by have := hb.2.1; omega) (fun b o hb => (hc b o (by have := hb.2.1; omega) hb.2.2).trans (hb7.cell (by simpa using hb.2.1)))
    · simp only [List.mem_singleton] at hk
      subst hk
      exact hkd.keep (fun b hb => by omega) (fun b o hb => hc b o hb.2 (fun e => by have := ht.1.lt b e; omega))
  have hr : rowOf (ks ++ [kd]) = rowOf ks ++ kd.cells := by rw [rowOf_append]; simp [rowOf]
  rcases hown.2 with ⟨h1, h2⟩ | ⟨g, cap, cur, h3, h4, _, h5, h6, _⟩
  · omega
  · rw [h3] at hown
    refine .inr ⟨g, cap, by rw [h3, List.length_append]; rfl, (hown.lt g rfl).2, fun t ht => ?_, hok⟩
    rw [hr]
    exact hown.cellAt t (by simp at ht; omega)

end Go.Proofs.YtldpnhlifgkmiaaDoor
