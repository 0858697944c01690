import Derived.Test.YtgmmbfnmojjbkaaGreatDoorR2
import Derived.Test.YtgmmbfnmojjbkaaGreatDoorW2
import Derived.Test.YtgmmbfnmojjbkaaGreatDoorAB
namespace Go.Proofs.YtgmmbfnmojjbkaaGreatDoor
open Go.RowKit
set_option linter.unusedVariables false
set_option linter.unusedSimpArgs false

/-- A row of terms of one's own, laid anew. -/
def TermsAt (w : World) (B : Nat) (v : Value) (ks : List Kd) : Prop :=
  w.ownsRow B 24 4 v ks.length (rowOf ks) ∧ ∀ k ∈ ks, k.Ok w (fun b => B ≤ b ∧ b < w.heap.size ∧ v.ownBlock ≠ some b) ∧ may k.a k.l = true

theorem terms_append {B : Nat} {w6 w7 w8 : World} {v v8 : Value} {ks : List Kd} {kd : Kd} (ht : TermsAt w6 B v ks) (hB : B ≤ w6.heap.size) (hb7 : Below w6.heap.size w6 w7) (hkd : kd.Ok w7 (fun b => w6.heap.size ≤ b ∧ b < w7.heap.size)) (hmk : may kd.a kd.l = true)
    (hown : w8.ownsRow B 24 4 v8 (ks.length + 1) (rowOf ks ++ kd.cells)) (hgrow : (w7.alloc (.cells #[.int .i64 kd.a.kind, .int .i64 kd.a.n, .string kd.a.s, .slice kd.A (flen kd.l) kd.cap] 24)).grownBy w8 v.ownBlock)
    (hat : v8.ownBlock = v.ownBlock ∨ v8.ownBlock = some (w7.heap.size + 1)) : TermsAt w8 B v8 (ks ++ [kd]) := by
  have hs := hgrow.size
  rw [World.heap_size_alloc'] at hs
  have hs7 := hb7.size
  have hc : ∀ b o, b < w7.heap.size → v.ownBlock ≠ some b → w8.cell? ⟨b, o, none⟩ = w7.cell? ⟨b, o, none⟩ := fun b o hb hv => by
    rw [World.cell?_of_block (w := w7.alloc _) (a := ⟨b, o, none⟩) (hgrow.block b (by rw [World.heap_size_alloc']; omega) (fun e => hv e.symm))]
    exact World.cell?_of_block (Below.heap_alloc _ _ _ hb)
  have hv8 : ∀ b, b < w7.heap.size → v.ownBlock ≠ some b → v8.ownBlock ≠ some b := fun b hb hv e => by
    rcases hat with h | h
    · exact hv (by rw [← h]; exact e)
    · rw [h] at e; injection e with e; omega
  refine ⟨by rw [List.length_append, rowOf_append]; simpa [rowOf] using hown, fun k hk => ?_⟩
  rcases List.mem_append.1 hk with hk | hk
  · refine ⟨(ht.2 k hk).1.keep (fun b hb => ⟨hb.1, by have := hb.2.1; omega, hv8 b (by have := hb.2.1; omega) hb.2.2⟩) (fun b o hb => (hc b o (by have := hb.2.1; omega) hb.2.2).trans (hb7.cell (by simpa using hb.2.1))), (ht.2 k hk).2⟩
  · simp only [List.mem_singleton] at hk
    subst hk
    have hno : ∀ b, w6.heap.size ≤ b → v.ownBlock ≠ some b := fun b hb e => by have := ht.1.lt b e; omega
    exact ⟨hkd.keep (fun b hb => ⟨by omega, by omega, hv8 b hb.2 (hno b hb.1)⟩) (fun b o hb => hc b o hb.2 (hno b hb.1)), hmk⟩

theorem TermsAt.len {w : World} {B : Nat} {v : Value} {ks : List Kd} (h : TermsAt w B v ks) : ∃ A c, v = .slice A ks.length c := by
  rcases h.1.2 with ⟨h1, h2⟩ | ⟨g, cap, cur, h1, _⟩
  · exact ⟨none, 0, by rw [h1, h2]⟩
  · exact ⟨_, cap, h1⟩

end Go.Proofs.YtgmmbfnmojjbkaaGreatDoor
