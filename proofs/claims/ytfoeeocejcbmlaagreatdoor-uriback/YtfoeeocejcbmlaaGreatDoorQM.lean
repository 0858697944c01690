import Derived.Test.YtfoeeocejcbmlaaGreatDoorQG
import Derived.Test.YtfoeeocejcbmlaaGreatDoorQJ
import Derived.Test.YtfoeeocejcbmlaaGreatDoorQL
namespace Go.Proofs.YtfoeeocejcbmlaaGreatDoor
open Go.RowKit
set_option linter.unusedVariables false
set_option linter.unusedSimpArgs false

theorem tab_up {B : Nat} {w w' : World} (h : Tab16 B w) (hb : Below B w w') : Tab16 w'.heap.size w' := Lib.tabBelow_of_tabIs ((h.on hb).here)

/-- Parse in whatever world comes of the first one. -/
theorem qparse_at {w : World} (ht : Tab16 w.heap.size w) (s : ByteArray) (hs : s.size ≤ 100000) (n : Int) (l : List Fd) (e : parF s = (n, l)) (W : World) (hW : Below w.heap.size w W) :
    Calls Tryz.prog 46 #[.string s] W fun e w' => ∃ v, e = .returned (.tuple #[v, .int .i64 n]) ∧ RowF w' v l ∧ OwnF w' W.heap.size v l ∧ Below W.heap.size W w' := by
  refine (qparse_any s hs W (tab_up ht hW)).mono ?_
  rintro e1 w' ⟨v, rfl, ho, hb⟩
  rw [e] at ho
  exact ⟨v, by rw [e], ho.row, ho, hb⟩

theorem qprint_at {w : World} (ht : Tab16 w.heap.size w) (l : List Fd) (v : Value) (hl : l.length ≤ 100000) (hs : sumF l ≤ 100000) (t : ByteArray) (e : prS l = t) (W : World) (hv : RowF W v l) (hW : Below w.heap.size w W) :
    Calls Tryz.prog 53 #[v] W fun e w' => e = .returned (.string t) ∧ Below W.heap.size W w' := by
  subst e
  exact qprint_any l v W hl hs hv (tab_up ht hW)

/-- The two fields of the document's first example. -/
def kL : List Fd := [(⟨#[97]⟩, ⟨#[49]⟩), (⟨#[98]⟩, ⟨#[]⟩)]
theorem known10_par : parF ⟨#[97, 61, 49, 38, 98, 61]⟩ = (0, kL) := by decide +kernel
theorem known10_no : parF ⟨#[97]⟩ = (3, []) := by decide +kernel
theorem known10_pr : prS kL = ⟨#[97, 61, 49, 38, 98, 61]⟩ := by decide +kernel
theorem known10_get : getF kL ⟨#[97]⟩ = ⟨#[49]⟩ ∧ hasF kL ⟨#[97]⟩ = true := by decide +kernel
theorem known10_small : kL.length = 2 ∧ sumF kL ≤ 100000 ∧ ∀ f ∈ kL, f.2.size ≤ 1000000 := by decide +kernel

theorem known10_facts : ∃ L : List Fd, parF ⟨#[97, 61, 49, 38, 98, 61]⟩ = (0, L) ∧ prS L = ⟨#[97, 61, 49, 38, 98, 61]⟩ ∧ getF L ⟨#[97]⟩ = ⟨#[49]⟩ ∧ hasF L ⟨#[97]⟩ = true ∧ L.length = 2 ∧ sumF L ≤ 100000 ∧ ∀ f ∈ L, f.2.size ≤ 1000000 :=
  ⟨kL, known10_par, known10_pr, known10_get.1, known10_get.2, known10_small.1, known10_small.2.1, known10_small.2.2⟩

end Go.Proofs.YtfoeeocejcbmlaaGreatDoor
