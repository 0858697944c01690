import Derived.Test.YtdjkmcielbppaaaDoorQG
import Derived.Test.YtdjkmcielbppaaaDoorQJ
import Derived.Test.YtdjkmcielbppaaaDoorQL
namespace Go.Proofs.YtdjkmcielbppaaaDoor
open Go.RowKit
set_option linter.unusedVariables false
set_option linter.unusedSimpArgs false

theorem tab_up {B : Nat} {w w' : World} (h : Tab16 B w) (hb : Below B w w') : Tab16 w'.heap.size w' := Lib.tabBelow_of_tabIs ((h.on hb).here)

/-- Parse in whatever world comes of the first one. -/
theorem qparse_at {w : World} (ht : Tab16 w.heap.size w) (s : ByteArray) (hs : s.size ≤ 100000) (n : Int) (l : List Fd) (e : parF s = (n, l)) (W : World) (hW : Below w.heap.size w W) :
    Calls Tryd.prog 11 #[.string s] W fun e w' => ∃ v, e = .returned (.tuple #[v, .int .i64 n]) ∧ RowF w' v l ∧ OwnF w' W.heap.size v l ∧ Below W.heap.size W w' := by
  refine (qparse_any s hs W (tab_up ht hW)).mono ?_
  rintro e1 w' ⟨v, rfl, ho, hb⟩
  rw [e] at ho
  exact ⟨v, by rw [e], ho.row, ho, hb⟩

theorem qprint_at {w : World} (ht : Tab16 w.heap.size w) (l : List Fd) (v : Value) (hl : l.length ≤ 1000) (hs : sumF l ≤ 100000) (t : ByteArray) (e : prS l = t) (W : World) (hv : RowF W v l) (hW : Below w.heap.size w W) :
    Calls Tryd.prog 16 #[v] W fun e w' => e = .returned (.string t) ∧ Below W.heap.size W w' := by
  subst e
  exact qprint_any l v W hl hs hv (tab_up ht hW)

/-- The two fields of the document's first example. -/
def kL : List Fd := [(⟨#[97]⟩, ⟨#[49]⟩), (⟨#[98]⟩, ⟨#[]⟩)]
theorem known10_par : parF ⟨#[97, 61, 49, 38, 98, 61]⟩ = (0, kL) := by decide +kernel
theorem known10_no : parF ⟨#[97]⟩ = (3, []) := by decide +kernel
theorem known10_pr : prS kL = ⟨#[97, 61, 49, 38, 98, 61]⟩ := by decide +kernel
theorem known10_get : getF kL ⟨#[97]⟩ = ⟨#[49]⟩ ∧ hasF kL ⟨#[97]⟩ = true := by decide +kernel
theorem known10_small : kL.length = 2 ∧ sumF kL ≤ 100000 ∧ ∀ f ∈ kL, f.2.size ≤ 1000000 := by decide +kernel

theorem known10_facts : ∃ L : List Fd, parF ⟨#[97, 61, 49, 38, 98, 61]⟩ = (0, L) ∧ prS L = ⟨#[97, 61, 49, 38, 98, 61]⟩ ∧ getF L ⟨#[97]⟩ = ⟨#[49]⟩ ∧ hasF L ⟨#[97]⟩ = true ∧ L.length = 2 ∧ sumF L ≤ 100000 ∧ ∀ f ∈ L, f.2.size ≤ 1000000 :=
  ⟨kL, known10_par, known10_pr, known10_get.1, known10_get.2, known10_small.1, known10_small.2.1, known10_small.2.2⟩

set_option maxRecDepth 100000 in
set_option maxHeartbeats 2000000 in
theorem known10_any (w : World) (ht : Tab16 w.heap.size w) :
    Calls Tryd.prog 7 #[] w fun e w' => e = .returned (.bool true) ∧ Below w.heap.size w w' := by
  obtain ⟨L, p1, p2, p3, p4, p5, p6, p7⟩ := known10_facts
  have k1 := qparse_at ht ⟨#[97, 61, 49, 38, 98, 61]⟩ (by decide) 0 L p1
  have k2 := qparse_at ht ⟨#[97]⟩ (by decide) 3 [] known10_no
  have k4 := fun v W hv hW => qprint_at ht L v (by omega) p6 _ p2 W hv hW
  have k3 := fun v W hv => qget_any L v ⟨#[97]⟩ W (by omega) hv p7
  rw [p3, p4] at k3
  have hL : L.length = 2 := p5
  clear p1 p2 p3 p4 p5 p6 p7
  have h0 := Below.refl w.heap.size w
  go_enter Tryd.func7, Tryd.ntmps7
  go_wp2_with fail
  refine (k1 _ h0).mono ?_
  rintro e w1 ⟨v1, rfl, r1, _, h1⟩
  go_wp2_with fail
  refine (k2 _ h1).mono ?_
  rintro e w2 ⟨v2, rfl, _, _, h2⟩
  have r2 := r1.below h2
  replace h2 := below_tr h1 h2
  have hg := k3 v1 w2 r2
  obtain ⟨A, cap, rfl, hcp, _⟩ := r1
  rw [hL] at hg r2 hcp
  go_wp2_with fail
  refine hg.mono ?_
  rintro e w3 ⟨rfl, h3⟩
  have r3 := r2.below h3
  replace h3 := below_tr h2 h3
  have hp := k4 _ w3 r3 h3
  clear k1 k2 k3 k4 hg r2 h2 h1 h0
  go_wp2_with fail
  refine hp.mono ?_
  rintro e w4 ⟨rfl, h4⟩
  replace h4 := below_tr h3 h4
  go_wp2_with fail
  go_ret
  exact ⟨rfl, h4⟩

end Go.Proofs.YtdjkmcielbppaaaDoor
