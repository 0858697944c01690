import Derived.Test.YtfmkkalidcjilaaDoorE6
namespace Go.Proofs.YtfmkkalidcjilaaDoor
open Go.RowKit
set_option linter.unusedVariables false
set_option linter.unusedSimpArgs false

/-- Enc and Dec, in whatever world comes of the first one. -/
theorem enc_at {w : World} (ht : Tab16 w.heap.size w) (s : ByteArray) (hs : s.size ≤ 1000000) (form : Bool) (t : ByteArray) (e : encS form s = t) (W : World) (hW : Below w.heap.size w W) :
    Calls Tryd.prog 12 #[.string s, .bool form] W fun e w' => e = .returned (.string t) ∧ Below W.heap.size W w' := by
  subst e
  exact enc_any s hs form w.heap.size W (ht.on hW) hW.size

theorem dec_at {w : World} (ht : Tab16 w.heap.size w) (s : ByteArray) (hs : s.size ≤ 1000000) (form : Bool) (t : ByteArray) (n : Int) (e : decX form s = t) (e2 : decN form s = n) (W : World) (hW : Below w.heap.size w W) :
    Calls Tryd.prog 10 #[.string s, .bool form] W fun e w' => e = .returned (.tuple #[.string t, .int .i64 n]) ∧ Below W.heap.size W w' := by
  subst e e2
  exact dec_any s hs form w.heap.size W (ht.on hW) hW.size

set_option maxHeartbeats 1000000 in
theorem known7_any (w : World) (ht : Tab16 w.heap.size w) :
    Calls Tryd.prog 7 #[] w fun e w' => e = .returned (.bool true) ∧ Below w.heap.size w w' := by
  have k1 := dec_at ht ⟨#[97, 43, 98, 37, 50, 70]⟩ (by decide) true ⟨#[97, 32, 98, 47]⟩ 0 (by decide +kernel) (by decide +kernel)
  have k2 := dec_at ht ⟨#[37, 54, 49]⟩ (by decide) false ⟨#[]⟩ 3 (by decide +kernel) (by decide +kernel)
  have k3 := enc_at ht ⟨#[97, 32, 98, 47]⟩ (by decide) true ⟨#[97, 43, 98, 37, 50, 70]⟩ (by decide +kernel)
  have h0 := Below.refl w.heap.size w
  go_enter Tryd.func7, Tryd.ntmps7
  go_wp2_with fail
  refine (k1 _ h0).mono ?_
  rintro e w1 ⟨rfl, h1⟩
  go_wp2_with fail
  refine (k2 _ h1).mono ?_
  rintro e w2 ⟨rfl, h2⟩
  replace h2 := below_tr h1 h2
  go_wp2_with fail
  refine (k3 _ h2).mono ?_
  rintro e w3 ⟨rfl, h3⟩
  replace h3 := below_tr h2 h3
  go_wp2_with fail
  go_ret
  exact ⟨rfl, h3⟩

end Go.Proofs.YtfmkkalidcjilaaDoor
