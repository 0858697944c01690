import Derived.Test.YteohbkfogebldaaT3
import Derived.Laws.IdiomStrings
namespace Go.Proofs.Yteohbkfogebldaa
open Go.RowKit
set_option linter.unusedVariables false
set_option linter.unusedSimpArgs false

set_option maxRecDepth 100000 in
set_option maxHeartbeats 4000000 in
theorem first_any (t : ByteArray) (w : World) (ht : t.size ≤ 9223372036854775807) (h0 : 0 < t.size) :
    Calls Try.prog 31 #[.string t] w fun e w' => ∃ r n : Int, e = .returned (.tuple #[.int .i64 r, .int .i64 n]) ∧ FirstOk (bN t 0) (moreAt t 0 1) (moreAt t 0 2) (moreAt t 0 3) r n ∧ w' = w := by
  have hc0 : (t[0]'h0).toNat = bN t 0 := bN_at t 0 h0
  have hcl := bN_lt t 0
  go_enter Try.func31, Try.ntmps31
  go_wp2_with fail
  refine (more6_any t 1 w (by omega) ht).mono ?_
  rintro e w1 ⟨rfl, rfl⟩
  go_wp2_with fail
  refine (more6_any t 2 _ (by omega) ht).mono ?_
  rintro e w1 ⟨rfl, rfl⟩
  go_wp2_with fail
  refine (more6_any t 3 _ (by omega) ht).mono ?_
  rintro e w1 ⟨rfl, rfl⟩
  have ba := moreAt_bounds t 0 1
  have bb := moreAt_bounds t 0 2
  have bd := moreAt_bounds t 0 3
  generalize ha0 : moreAt t 0 1 = a at *
  have Ha : Hid (moreAt t 0 1 = a) := ha0
  clear ha0
  generalize hb0 : moreAt t 0 2 = b at *
  have Hb : Hid (moreAt t 0 2 = b) := hb0
  clear hb0
  generalize hd0 : moreAt t 0 3 = d at *
  have Hd : Hid (moreAt t 0 3 = d) := hd0
  clear hd0
  generalize hcc : bN t 0 = c at *
  have Hc : Hid (bN t 0 = c) := hcc
  clear hcc
  go_wp2_with fail
  all_goals go_ret2
  all_goals refine ⟨_, _, rfl, ?_, rfl⟩
  all_goals ((try rw [Ha.out]); (try rw [Hb.out]); (try rw [Hd.out]); (try rw [Hc.out]); clear Ha Hb Hd Hc; unfold FirstOk; omega)

end Go.Proofs.Yteohbkfogebldaa
