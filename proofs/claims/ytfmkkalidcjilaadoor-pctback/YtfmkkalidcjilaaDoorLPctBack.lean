import Derived.Test.YtfmkkalidcjilaaDoorE7
namespace Go.Proofs.YtfmkkalidcjilaaDoor
open Go.RowKit
set_option linter.unusedVariables false
set_option linter.unusedSimpArgs false

set_option maxRecDepth 100000 in
set_option maxHeartbeats 2000000 in
theorem pctBack_any (a b : ByteArray) (form : Bool) (w : World) (ht : Tab16 w.heap.size w) :
    Calls Tryd.prog 4 #[.string a, .string b, .bool form] w fun e w' => e = .returned (.bool true) ∧ Below w.heap.size w w' := by
  go_enter Tryd.func4, Tryd.ntmps4
  go_wp2_with fail
  refine (known7_any w ht).mono ?_
  rintro e w1 ⟨rfl, h1⟩
  by_cases ha : a.size ≤ 300
  · have ha' : ¬ (a.size : Int) > 300 := by omega
    by_cases hb : b.size ≤ 300
    · have hb' : ¬ (b.size : Int) > 300 := by omega
      have ea := encS_size form a
      have eb := encS_size form b
      have k1 := enc_at ht a (by omega) form _ rfl
      have k2 := enc_at ht b (by omega) form _ rfl
      have k3 := enc_at ht (a ++ b) (by rw [ByteArray.size_append]; omega) form _ (encS_app form a b)
      have k4 := dec_at ht (encS form a) (by omega) form _ _ (decX_enc form a) (decN_enc form a)
      have k5 := dec_at ht (encS form a ++ encS form b) (by rw [ByteArray.size_append]; omega) form (a ++ b) 0 (by rw [← encS_app]; exact decX_enc _ _) (by rw [← encS_app]; exact decN_enc _ _)
      generalize encS form a = xa at *
      generalize encS form b = xb at *
      have l1 : xa.size + xb.size ≤ 9223372036854775807 := by omega
      have l2 : a.size + b.size ≤ 9223372036854775807 := by omega
      go_wp2_with fail
      refine (k1 _ h1).mono ?_
      rintro e w2 ⟨rfl, h2⟩
      replace h2 := below_tr h1 h2
      go_wp2_with fail
      refine (k4 _ h2).mono ?_
      rintro e w3 ⟨rfl, h3⟩
      replace h3 := below_tr h2 h3
      go_wp2_with fail
      refine (k1 _ h3).mono ?_
      rintro e w4 ⟨rfl, h4⟩
      replace h4 := below_tr h3 h4
      go_wp2_with fail
      refine (k2 _ h4).mono ?_
      rintro e w5 ⟨rfl, h5⟩
      replace h5 := below_tr h4 h5
      go_wp2_with fail
      refine (k5 _ h5).mono ?_
      rintro e w6 ⟨rfl, h6⟩
      replace h6 := below_tr h5 h6
      go_wp2_with fail
      refine (k3 _ h6).mono ?_
      rintro e w7 ⟨rfl, h7⟩
      replace h7 := below_tr h6 h7
      go_wp2_with fail
      refine (k1 _ h7).mono ?_
      rintro e w8 ⟨rfl, h8⟩
      replace h8 := below_tr h7 h8
      go_wp2_with fail
      refine (k2 _ h8).mono ?_
      rintro e w9 ⟨rfl, h9⟩
      replace h9 := below_tr h8 h9
      go_wp2_with fail
      go_ret
      exact ⟨ret_bool (by simp), h9⟩
    · have hb' : (b.size : Int) > 300 := by omega
      go_wp2_with fail
      go_ret
      exact ⟨rfl, h1⟩
  · have ha' : (a.size : Int) > 300 := by omega
    go_wp2_with fail
    go_ret
    exact ⟨rfl, h1⟩

end Go.Proofs.YtfmkkalidcjilaaDoor
