import Derived.Test.YtffhbgakoibgnaaF5
namespace Go.Proofs.Ytffhbgakoibgnaa
open Go.RowKit
set_option linter.unusedVariables false
set_option linter.unusedSimpArgs false

def DecEnd (w : World) (s : ByteArray) (e : Ending) (w' : World) : Prop :=
  ∃ A cap, e = .returned (.tuple #[.slice A (dL s).length cap, .int .i64 (dN s)]) ∧ ByAt w' w'.heap.size A (dL s) ∧ (dL s).length ≤ cap ∧ cap ≤ maxLen ∧ Below w.heap.size w w'

theorem dOk_iff (s : ByteArray) : dOk s.data.toList = true ↔ b64S (gL s.data.toList) = s := by
  unfold dOk b64S
  constructor
  · intro h; exact ba_ext (by rw [ba_list]; simpa using h)
  · intro h
    have := congrArg (fun x : ByteArray => x.data.toList) h
    simpa using this

theorem toList_ne {s t : ByteArray} (h : ¬ s = t) : (s.toList == t.toList) = false := by
  rw [beq_eq_false_iff_ne]
  intro e
  rw [ByteArray.toList_eq, ByteArray.toList_eq] at e
  exact h (ba_ext e)

set_option maxHeartbeats 1000000 in
theorem bdec_any (s : ByteArray) (w : World) (hm : s.size ≤ 1000000) :
    Calls Try.prog 8 #[.string s] w fun e w' => DecEnd w s e w' := by
  have hg := bguess_any s w hm
  have hgl : (gL s.data.toList).length ≤ 1000000 := by rw [g_len, size_list]; omega
  have he := fun (A : Option Addr) (cap : Nat) (W : World) (h1 : ByAt W W.heap.size A (gL s.data.toList)) (h2 : (gL s.data.toList).length ≤ cap) => benc_any A (gL s.data.toList) cap W h1 h2 hgl
  have hd := dOk_iff s
  by_cases h : dOk s.data.toList = true
  · have e1 : dL s = gL s.data.toList := by unfold dL; rw [if_pos h]
    have e2 : dN s = 0 := by unfold dN; rw [if_pos h]
    unfold DecEnd
    rw [e1, e2]
    rw [hd.1 h] at he
    clear hd h e1 e2
    generalize gL s.data.toList = g at *
    go_enter Try.func8, Try.ntmps8
    go_wp2_with fail
    refine hg.mono ?_
    rintro e w1 ⟨A1, cap1, rfl, h1, h2, h3, hb1⟩
    go_wp2_with fail
    refine (he A1 cap1 w1 h1 h2).mono ?_
    rintro e w2 ⟨rfl, hb2⟩
    go_wp2_with fail
    exact bodyPost_ret (v := .tuple #[.slice A1 g.length cap1, .int .i64 0]) (by simp [results, Try.results8, go_sem]) rfl ⟨A1, cap1, rfl, (h1.below hb2).keep hb2.size (fun _ _ _ => rfl), h2, h3, hb1.trans (hb2.mono hb1.size)⟩
  · have e1 : dL s = [] := by unfold dL; rw [if_neg h]
    have e2 : dN s = 3 := by unfold dN; rw [if_neg h]
    unfold DecEnd
    rw [e1, e2]
    have hne : ¬ b64S (gL s.data.toList) = s := fun e => h (hd.2 e)
    clear hd h e1 e2
    generalize gL s.data.toList = g at *
    generalize b64S g = st at *
    have hnb := toList_ne hne
    go_enter Try.func8, Try.ntmps8
    go_wp2_with fail
    refine hg.mono ?_
    rintro e w1 ⟨A1, cap1, rfl, h1, h2, h3, hb1⟩
    go_wp2_with fail
    refine (he A1 cap1 w1 h1 h2).mono ?_
    rintro e w2 ⟨rfl, hb2⟩
    go_wp2_with fail
    exact bodyPost_ret (v := .tuple #[.slice none 0 0, .int .i64 3]) (by simp [results, Try.results8, go_sem]) rfl ⟨none, 0, rfl, .inl rfl, Nat.le_refl _, Nat.zero_le _, hb1.trans (hb2.mono hb1.size)⟩

end Go.Proofs.Ytffhbgakoibgnaa
