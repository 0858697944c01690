import Derived.Test.YtldpnhlifgkmiaaDoorK10
import Derived.Test.YtldpnhlifgkmiaaDoorK1
namespace Go.Proofs.YtldpnhlifgkmiaaDoor
open Go.RowKit
set_option linter.unusedVariables false
set_option linter.unusedSimpArgs false

theorem LSt.sl {w : World} {B : Nat} {lv : Value} {ks : List Kd} (h : LSt w B lv ks) : SlT w lv ks := by
  have hs := h.sz
  rcases h.own.2 with ⟨h1, h2⟩ | ⟨g, cap, cur, h3, h4, _, h5, h6, _⟩
  · exact .inl ⟨List.eq_nil_of_length_eq_zero h2, h1⟩
  · have hown := h.own
    rw [h3] at hown
    exact .inr ⟨g, cap, h3, (hown.lt g rfl).2, fun t ht => hown.cellAt t (by omega), fun k hk => ⟨(h.ok k hk).1.keep (fun b hb => by omega) (fun _ _ _ => rfl), may_ar _ _ (h.ok k hk).2⟩⟩

/-- What Open answers: what is learnt, sorted. -/
def OpenEnd (w : World) (ks : List Kd) (e : Ending) (w' : World) : Prop :=
  ∃ (ks' M : List Kd) (u : Value), e = .returned u ∧ tms ks' = learnL ks [] ∧ SlT w' u M ∧ (∀ k ∈ M, may k.a k.l = true) ∧ Rises M ∧ SameIn M ks' ∧ Covers ks' M ∧ M.length ≤ 1000 ∧ Below w.heap.size w w'

set_option maxRecDepth 20000 in
set_option maxHeartbeats 1000000 in
theorem open_any (ks : List Kd) (v : Value) (w : World) (h : SlT w v ks) (hd : ∀ k ∈ ks, may k.a k.l = true ∧ (keyT k.a k.l).length ≤ 1000000 ∧ DMay k.l) (hN : nodesK ks ≤ 1000) (hl : ks.length ≤ 1000) (htab : Tab10 w.heap.size w) :
    Calls Tryd.prog 12 #[v] w fun e w' => OpenEnd w ks e w' := by
  have HO : Hid (Calls Tryd.prog 29 #[v] w fun e w' => OpEnd w ks e w') := opened_any ks v w h hd (by omega) hl htab
  clear h hd htab
  go_enter Tryd.func12, Tryd.ntmps12
  go_wp2_with fail
  refine Calls.mono HO.out ?_
  rintro e w1 ⟨ks', lv, rfl, hst, hb1, ht, hc⟩
  have HST : Hid (LSt w1 w.heap.size lv ks') := hst
  have HT : Hid (tms ks' = learnL ks []) := ht
  clear hst ht
  go_wp2_with fail
  refine (sortK HST.out.sl (fun k hk => (HST.out.ok k hk).2) (by omega)).mono ?_
  rintro e w2 ⟨M, u, rfl, h1, h2, h3, h4, h5, h6, h7⟩
  have HE : Hid (OpenEnd w ks (.returned u) w2) := ⟨ks', M, u, rfl, HT.out, h1, h2, h3, h4, h5, h6, hb1.trans (h7.mono hb1.size)⟩
  clear h1 h2 h3 h4 h5 h6 h7
  go_wp2_with fail
  go_ret
  exact HE.out

end Go.Proofs.YtldpnhlifgkmiaaDoor
