import Derived.Test.YtldpnhlifgkmiaaDoorK16
import Derived.Test.YtldpnhlifgkmiaaDoorK15
namespace Go.Proofs.YtldpnhlifgkmiaaDoor
open Go.RowKit
set_option linter.unusedVariables false
set_option linter.unusedSimpArgs false

theorem among_knows {us : List (Nd × Fo)} {L : List Kd} (hc : Clos us (tms L)) (a : Nd) (l : Fo) (hm : may a l = true) : canT (amongB L) a l = true ↔ Knows us a l := by
  refine canT_iff (fun a l hm => ?_) hm
  rw [among_iff]
  exact hc _

set_option maxRecDepth 100000 in
set_option maxHeartbeats 4000000 in
theorem refCan_any (ks : List Kd) (v : Value) (a : Nd) (l : Fo) (u : Value) (B : Nat) (w : World) (h : SlT w v ks) (hk : ∀ k ∈ ks, may k.a k.l = true) (hN : nodesK ks ≤ 1000) (hu : RepV w B a l u) (hB : B ≤ w.heap.size) (hm : may a l = true) :
    Calls Tryd.prog 16 #[v, u] w fun e w' => CanEnd w (tms ks) a l e w' := by
  have HSL : Hid (SlT w v ks) := h
  have HK : Hid (∀ k ∈ ks, may k.a k.l = true) := hk
  have HU : Hid (RepV w B a l u) := hu
  have HM : Hid (may a l = true) := hm
  obtain ⟨hf, A, cap, b, o, rfl, hn, hA, hr⟩ := hu
  obtain ⟨OA, oc, rfl, _⟩ := h.len
  clear h hk hA hr hm
  go_enter Tryd.func16, Tryd.ntmps16
  go_wp2_with fail
  obtain ⟨W, hW⟩ : ∃ W : World, W = w.alloc (.cells #[.int .i64 a.kind, .int .i64 a.n, .string a.s, .slice A (flen l) cap] 29) := ⟨_, rfl⟩
  have hbx : Box4 W w.heap.size (.int .i64 a.kind) (.int .i64 a.n) (.string a.s) (.slice A (flen l) cap) := by rw [hW]; exact Box4.new w _ _ _ _ _
  have hbA : Below w.heap.size w W := by rw [hW]; exact Below.alloc (Below.refl _ _) (Nat.le_refl _) _
  rw [← hW]
  clear hW
  have HBX : Hid (Box4 W w.heap.size (.int .i64 a.kind) (.int .i64 a.n) (.string a.s) (.slice A (flen l) cap)) := hbx
  have hsW := hbA.size
  clear hbx
  have HOP : Hid (∀ W', Below W.heap.size W W' → Calls Tryd.prog 13 #[.slice OA ks.length oc] W' fun e w' => ∃ (L : List Kd) (u : Value), e = .returned u ∧ SlT w' u L ∧ L.length ≤ 1000 ∧ Clos (tms ks) (tms L) ∧ Below W.heap.size W w') := by
    intro W' hb
    refine (refOpen_any ks _ W' (HSL.out.below (hbA.trans (hb.mono hsW))) HK.out hN).mono ?_
    rintro e w' ⟨L, u, h1, h2, h3, h4, h5, h6, h7⟩
    exact ⟨L, u, h1, h2, by omega, h5, hb.trans (h7.mono hb.size)⟩
  have HMD : Hid (∀ (L : List Kd) (u : Value) (W' : World), Below W.heap.size W W' → SlT W' u L → L.length ≤ 1000 → Clos (tms ks) (tms L) → Calls Tryd.prog 35 #[u, .agg #[.int .i64 a.kind, .int .i64 a.n, .string a.s, .slice A (flen l) cap]] W' fun e w' => CanEnd w (tms ks) a l e w' ∧ Below W.heap.size W w') := by
    intro L u W' hb hsl hl hc
    have hb' := hbA.trans (hb.mono hsW)
    refine (made_step L u hl a l (made_all L u hl l) _ B W' hsl (HU.out.below (hb'.mono hB)) (by have := hb'.size; omega) (may_ar _ _ HM.out).1 (may_ar _ _ HM.out).2).mono ?_
    rintro e w' ⟨rfl, hb2⟩
    exact ⟨⟨_, rfl, among_knows hc a l HM.out, hb'.trans (hb2.mono hb'.size)⟩, hb.trans (hb2.mono hb.size)⟩
  go_region_held3 (fun w' => Box4 w' w.heap.size (.int .i64 a.kind) (.int .i64 a.n) (.string a.s) (.slice A (flen l) cap) ∧ Below W.heap.size W w')
    (first | exact ⟨HBX.out.below (Below.drew (Below.refl _ _)), Below.drew (Below.refl _ _)⟩ | exact ⟨HBX.out.below hb2, hb2⟩ | exact ⟨HBX.out.below hb1, hb1⟩ | assumption)
    (first
      | (go_at_call 13; refine (HOP.out _ (And.right (by assumption))).mono ?_; rintro e w1 ⟨L, u1, rfl, hsl1, hl1, hc1, hb1⟩)
      | (go_at_call 35; refine (HMD.out L u1 _ (And.right (by assumption)) hsl1 hl1 hc1).mono ?_; rintro e w2 ⟨⟨bb, rfl, hbb, hbw2⟩, hb2⟩))
  have HE : Hid (CanEnd w (tms ks) a l (.returned (.bool bb)) w2) := ⟨bb, rfl, hbb, hbw2⟩
  clear hbb
  go_wp2_with fail
  go_ret
  exact HE.out

/-- The same of two that say the same. -/
theorem CanEnd.same {w w1 w' w1' : World} {us : List (Nd × Fo)} {a : Nd} {l : Fo} {b c : Bool} (hb : b = true ↔ Knows us a l) (hc : c = true ↔ Knows us a l) : b = c := by
  cases b <;> cases c <;> simp_all

end Go.Proofs.YtldpnhlifgkmiaaDoor
