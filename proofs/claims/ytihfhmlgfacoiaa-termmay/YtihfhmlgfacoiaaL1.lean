import Derived.Test.YtihfhmlgfacoiaaW20
import Derived.Deep.RegionHeld3
namespace Go.Proofs.Ytihfhmlgfacoiaa
open Go.RowKit
set_option linter.unusedVariables false
set_option linter.unusedSimpArgs false

theorem NumsAt.below {w w' : World} {B : Nat} {ns : List Int} {LA : Option Addr} (h : NumsAt w B ns LA) (hb : Below B w w') : NumsAt w' B ns LA := by
  rcases h with h | ⟨lb, lo, e, hl, hc⟩
  · exact .inl h
  · exact .inr ⟨lb, lo, e, hl, fun i hi => by rw [hb.cell (by simpa using hl)]; exact hc i hi⟩

theorem Box4.below2 {w w' w'' : World} {b : Nat} {v0 v1 v2 v3 : Value} (h : Box4 w b v0 v1 v2 v3) (h1 : Below w.heap.size w w') (h2 : Below w'.heap.size w' w'') : Box4 w'' b v0 v1 v2 v3 := (h.below h1).below h2
theorem box_two (w : World) (X : Obj) (v0 v1 v2 v3 : Value) (T : TypeId) : Box4 ((w.alloc X).alloc (.cells #[v0, v1, v2, v3] T)) (w.heap.size + 1) v0 v1 v2 v3 := by
  have h := Box4.new (w.alloc X) v0 v1 v2 v3 T
  simpa using h

theorem rep_hash {W : World} {B M : Nat} {a : Nd} {l : Fo} {A : Option Addr} {cap b o : Nat} (hf : a.Fit) (hn : flen l ≤ 9223372036854775807) (hA : flen l = 0 ∨ A = some ⟨b, o, none⟩) (hr : RepF W B l b o) (hB : B ≤ W.heap.size)
    (hx : Box4 W M (.int .i64 a.kind) (.int .i64 a.n) (.string a.s) (.slice A (flen l) cap)) :
    RepV W W.heap.size ⟨3, 0, ⟨#[]⟩⟩ (.node 0 0 a l .nil) (.agg #[.int .i64 3, .int .i64 0, .string ⟨#[]⟩, .slice (some ⟨M, 0, none⟩) 1 1]) :=
  ⟨fit_H, some ⟨M, 0, none⟩, 1, M, 0, rfl, by simp [flen], .inr rfl, ⟨hx.1, hf, hx.2.1, hx.2.2.1, hx.2.2.2.1, ⟨A, cap, b, o, hx.2.2.2.2, hn, hA, RepF.keep hB (fun _ _ _ => rfl) hr⟩, trivial⟩⟩

set_option maxRecDepth 20000 in
set_option maxHeartbeats 4000000 in
theorem termMay_any (w : World) (B : Nat) (a : Nd) (l : Fo) (v : Value) (ns : List Int) (LA : Option Addr) (cap' : Nat) (hB : B ≤ w.heap.size) (hv : RepV w B a l v) (hns : NumsAt w B ns LA) (hnf : NumsFit ns) :
    Calls Try.prog 3 #[v, .slice LA ns.length cap'] w fun e w' => e = .returned (.bool true) ∧ Below w.heap.size w w' := by
  obtain ⟨hf, A, cap, b, o, rfl, hn, hA, hr⟩ := hv
  have HA : Hid (flen l = 0 ∨ A = some ⟨b, o, none⟩) := hA
  clear hA
  go_enter Try.func3, Try.ntmps3
  go_wp2_with fail
  refine (known_any _).mono ?_
  rintro e w1 ⟨rfl, ho1⟩
  have hx1 : Box4 w1 w.heap.size (.int .i64 a.kind) (.int .i64 a.n) (.string a.s) (.slice A (flen l) cap) := (Box4.new w _ _ _ _ _).below ho1
  have hb1 : Below w.heap.size w w1 := Below.trans (by repeat (first | exact Below.refl _ _ | assumption | refine below_drewN ?_ _ | refine Below.drew ?_ | refine Below.alloc ?_ (by simp <;> omega) _ | refine Below.setCell ?_ (by simp <;> omega) _)) (ho1.mono (by simp))
  have hx1' := hx1
  obtain ⟨x0, x1, x2, x3, x4⟩ := hx1
  go_wp2_with fail
  refine (few_any a l _ B 6000 w1 ⟨hf, A, cap, b, o, rfl, hn, HA.out, hr.below (hb1.mono hB)⟩ (by have := hb1.size; omega) (by omega) (by omega)).mono ?_
  rintro e w2 ⟨rfl, ho2⟩
  have hx2 := hx1'.below ho2
  have hb2 : Below w.heap.size w w2 := hb1.trans (ho2.mono (by omega))
  generalize fewT a l 6000 = few at *
  clear x0 x1 x2 x3 x4
  by_cases hfew : few < 0
  · go_wp2_with fail
    go_ret
    exact ⟨rfl, hb2⟩
  · go_wp2_with fail
    have HX : Hid (Box4 w2 w.heap.size (.int .i64 a.kind) (.int .i64 a.n) (.string a.s) (.slice A (flen l) cap)) := hx2
    have h1may := one_may ns
    have H1 : Hid (may (tapeT ns 4 0).1.1 (tapeT ns 4 0).1.2 = true) := h1may
    clear h1may
    go_region_held3 (fun w' => Box4 w' w.heap.size (.int .i64 a.kind) (.int .i64 a.n) (.string a.s) (.slice A (flen l) cap) ∧ Below w.heap.size w w')
      (first | exact ⟨HX.out.drew, hb2.drew⟩ | exact ⟨Box4.below (And.left (by assumption)) (by assumption), Below.trans (And.right (by assumption)) (Below.mono (by assumption) (by omega))⟩ | exact ⟨Box4.alloc (And.left (by assumption)) _, Below.alloc (And.right (by assumption)) (by omega) _⟩)
      (first
        | (go_at_call_of 10 (Value.slice A (flen l) cap); refine (may_any a l _ _ ⟨hf, A, cap, b, o, rfl, hn, HA.out, ?_⟩).mono ?_; exact (RepF.keep (B := B) (Nat.le_trans hB (Below.size (And.right (by assumption)))) (fun _ _ hb => Below.cell (And.right (by assumption)) (by simp; omega)) hr); rintro e w3 ⟨rfl, ho3⟩)
        | (go_at_call_of 11 (Value.slice A (flen l) cap); refine (refMay_any a l _ B _ (Nat.le_trans hB (Below.size (And.right (by assumption)))) ⟨hf, A, cap, b, o, rfl, hn, HA.out, ?_⟩).mono ?_; exact (RepF.keep (B := B) (Nat.le_refl _) (fun _ _ hb => Below.cell (And.right (by assumption)) (by simp; omega)) hr); rintro e w4 ⟨rfl, ho4⟩)
        | (go_at_call 12; refine (one_any ns LA cap' B _ (Nat.le_trans hB (Below.size (And.right (by assumption)))) ?_ hnf).mono ?_; exact (hns.below (Below.mono (And.right (by assumption)) hB)); rintro e w5 ⟨v5, rfl, ho5, hf5, A5, cap5, b5, o5, rfl, hn5, hA5, hl5⟩)
        | (go_at_call_of 10 (Value.slice A5 (flen (tapeT ns 4 0).1.2) cap5); refine (may_any (tapeT ns 4 0).1.1 (tapeT ns 4 0).1.2 _ _ ⟨hf5, A5, cap5, b5, o5, rfl, hn5, hA5, ?_⟩).mono ?_; exact (RepG.toF (fun _ h => h.2) hl5); rw [H1.out]; rintro e w6 ⟨rfl, ho6⟩)
        | (go_at_call_of 10 (Value.int IntKind.i64 3); refine (may_any ⟨3, 0, ⟨#[]⟩⟩ (.node 0 0 a l .nil) _ _ (rep_hash (B := B) (cap := cap) hf hn HA.out ?_ ?_ ?_)).mono ?_; exact (hr.below (Below.mono (And.right (by assumption)) hB)); exact (Nat.le_trans hB (Below.size (And.right (by assumption)))); (first | exact Box4.new _ _ _ _ _ _ | exact (Box4.new _ _ _ _ _ _).alloc _ | exact box_two _ _ _ _ _ _ _); rintro e w7 ⟨rfl, ho7⟩)
        | (go_at_call 13; refine (refT_any _ _ _ _ _).mono ?_; rintro e w8 ⟨rfl, ho8⟩)
        | (go_at_call_of 11 (Value.int IntKind.i64 3); refine (refMay_any ⟨3, 0, ⟨#[]⟩⟩ (.node 0 0 a l .nil) _ _ _ (Nat.le_refl _) (rep_hash (B := B) (cap := cap) hf hn HA.out ?_ ?_ ?_)).mono ?_; exact (hr.below (Below.mono (And.right (by assumption)) hB)); exact (Nat.le_trans hB (Below.size (And.right (by assumption)))); (first | exact (Box4.new _ _ _ _ _ _).below ho8 | exact (box_two _ _ _ _ _ _ _).below2 ho7 ho8 | exact ((Box4.new _ _ _ _ _ _).alloc _).below2 ho7 ho8); rintro e w9 ⟨rfl, ho9⟩))
    all_goals
      have hfin : Box4 w9 w.heap.size (.int .i64 a.kind) (.int .i64 a.n) (.string a.s) (.slice A (flen l) cap) ∧ Below w.heap.size w w9 := by assumption
      go_wp2_with fail
      go_ret
      exact ⟨ret_bool (by simp), hfin.2⟩

end Go.Proofs.Ytihfhmlgfacoiaa
