import Derived.Test.YtldpnhlifgkmiaaDoorW29
import Derived.Test.YtldpnhlifgkmiaaDoorW14
namespace Go.Proofs.YtldpnhlifgkmiaaDoor
open Go.RowKit
set_option linter.unusedVariables false
set_option linter.unusedSimpArgs false

set_option maxRecDepth 20000 in
set_option maxHeartbeats 4000000 in
theorem add_row (ks : List Kd) (t : Kd) (g cap : Nat) (w : World) (hz : 0 < ks.length) (hl : ks.length ≤ 1000) (hcap : ks.length ≤ cap) (hcm : cap ≤ 9223372036854775807) (hrow : RowT w g ks) (ht : t.Ok w (fun b => b < w.heap.size) ∧ t.Ar) :
    Calls Tryd.prog 31 #[.slice (some ⟨g, 0, none⟩) ks.length cap, t.val] w fun e w' => AddEnd w ks t g e w' := by
  obtain ⟨i, hi, hz0, hz1, hz2⟩ := info_get Tryd.infoTerm
  go_enter Tryd.func31, Tryd.ntmps31
  go_wp2_with fail
  obtain ⟨w0, hw0⟩ : ∃ w0, w0 = w.alloc (.cells #[.int .i64 t.a.kind, .int .i64 t.a.n, .string t.a.s, .slice t.A (flen t.l) t.cap] 29) := ⟨_, rfl⟩
  have hbw : Below w.heap.size w w0 := by rw [hw0]; exact Below.alloc (Below.refl _ _) (Nat.le_refl _) _
  have HB : Hid (Box4 w0 w.heap.size (.int .i64 t.a.kind) (.int .i64 t.a.n) (.string t.a.s) (.slice t.A (flen t.l) t.cap)) := by show Box4 _ _ _ _ _ _; rw [hw0]; exact Box4.new _ _ _ _ _ _
  have HR : Hid (RowT w0 g ks) := hrow.below hbw
  have HT : Hid (t.Ok w0 (fun b => b < w0.heap.size) ∧ t.Ar) := ⟨ht.1.below hbw, ht.2⟩
  rw [← hw0]
  clear hw0 hrow ht
  go_loopw [5] (fun iv wr => ∃ k : Nat, iv = .int .i64 (k : Int) ∧ k ≤ ks.length ∧ (∀ j, j < k → ordK (ks.getD j kd0) t < 0) ∧ Below w0.heap.size w0 wr) (fun iv _ => ks.length - (intOf iv).toNat)
  case atStart => exact ⟨0, rfl, by omega, by omega, Below.refl _ _⟩
  case round =>
    obtain ⟨k, rfl, hk, hlt, hbl⟩ := hrel
    have Hlt : Hid (∀ j, j < k → ordK (ks.getD j kd0) t < 0) := hlt
    clear hlt
    by_cases hkl : k < ks.length
    · have e1 : ∀ W, Below w0.heap.size w0 W → (W.cell? ⟨g, k * 4, none⟩ = some (.int .i64 (ks.getD k kd0).a.kind) ∧ W.cell? ⟨g, k * 4 + 1, none⟩ = some (.int .i64 (ks.getD k kd0).a.n) ∧ W.cell? ⟨g, k * 4 + 2, none⟩ = some (.string (ks.getD k kd0).a.s) ∧ W.cell? ⟨g, k * 4 + 3, none⟩ = some (.slice (ks.getD k kd0).A (flen (ks.getD k kd0).l) (ks.getD k kd0).cap)) ∧
          Box4 W w.heap.size (.int .i64 t.a.kind) (.int .i64 t.a.n) (.string t.a.s) (.slice t.A (flen t.l) t.cap) := fun W hW => ⟨(HR.out.below hW).at k hkl, HB.out.below hW⟩
      have c1 : ∀ W, Below w0.heap.size w0 W → Calls Tryd.prog 49 #[(ks.getD k kd0).val, t.val] W fun e w' => e = .returned (.bool (decide (ordK (ks.getD k kd0) t < 0))) ∧ Below w0.heap.size w0 w' :=
        fun W hW => (refLessK ((HR.out.below hW).ok k hkl) ⟨HT.out.1.below hW, HT.out.2⟩).mono (fun e w' h => ⟨h.1, hW.trans (h.2.mono hW.size)⟩)
      have c2 : ∀ W, Below w0.heap.size w0 W → Calls Tryd.prog 28 #[(ks.getD k kd0).val, t.val] W fun e w' => e = .returned (.bool (ordK (ks.getD k kd0) t == 0)) ∧ Below w0.heap.size w0 w' :=
        fun W hW => (refSameK ((HR.out.below hW).ok k hkl) ⟨HT.out.1.below hW, HT.out.2⟩).mono (fun e w' h => ⟨h.1, hW.trans (h.2.mono hW.size)⟩)
      generalize hx0 : ks.getD k kd0 = x at *
      have HX : Hid (ks.getD k kd0 = x) := hx0
      clear hx0
      have E1 : Hid _ := e1
      have C1 : Hid _ := c1
      have C2 : Hid _ := c2
      clear e1 c1 c2
      have hki : (k : Int) < (ks.length : Int) := by omega
      have hk0 : (0 : Int) ≤ (k : Int) := by omega
      by_cases hlx : ordK x t < 0
      · rw [decide_eq_true hlx] at C1
        go_wp2_with fail
        go_region_held3 (fun w' => (w'.cell? ⟨g, k * 4, none⟩ = some (.int .i64 x.a.kind) ∧ w'.cell? ⟨g, k * 4 + 1, none⟩ = some (.int .i64 x.a.n) ∧ w'.cell? ⟨g, k * 4 + 2, none⟩ = some (.string x.a.s) ∧ w'.cell? ⟨g, k * 4 + 3, none⟩ = some (.slice x.A (flen x.l) x.cap)) ∧ Box4 w' w.heap.size (.int .i64 t.a.kind) (.int .i64 t.a.n) (.string t.a.s) (.slice t.A (flen t.l) t.cap) ∧ Below w0.heap.size w0 w')
            (first | exact ⟨(E1.out _ hbl.drew).1, (E1.out _ hbl.drew).2, hbl.drew⟩ | exact ⟨(E1.out _ ho1).1, (E1.out _ ho1).2, ho1⟩)
            (first
              | (go_at_call 49; refine (C1.out _ ?_).mono ?_; exact (And.right (And.right (by assumption))); rintro e w1 ⟨rfl, ho1⟩))
        go_wp2_with fail
        go_roundw
        case rel => exact ⟨k + 1, by go_num, by omega, fun j hj => by rcases Nat.lt_or_ge j k with h | h; exact Hlt.out j h; rw [show j = k by omega, HX.out]; exact hlx, ho1⟩
        case measure => simp [intOf]; omega
      · rw [decide_eq_false hlx] at C1
        go_wp2_with fail
        go_region_held3 (fun w' => (w'.cell? ⟨g, k * 4, none⟩ = some (.int .i64 x.a.kind) ∧ w'.cell? ⟨g, k * 4 + 1, none⟩ = some (.int .i64 x.a.n) ∧ w'.cell? ⟨g, k * 4 + 2, none⟩ = some (.string x.a.s) ∧ w'.cell? ⟨g, k * 4 + 3, none⟩ = some (.slice x.A (flen x.l) x.cap)) ∧ Box4 w' w.heap.size (.int .i64 t.a.kind) (.int .i64 t.a.n) (.string t.a.s) (.slice t.A (flen t.l) t.cap) ∧ Below w0.heap.size w0 w')
            (first | exact ⟨(E1.out _ hbl.drew).1, (E1.out _ hbl.drew).2, hbl.drew⟩ | exact ⟨(E1.out _ ho1).1, (E1.out _ ho1).2, ho1⟩)
            (first
              | (go_at_call 49; refine (C1.out _ ?_).mono ?_; exact (And.right (And.right (by assumption))); rintro e w1 ⟨rfl, ho1⟩))
        by_cases heq : ordK x t = 0
        · rw [show (ordK x t == 0) = true from by simp [heq]] at C2
          go_wp2_with fail
          go_region_held3 (fun w' => (w'.cell? ⟨g, k * 4, none⟩ = some (.int .i64 x.a.kind) ∧ w'.cell? ⟨g, k * 4 + 1, none⟩ = some (.int .i64 x.a.n) ∧ w'.cell? ⟨g, k * 4 + 2, none⟩ = some (.string x.a.s) ∧ w'.cell? ⟨g, k * 4 + 3, none⟩ = some (.slice x.A (flen x.l) x.cap)) ∧ Box4 w' w.heap.size (.int .i64 t.a.kind) (.int .i64 t.a.n) (.string t.a.s) (.slice t.A (flen t.l) t.cap) ∧ Below w0.heap.size w0 w')
            (first | exact ⟨(E1.out _ ho1.drew).1, (E1.out _ ho1.drew).2, ho1.drew⟩ | exact ⟨(E1.out _ ho2).1, (E1.out _ ho2).2, ho2⟩)
            (first
              | (go_at_call 28; refine (C2.out _ ?_).mono ?_; exact (And.right (And.right (by assumption))); rintro e w2 ⟨rfl, ho2⟩))
          go_wp2_with fail
          go_ret
          exact ⟨ks, g, cap, ⟨k, by omega, Hlt.out, .inl ⟨hkl, by rw [HX.out, heq], rfl⟩⟩, rfl, hcap, hcm, hbw.trans (ho2.mono hbw.size), .inl rfl, HR.out.below ho2⟩
        · rw [show (ordK x t == 0) = false from by simp [heq]] at C2
          go_wp2_with fail
          go_region_held3 (fun w' => (w'.cell? ⟨g, k * 4, none⟩ = some (.int .i64 x.a.kind) ∧ w'.cell? ⟨g, k * 4 + 1, none⟩ = some (.int .i64 x.a.n) ∧ w'.cell? ⟨g, k * 4 + 2, none⟩ = some (.string x.a.s) ∧ w'.cell? ⟨g, k * 4 + 3, none⟩ = some (.slice x.A (flen x.l) x.cap)) ∧ Box4 w' w.heap.size (.int .i64 t.a.kind) (.int .i64 t.a.n) (.string t.a.s) (.slice t.A (flen t.l) t.cap) ∧ Below w0.heap.size w0 w')
            (first | exact ⟨(E1.out _ ho1.drew).1, (E1.out _ ho1.drew).2, ho1.drew⟩ | exact ⟨(E1.out _ ho2).1, (E1.out _ ho2).2, ho2⟩)
            (first
              | (go_at_call 28; refine (C2.out _ ?_).mono ?_; exact (And.right (And.right (by assumption))); rintro e w2 ⟨rfl, ho2⟩))
          have hend : Hid (k = ks.length ∨ 0 < ordK (ks.getD k kd0) t) := by show k = ks.length ∨ 0 < ordK (ks.getD k kd0) t; rw [HX.out]; omega
          clear E1 C1 C2
          obtain ⟨P1, hP1⟩ : ∃ P1 : List Value, P1 = rowOf ((ks.drop 0).take k) := ⟨_, rfl⟩
          obtain ⟨P2, hP2⟩ : ∃ P2 : List Value, P2 = rowOf ((ks.drop k).take (ks.length - k)) := ⟨_, rfl⟩
          have H1 : Hid (P1 = rowOf ((ks.drop 0).take k)) := hP1
          have H2 : Hid (P2 = rowOf ((ks.drop k).take (ks.length - k))) := hP2
          clear hP1 hP2
          have R5 : Hid (RowT w2 g ks) := HR.out.below ho2
          have B5 : Hid (Box4 w2 w.heap.size (.int .i64 t.a.kind) (.int .i64 t.a.n) (.string t.a.s) (.slice t.A (flen t.l) t.cap)) := HB.out.below ho2
          have T5 : Hid (t.Ok w2 (fun b => b < w2.heap.size) ∧ t.Ar) := ⟨HT.out.1.below ho2, HT.out.2⟩
          go_wp2_with (at_builtin; refine wpList_append_any _ rfl _ _ 24 rfl w2.heap.size 29 i (.agg #[.int .i64 0, .int .i64 0, .string ⟨#[]⟩, .slice none 0 0]) 4 56 Tryd.underlying24 hi hz0 hz1 hz2 rfl (by decide) (.slice (some ⟨w2.heap.size, 0, none⟩) 0 0) 0 [] rfl ?own (some ⟨g, 0, none⟩) k cap P1 rfl ?src ?c3 ?c4 ?c5 ?_)
          case own => exact ⟨rfl, .inr ⟨w2.heap.size, 0, #[], rfl, Nat.le_refl _, heap_alloc_new w2 _, Nat.le_refl _, Nat.zero_le _, rfl, rfl⟩⟩
          case src => rw [H1.out]; have h := (R5.out.below (Below.alloc (Below.refl _ _) (Nat.le_refl _) (.cells #[] 29))).src 0 k (by omega); rw [Nat.zero_mul] at h; exact h
          case c3 => unfold maxLen; omega
          case c4 => omega
          case c5 => simp
          intro v6 w6 hown6 hgrow6 hat6
          have hs6 := hgrow6.size
          simp only [World.heap_size_alloc'] at hs6
          have hb6 : Below w2.heap.size w2 w6 := ⟨hgrow6.os, hgrow6.tape, hgrow6.output, by omega, fun q hq => by rw [hgrow6.block q (by simp; omega) (fun e => by simp [Value.ownBlock] at e; omega), Below.heap_alloc _ _ _ (by omega)]⟩
          have o6 : w6.ownsRow w2.heap.size 29 4 v6 k P1 := by simpa using hown6
          have O6 : Hid (w6.ownsRow w2.heap.size 29 4 v6 k P1) := o6
          obtain ⟨c60, c61, c62, c63, c64⟩ := B5.out.below hb6
          clear hown6 o6
          go_wp2_with fail
          go_region_held3 (fun w' => RowT w' g ks ∧ Box4 w' w.heap.size (.int .i64 t.a.kind) (.int .i64 t.a.n) (.string t.a.s) (.slice t.A (flen t.l) t.cap) ∧ Below w2.heap.size w2 w')
            (first | exact tailS R5.out B5.out hb6.drew | exact tailS R5.out B5.out (Below.alloc (And.right (And.right (by assumption))) (by simp; omega) _) | exact tailS R5.out B5.out (grown_belowT (And.right (And.right (by assumption))) hgrow8 (fun q hq => (hown7.lt q hq).1)) | exact tailS R5.out B5.out (grown_belowT (And.right (And.right (by assumption))) hgrow7 (fun q hq => (O6.out.lt q hq).1)) | assumption)
            (first
              | (refine step_append_any _ (by rfl) _ _ 24 (by rfl) w2.heap.size 29 i (.agg #[.int .i64 0, .int .i64 0, .string ⟨#[]⟩, .slice none 0 0]) 4 56 Tryd.underlying24 hi hz0 hz1 hz2 rfl (by decide) v6 k P1 (by rfl) ((World.ownsRow.drew O6.out).alloc _) (some ⟨w6.heap.size, 0, none⟩) 1 1 [.int .i64 t.a.kind, .int .i64 t.a.n, .string t.a.s, .slice t.A (flen t.l) t.cap] (by rfl) (.inr ⟨_, rfl, rfl, World.news_of_block (cs := #[.int .i64 t.a.kind, .int .i64 t.a.n, .string t.a.s, .slice t.A (flen t.l) t.cap]) (t := 29) (fr := (0, 0)) (heap_alloc_new w6.drew _), by simp [Value.oneCell']⟩) (by unfold maxLen; omega) (by omega) (by simp; omega) ?_; intro v7 w7 hown7 hgrow7 hat7)
              | (refine step_append_any _ (by rfl) _ _ 24 (by rfl) w2.heap.size 29 i (.agg #[.int .i64 0, .int .i64 0, .string ⟨#[]⟩, .slice none 0 0]) 4 56 Tryd.underlying24 hi hz0 hz1 hz2 rfl (by decide) v7 (k + 1) (P1 ++ [.int .i64 t.a.kind, .int .i64 t.a.n, .string t.a.s, .slice t.A (flen t.l) t.cap]) (by rfl) hown7 (if cap = k then some ⟨g, 0, none⟩ else some ⟨g, k * 4, none⟩) (ks.length - k) (cap - k) P2 (by rfl) (by rw [H2.out]; exact RowT.src_tail (And.left (by assumption)) (by omega) (by omega)) (by unfold maxLen; omega) (by omega) (Below.size (And.right (And.right (by assumption)))) ?_; intro v8 w8 hown8 hgrow8 hat8))
          have hfin : RowT w8 g ks ∧ Box4 w8 w.heap.size (.int .i64 t.a.kind) (.int .i64 t.a.n) (.string t.a.s) (.slice t.A (flen t.l) t.cap) ∧ Below w2.heap.size w2 w8 := by assumption
          have O8 : Hid (w8.ownsRow w2.heap.size 29 4 v8 (k + 1 + (ks.length - k)) ((P1 ++ [.int .i64 t.a.kind, .int .i64 t.a.n, .string t.a.s, .slice t.A (flen t.l) t.cap]) ++ P2)) := hown8
          clear hown8 hown7
          go_wp2_with fail
          all_goals go_ret
          all_goals first | exact add_done (w1 := w2) (by omega) (by omega) Hlt.out hend.out H1.out H2.out O8.out (hbw.trans (ho2.mono hbw.size)) hfin.2.2 R5.out.2.2 T5.out | exact add_done (w1 := w2) (by omega) (by omega) Hlt.out (.inl rfl) H1.out H2.out O8.out (hbw.trans (ho2.mono hbw.size)) hfin.2.2 R5.out.2.2 T5.out
    · obtain rfl : k = ks.length := by omega
      have hend : Hid (ks.length = ks.length ∨ 0 < ordK (ks.getD ks.length kd0) t) := .inl rfl
      · · have hdf : decide ((ks.length : Int) < (ks.length : Int)) = false := by simp
          go_wp2_with fail
          go_quiet (fail)
          have hb2 := below_drewN hbl nq
          generalize wr.drewN nq = wq at *
          clear hbl
          go_wp2_with fail
          go_quiet (fail)
          have ho2 := below_drewN hb2 nq
          generalize wq.drewN nq = w2 at *
          clear hb2
          obtain ⟨P1, hP1⟩ : ∃ P1 : List Value, P1 = rowOf ((ks.drop 0).take ks.length) := ⟨_, rfl⟩
          obtain ⟨P2, hP2⟩ : ∃ P2 : List Value, P2 = rowOf ((ks.drop ks.length).take (ks.length - ks.length)) := ⟨_, rfl⟩
          have H1 : Hid (P1 = rowOf ((ks.drop 0).take ks.length)) := hP1
          have H2 : Hid (P2 = rowOf ((ks.drop ks.length).take (ks.length - ks.length))) := hP2
          clear hP1 hP2
          have R5 : Hid (RowT w2 g ks) := HR.out.below ho2
          have B5 : Hid (Box4 w2 w.heap.size (.int .i64 t.a.kind) (.int .i64 t.a.n) (.string t.a.s) (.slice t.A (flen t.l) t.cap)) := HB.out.below ho2
          have T5 : Hid (t.Ok w2 (fun b => b < w2.heap.size) ∧ t.Ar) := ⟨HT.out.1.below ho2, HT.out.2⟩
          go_wp2_with (at_builtin; refine wpList_append_any _ rfl _ _ 24 rfl w2.heap.size 29 i (.agg #[.int .i64 0, .int .i64 0, .string ⟨#[]⟩, .slice none 0 0]) 4 56 Tryd.underlying24 hi hz0 hz1 hz2 rfl (by decide) (.slice (some ⟨w2.heap.size, 0, none⟩) 0 0) 0 [] rfl ?own (some ⟨g, 0, none⟩) ks.length cap P1 rfl ?src ?c3 ?c4 ?c5 ?_)
          case own => exact ⟨rfl, .inr ⟨w2.heap.size, 0, #[], rfl, Nat.le_refl _, heap_alloc_new w2 _, Nat.le_refl _, Nat.zero_le _, rfl, rfl⟩⟩
          case src => rw [H1.out]; have h := (R5.out.below (Below.alloc (Below.refl _ _) (Nat.le_refl _) (.cells #[] 29))).src 0 ks.length (by omega); rw [Nat.zero_mul] at h; exact h
          case c3 => unfold maxLen; omega
          case c4 => omega
          case c5 => simp
          intro v6 w6 hown6 hgrow6 hat6
          have hs6 := hgrow6.size
          simp only [World.heap_size_alloc'] at hs6
          have hb6 : Below w2.heap.size w2 w6 := ⟨hgrow6.os, hgrow6.tape, hgrow6.output, by omega, fun q hq => by rw [hgrow6.block q (by simp; omega) (fun e => by simp [Value.ownBlock] at e; omega), Below.heap_alloc _ _ _ (by omega)]⟩
          have o6 : w6.ownsRow w2.heap.size 29 4 v6 ks.length P1 := by simpa using hown6
          have O6 : Hid (w6.ownsRow w2.heap.size 29 4 v6 ks.length P1) := o6
          obtain ⟨c60, c61, c62, c63, c64⟩ := B5.out.below hb6
          clear hown6 o6
          go_wp2_with fail
          go_region_held3 (fun w' => RowT w' g ks ∧ Box4 w' w.heap.size (.int .i64 t.a.kind) (.int .i64 t.a.n) (.string t.a.s) (.slice t.A (flen t.l) t.cap) ∧ Below w2.heap.size w2 w')
            (first | exact tailS R5.out B5.out hb6.drew | exact tailS R5.out B5.out (Below.alloc (And.right (And.right (by assumption))) (by simp; omega) _) | exact tailS R5.out B5.out (grown_belowT (And.right (And.right (by assumption))) hgrow8 (fun q hq => (hown7.lt q hq).1)) | exact tailS R5.out B5.out (grown_belowT (And.right (And.right (by assumption))) hgrow7 (fun q hq => (O6.out.lt q hq).1)) | assumption)
            (first
              | (refine step_append_any _ (by rfl) _ _ 24 (by rfl) w2.heap.size 29 i (.agg #[.int .i64 0, .int .i64 0, .string ⟨#[]⟩, .slice none 0 0]) 4 56 Tryd.underlying24 hi hz0 hz1 hz2 rfl (by decide) v6 ks.length P1 (by rfl) ((World.ownsRow.drew O6.out).alloc _) (some ⟨w6.heap.size, 0, none⟩) 1 1 [.int .i64 t.a.kind, .int .i64 t.a.n, .string t.a.s, .slice t.A (flen t.l) t.cap] (by rfl) (.inr ⟨_, rfl, rfl, World.news_of_block (cs := #[.int .i64 t.a.kind, .int .i64 t.a.n, .string t.a.s, .slice t.A (flen t.l) t.cap]) (t := 29) (fr := (0, 0)) (heap_alloc_new w6.drew _), by simp [Value.oneCell']⟩) (by unfold maxLen; omega) (by omega) (by simp; omega) ?_; intro v7 w7 hown7 hgrow7 hat7)
              | (refine step_append_any _ (by rfl) _ _ 24 (by rfl) w2.heap.size 29 i (.agg #[.int .i64 0, .int .i64 0, .string ⟨#[]⟩, .slice none 0 0]) 4 56 Tryd.underlying24 hi hz0 hz1 hz2 rfl (by decide) v7 (ks.length + 1) (P1 ++ [.int .i64 t.a.kind, .int .i64 t.a.n, .string t.a.s, .slice t.A (flen t.l) t.cap]) (by rfl) hown7 (if cap = ks.length then some ⟨g, 0, none⟩ else some ⟨g, ks.length * 4, none⟩) (0) (cap - ks.length) P2 (by rfl) (by rw [H2.out]; exact .inl ⟨rfl, by simp [rowOf]⟩) (by unfold maxLen; omega) (by omega) (Below.size (And.right (And.right (by assumption)))) ?_; intro v8 w8 hown8 hgrow8 hat8))
          have hfin : RowT w8 g ks ∧ Box4 w8 w.heap.size (.int .i64 t.a.kind) (.int .i64 t.a.n) (.string t.a.s) (.slice t.A (flen t.l) t.cap) ∧ Below w2.heap.size w2 w8 := by assumption
          have O8 : Hid (w8.ownsRow w2.heap.size 29 4 v8 (ks.length + 1 + (0)) ((P1 ++ [.int .i64 t.a.kind, .int .i64 t.a.n, .string t.a.s, .slice t.A (flen t.l) t.cap]) ++ P2)) := hown8
          clear hown8 hown7
          go_wp2_with fail
          all_goals go_ret
          all_goals first | exact add_done (w1 := w2) (by omega) (by omega) Hlt.out hend.out H1.out H2.out O8.out (hbw.trans (ho2.mono hbw.size)) hfin.2.2 R5.out.2.2 T5.out | exact add_done (w1 := w2) (by omega) (by omega) Hlt.out (.inl rfl) H1.out H2.out O8.out (hbw.trans (ho2.mono hbw.size)) hfin.2.2 R5.out.2.2 T5.out

set_option maxRecDepth 20000 in
set_option maxHeartbeats 4000000 in
theorem add_nil (t : Kd) (g : Nat) (w : World) (ht : t.Ok w (fun b => b < w.heap.size) ∧ t.Ar) :
    Calls Tryd.prog 31 #[.slice none 0 0, t.val] w fun e w' => AddEnd w [] t g e w' := by
  obtain ⟨i, hi, hz0, hz1, hz2⟩ := info_get Tryd.infoTerm
  go_enter Tryd.func31, Tryd.ntmps31
  go_wp2_with fail
  obtain ⟨w0, hw0⟩ : ∃ w0, w0 = w.alloc (.cells #[.int .i64 t.a.kind, .int .i64 t.a.n, .string t.a.s, .slice t.A (flen t.l) t.cap] 29) := ⟨_, rfl⟩
  have hbw : Below w.heap.size w w0 := by rw [hw0]; exact Below.alloc (Below.refl _ _) (Nat.le_refl _) _
  have HB : Hid (Box4 w0 w.heap.size (.int .i64 t.a.kind) (.int .i64 t.a.n) (.string t.a.s) (.slice t.A (flen t.l) t.cap)) := by show Box4 _ _ _ _ _ _; rw [hw0]; exact Box4.new _ _ _ _ _ _
  have HT : Hid (t.Ok w0 (fun b => b < w0.heap.size) ∧ t.Ar) := ⟨ht.1.below hbw, ht.2⟩
  rw [← hw0]
  clear hw0 ht
  go_loopw [5] (fun iv wr => iv = .int .i64 0 ∧ w0 = wr) (fun _ _ => 0)
  case atStart => exact ⟨rfl, rfl⟩
  case round =>
    obtain ⟨rfl, rfl⟩ := hrel
    have hdf : decide ((0 : Int) < ((0 : Nat) : Int)) = false := by simp
    go_wp2_with fail
    go_quiet (fail)
    have hb2 := below_drewN (Below.refl w0.heap.size w0) nq
    generalize w0.drewN nq = wq at *
    go_wp2_with fail
    go_quiet (fail)
    have ho2 := below_drewN hb2 nq
    generalize wq.drewN nq = w2 at *
    clear hb2
    have B5 : Hid (Box4 w2 w.heap.size (.int .i64 t.a.kind) (.int .i64 t.a.n) (.string t.a.s) (.slice t.A (flen t.l) t.cap)) := HB.out.below ho2
    have T5 : Hid (t.Ok w2 (fun b => b < w2.heap.size) ∧ t.Ar) := ⟨HT.out.1.below ho2, HT.out.2⟩
    go_wp2_with fail
    have o6 : (w2.alloc (.cells #[] 29)).ownsRow w2.heap.size 29 4 (.slice (some ⟨w2.heap.size, 0, none⟩) 0 0) 0 [] := ⟨rfl, .inr ⟨w2.heap.size, 0, #[], rfl, Nat.le_refl _, heap_alloc_new w2 _, Nat.le_refl _, Nat.zero_le _, rfl, rfl⟩⟩
    have O6 : Hid ((w2.alloc (.cells #[] 29)).ownsRow w2.heap.size 29 4 (.slice (some ⟨w2.heap.size, 0, none⟩) 0 0) 0 []) := o6
    clear o6
    have hb6 : Below w2.heap.size w2 (w2.alloc (.cells #[] 29)) := Below.alloc (Below.refl _ _) (Nat.le_refl _) _
    go_region_held3 (fun w' => Box4 w' w.heap.size (.int .i64 t.a.kind) (.int .i64 t.a.n) (.string t.a.s) (.slice t.A (flen t.l) t.cap) ∧ Below w2.heap.size w2 w')
      (first | exact boxS B5.out hb6.drew | exact boxS B5.out (Below.drew (Below.alloc hb6 (by simp) _)) | exact boxS B5.out (Below.alloc (And.right (by assumption)) (by simp) _) | exact boxS B5.out (grown_belowT (And.right (by assumption)) hgrow8 (fun q hq => (hown7.lt q hq).1)) | exact boxS B5.out (grown_belowT (And.right (by assumption)) hgrow7 (fun q hq => (O6.out.lt q hq).1)) | assumption)
      (first
        | (refine step_append_any _ (by rfl) _ _ 24 (by rfl) w2.heap.size 29 i (.agg #[.int .i64 0, .int .i64 0, .string ⟨#[]⟩, .slice none 0 0]) 4 56 Tryd.underlying24 hi hz0 hz1 hz2 rfl (by decide) (.slice (some ⟨w2.heap.size, 0, none⟩) 0 0) 0 [] (by rfl) (World.ownsRow.alloc (World.ownsRow.drew O6.out) _) (some ⟨w2.heap.size + 1, 0, none⟩) 1 1 [.int .i64 t.a.kind, .int .i64 t.a.n, .string t.a.s, .slice t.A (flen t.l) t.cap] (by rfl) (.inr ⟨_, rfl, rfl, World.news_of_block (cs := #[.int .i64 t.a.kind, .int .i64 t.a.n, .string t.a.s, .slice t.A (flen t.l) t.cap]) (t := 29) (fr := (0, 0)) (by have h := heap_alloc_new (w2.alloc (.cells #[] 29)) (.cells #[.int .i64 t.a.kind, .int .i64 t.a.n, .string t.a.s, .slice t.A (flen t.l) t.cap] 29); rw [World.heap_size_alloc'] at h; exact h), by simp [Value.oneCell']⟩) (by unfold maxLen; omega) (by omega) (by simp; omega) ?_; intro v7 w7 hown7 hgrow7 hat7)
        | (refine step_append_any _ (by rfl) _ _ 24 (by rfl) w2.heap.size 29 i (.agg #[.int .i64 0, .int .i64 0, .string ⟨#[]⟩, .slice none 0 0]) 4 56 Tryd.underlying24 hi hz0 hz1 hz2 rfl (by decide) v7 (0 + 1) ([] ++ [.int .i64 t.a.kind, .int .i64 t.a.n, .string t.a.s, .slice t.A (flen t.l) t.cap]) (by rfl) hown7 none 0 0 [] (by rfl) (.inl ⟨rfl, rfl⟩) (by unfold maxLen; omega) (by omega) (Below.size (And.right (by assumption))) ?_; intro v8 w8 hown8 hgrow8 hat8))
    have hfin : Box4 w8 w.heap.size (.int .i64 t.a.kind) (.int .i64 t.a.n) (.string t.a.s) (.slice t.A (flen t.l) t.cap) ∧ Below w2.heap.size w2 w8 := by assumption
    have O8 : Hid (w8.ownsRow w2.heap.size 29 4 v8 (0 + 1 + 0) (([] ++ [.int .i64 t.a.kind, .int .i64 t.a.n, .string t.a.s, .slice t.A (flen t.l) t.cap]) ++ [])) := hown8
    clear hown8 hown7
    go_wp2_with fail
    all_goals go_ret
    all_goals exact add_done (ks := []) (k := 0) (m := 0) (P1 := []) (P2 := []) (w1 := w2) (by omega) (by simp) (by omega) (.inl rfl) rfl rfl O8.out (hbw.trans (ho2.mono hbw.size)) hfin.2 (by simp) T5.out

end Go.Proofs.YtldpnhlifgkmiaaDoor
