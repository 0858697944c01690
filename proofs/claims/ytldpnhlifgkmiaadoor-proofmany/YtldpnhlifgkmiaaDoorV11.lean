import Derived.Test.YtldpnhlifgkmiaaDoorV10
import Derived.Test.YtldpnhlifgkmiaaDoorKF
namespace Go.Proofs.YtldpnhlifgkmiaaDoor
open Go.RowKit
set_option linter.unusedVariables false
set_option linter.unusedSimpArgs false

set_option maxRecDepth 20000 in
set_option maxHeartbeats 1000000 in
/-- Of nothing there is no way to a nonce. -/
theorem wayNone (w : World) (htab : Tab10 w.heap.size w) :
    Calls Tryd.prog 36 #[.slice none 0 0, .agg #[.int .i64 2, .int .i64 1, .string ⟨#[]⟩, .slice none 0 0]] w fun e w' => e = .returned (.tuple #[.slice none 0 0, .bool false]) ∧ Below w.heap.size w w' := by
  have HTB : Hid (Tab10 w.heap.size w) := htab
  clear htab
  have hba : Below w.heap.size w (w.alloc (.cells #[.int .i64 2, .int .i64 1, .string ⟨#[]⟩, .slice none 0 0] 29)) := Below.alloc (Below.refl _ _) (Nat.le_refl _) _
  go_enter Tryd.func36, Tryd.ntmps36
  go_wp2_with fail
  refine (knowCan_any [] _ kN .nil _ 0 _ (sl_none _) (fun k hk => by cases hk) (by simp [nodesK]) (by simp) (rep_kN _ 0) (Nat.zero_le _) may_kN (HTB.out.keep hba)).mono ?_
  intro e w1 h
  obtain ⟨rfl, hb1⟩ := canEnd_false knows_kN h
  have hb : Below w.heap.size w w1 := hba.trans (hb1.mono (by simp))
  clear h hb1
  go_wp2_with fail
  refine bodyPost_ret (v := .tuple #[.slice none 0 0, .bool false]) (by simp [results, Tryd.results36]) rfl ?_
  exact ⟨rfl, hb⟩

def fA : Fo := .node 0 0 kA .nil .nil
theorem may_kHA : may kH fA = true := by simp [may, mayT, mayB, mayF, formedB, kidsOf, flen, kH, fA, kA, empB]; decide
def mA : Mv := ⟨2, 0, 0, ⟨#[97]⟩⟩
def mH : Mv := ⟨6, 0, 0, ⟨#[]⟩⟩
theorem run_AH : runP [] [mA, mH] = .ok [(kA, .nil), (kH, fA)] := by
  have h1 : stepP [] [] mA = .ok (kA, .nil) := by
    have : rawP [] [] mA = .ok (kA, .nil) := by simp [rawP, mA, kA]
    unfold stepP
    rw [this]
    unfold mayP
    simp only [may_kA, if_true]
  have h2 : stepP [] [(kA, .nil)] mH = .ok (kH, fA) := by
    have : rawP [] [(kA, .nil)] mH = .ok (kH, fA) := by simp [rawP, mH, kH, fA, onP, atL]
    unfold stepP
    rw [this]
    unfold mayP
    simp only [may_kHA, if_true]
  unfold runP
  rw [if_neg (by simp), runS, h1]
  simp only [List.nil_append]
  rw [runS, h2]
  rfl
theorem run_0 : runP [] [mv0] = .error 2 := by
  have h1 : stepP [] [] mv0 = .error 2 := by simp [stepP, mayP, rawP, mv0]
  unfold runP
  rw [if_neg (by simp), runS, h1]

set_option maxRecDepth 100000 in
set_option maxHeartbeats 4000000 in
theorem known4_any (w : World) (htab : Tab10 w.heap.size w) : Calls Tryd.prog 22 #[] w fun e w' => e = .returned (.bool true) ∧ Below w.heap.size w w' := by
  have HTB : Hid (Tab10 w.heap.size w) := htab
  clear htab
  go_enter Tryd.func22, Tryd.ntmps22
  go_wp2_with fail
  have hal : Below w.heap.size w (w.alloc (.cells #[.int .i64 2, .int .i64 0, .int .i64 0, .string ⟨#[97]⟩, .int .i64 6, .int .i64 0, .int .i64 0, .string ⟨#[]⟩] 47)) := Below.alloc (Below.refl _ _) (Nat.le_refl _) _
  refine Calls.mono (run_any [] _ [mA, mH] (some ⟨w.heap.size, 0, none⟩) 2 (w.heap.size + 1) _ (sl_none _) (by simp) (by simp) (by simp) (.inr ⟨w.heap.size, 0, rfl, by omega, fun i hi => ?hx⟩) (by simp) (by intro m hm; simp only [List.mem_cons, List.not_mem_nil, or_false] at hm; rcases hm with rfl | rfl <;> (unfold maxLen; decide))) ?_
  case hx =>
    simp only [List.length_cons, List.length_nil] at hi
    rcases (show i = 0 ∨ i = 1 by omega) with rfl | rfl <;> simp [go_sem, mA, mH]
  intro e w1 h
  have hr := run_AH
  obtain ⟨hb1, ⟨z, hz, _, _⟩ | ⟨js, v, hjs, rfl, hta, hjl⟩⟩ := h
  · rw [show tms ([] : List Kd) = [] from rfl, hr] at hz; cases hz
  rw [show tms ([] : List Kd) = [] from rfl, hr] at hjs
  injection hjs with hjs
  obtain ⟨k1, k2, rfl⟩ : ∃ k1 k2, js = [k1, k2] := by
    match js, hjl with
    | [k1, k2], _ => exact ⟨k1, k2, rfl⟩
  simp only [tms, List.map_cons, List.map_nil, List.cons.injEq, Prod.mk.injEq, and_true] at hjs
  obtain ⟨hsl, hmm⟩ := hta.sl
  obtain ⟨A, c, rfl, hA⟩ := hsl.len
  obtain ⟨g, rfl, hrow⟩ : ∃ g, A = some ⟨g, 0, none⟩ ∧ RowT w1 g [k1, k2] := by rcases hA with h | h; simp at h; exact h
  have hbw1 : Below w.heap.size w w1 := hal.trans (hb1.mono (by simp))
  have HROW : Hid (RowT w1 g [k1, k2]) := hrow
  have HK2 : Hid (kH = k2.a ∧ fA = k2.l) := hjs.2
  simp only [List.length_cons, List.length_nil, Nat.zero_add, Nat.reduceAdd]
  clear hr hjs hta hsl hmm hA hrow hjl hb1
  go_wp2_with fail
  have hal1 : Below w1.heap.size w1 (w1.alloc (.cells #[.int .i64 0, .int .i64 0, .int .i64 0, .string ⟨#[]⟩] 47)) := Below.alloc (Below.refl _ _) (Nat.le_refl _) _
  refine Calls.mono (run_any [] _ [mv0] (some ⟨w1.heap.size, 0, none⟩) 1 (w1.heap.size + 1) _ (sl_none _) (by simp) (by simp) (by simp) (.inr ⟨w1.heap.size, 0, rfl, by omega, fun i hi => ?hx⟩) (by simp) (by intro m hm; simp only [List.mem_singleton] at hm; rw [hm]; unfold maxLen; decide)) ?_
  case hx =>
    simp only [List.length_cons, List.length_nil] at hi
    (obtain rfl : i = 0 := by omega); simp [go_sem, mv0]
  intro e w2 h
  have hr := run_0
  obtain ⟨hb2, ⟨z, hz, _, rfl⟩ | ⟨js, v, hjs, _⟩⟩ := h
  rotate_left
  · rw [show tms ([] : List Kd) = [] from rfl, hr] at hjs; cases hjs
  rw [show tms ([] : List Kd) = [] from rfl, hr] at hz
  injection hz with hz
  subst hz
  have hb2r : Below w1.heap.size w1 w2 := hal1.trans (hb2.mono (by simp))
  clear hr hb2
  go_wp2_with fail
  refine (refN_lit _ _).mono ?_
  rintro e w3 ⟨rfl, ho3⟩
  have hb3r : Below w1.heap.size w1 w3 := hb2r.trans (ho3.mono hb2r.size)
  go_wp2_with fail
  refine (wayNone w3 (HTB.out.keep (hbw1.trans (hb3r.mono hbw1.size)))).mono ?_
  rintro e w4 ⟨rfl, ho4⟩
  have hb4r : Below w1.heap.size w1 w4 := hb3r.trans (ho4.mono hb3r.size)
  clear ho3 ho4
  have HS : Hid (∀ W, Below w1.heap.size w1 W → (W.cell? ⟨g, 4, none⟩ = some (.int .i64 k2.a.kind) ∧ W.cell? ⟨g, 4 + 1, none⟩ = some (.int .i64 k2.a.n) ∧ W.cell? ⟨g, 4 + 2, none⟩ = some (.string k2.a.s) ∧ W.cell? ⟨g, 4 + 3, none⟩ = some (.slice k2.A (flen k2.l) k2.cap)) ∧ Below w1.heap.size w1 W) := fun W hW => ⟨by have := (HROW.out.below hW).at 1 (by simp); simpa [List.getD] using this, hW⟩
  have HT : Hid (∀ W, Below w1.heap.size w1 W → Calls Tryd.prog 20 #[.int .i64 3, .slice (some ⟨W.heap.size, 0, none⟩) 1 1] (W.alloc (.cells #[.int .i64 1, .int .i64 0, .string ⟨#[97]⟩, .slice none 0 0] 29)) fun e w' => e = .returned (.agg #[.int .i64 3, .int .i64 0, .string ⟨#[]⟩, .slice (some ⟨W.heap.size, 0, none⟩) 1 1]) ∧ Below w1.heap.size w1 w' ∧ Hid (RepV w' w'.heap.size kH fA (.agg #[.int .i64 3, .int .i64 0, .string ⟨#[]⟩, .slice (some ⟨W.heap.size, 0, none⟩) 1 1]))) := fun W hW =>
    (refT_lit 3 _ 1 1 _).mono fun e w' h => by
      obtain ⟨h1, h2⟩ := h
      have hs := h2.size
      have cc : ∀ o, w'.cell? ⟨W.heap.size, o, none⟩ = (#[.int .i64 1, .int .i64 0, .string ⟨#[97]⟩, .slice none 0 0] : Array Value)[o]? := fun o => by rw [h2.cell (by simp)]; simp [go_sem]
      refine ⟨h1, (Below.alloc hW hW.size _).trans (h2.mono (by have := hW.size; simp; omega)), fit_kH, some ⟨W.heap.size, 0, none⟩, 1, W.heap.size, 0, rfl, by simp [flen, fA], .inr rfl, by simp at hs; omega, fit_kA, by rw [cc]; rfl, by rw [cc]; rfl, by rw [cc]; rfl, ⟨none, 0, 0, 0, by rw [cc]; rfl, ⟨Nat.zero_le _, Nat.zero_le _⟩, .inl rfl, trivial⟩, trivial⟩
  have HSA : Hid (∀ W (v : Value), Below w1.heap.size w1 W → RepV W W.heap.size kH fA v → Calls Tryd.prog 28 #[k2.val, v] W fun e w' => e = .returned (.bool true) ∧ Below w1.heap.size w1 w') := fun W v hW hv => by
    have hok := HROW.out.2.2 k2 (by simp)
    have har := may_ar _ _ may_kHA
    refine (refSame_any k2.a k2.l kH fA _ _ W.heap.size W (Kd.rep (hok.1.below hW)) hv (Nat.le_refl _) hok.2.1 har.1 hok.2.2 har.2).mono ?_
    rintro e w' ⟨rfl, h⟩
    refine ⟨?_, hW.trans (h.mono hW.size)⟩
    rw [← HK2.out.1, ← HK2.out.2, ordT_self]; rfl
  go_wp2_with fail
  go_region_held3 (fun w' => (w'.cell? ⟨g, 4, none⟩ = some (.int .i64 k2.a.kind) ∧ w'.cell? ⟨g, 4 + 1, none⟩ = some (.int .i64 k2.a.n) ∧ w'.cell? ⟨g, 4 + 2, none⟩ = some (.string k2.a.s) ∧ w'.cell? ⟨g, 4 + 3, none⟩ = some (.slice k2.A (flen k2.l) k2.cap)) ∧ Below w1.heap.size w1 w')
    (first | assumption | exact HS.out _ hb4r.drew | exact HS.out _ ho6 | exact HS.out _ (Below.alloc ho6 (Below.size ho6) _) | exact HS.out _ ho7 | exact HS.out _ ho8)
    (first
      | (go_at_call 21; refine (refA_any _ _).mono ?_; rintro e w6 ⟨rfl, ho6'⟩; have ho6 : Below w1.heap.size w1 w6 := (hb4r.drew).trans (ho6'.mono hb4r.drew.size))
      | (go_at_call 20; refine (HT.out w6 ho6).mono ?_; rintro e w7 ⟨rfl, ho7, hrep7⟩)
      | (go_at_call 28; refine (HSA.out w7 _ ho7 hrep7.out).mono ?_; rintro e w8 ⟨rfl, ho8⟩))
  go_wp2_with fail
  go_ret
  exact ⟨rfl, hbw1.trans (ho8.mono hbw1.size)⟩

end Go.Proofs.YtldpnhlifgkmiaaDoor
