import Derived.Test.YtldpnhlifgkmiaaDoorV4
namespace Go.Proofs.YtldpnhlifgkmiaaDoor
open Go.RowKit
set_option linter.unusedVariables false
set_option linter.unusedSimpArgs false

def PtEnd (w : World) (ks : List Kd) (xs : List Int) (e : Ending) (w' : World) : Prop :=
  Below w.heap.size w w' ∧ (((∀ x ∈ xs, inR ks.length x) ∧ ∃ g c, e = .returned (.tuple #[.slice (some ⟨g, 0, none⟩) xs.length c, .bool true]) ∧ w.heap.size ≤ g ∧ xs.length ≤ c ∧ RowT w' g (pickK ks xs)) ∨ ((∃ x ∈ xs, ¬ inR ks.length x) ∧ e = .returned (.tuple #[.slice none 0 0, .bool false])))

theorem PickEnd.pt {w0 w : World} {ks : List Kd} {xs : List Int} {e : Ending} {w' : World} (h : PickEnd w ks xs e w') (hb : Below w0.heap.size w0 w) : PtEnd w0 ks xs e w' := by
  obtain ⟨h1, h2⟩ := h
  refine ⟨hb.trans (h1.mono hb.size), ?_⟩
  rcases h2 with ⟨h3, g, c, h4, h5, h6, h7⟩ | h2
  · exact .inl ⟨h3, g, c, h4, Nat.le_trans hb.size h5, h6, h7⟩
  · exact .inr h2

theorem as_1_1 (w : World) : (Instr.typeAssert (.iface 108 (.agg #[])) 85 108 true).run Tryd.prog w = .ok (.tuple #[.agg #[], .bool true]) w := by kernel_rfl
theorem as_o_1 (a b : Int) (w : World) : (Instr.typeAssert (.iface 102 (.agg #[.int .i64 a, .int .i64 b])) 85 108 true).run Tryd.prog w = .ok (.tuple #[.agg #[], .bool false]) w := by kernel_rfl
theorem as_o_o (a b : Int) (w : World) : (Instr.typeAssert (.iface 102 (.agg #[.int .i64 a, .int .i64 b])) 85 102 true).run Tryd.prog w = .ok (.tuple #[.agg #[.int .i64 a, .int .i64 b], .bool true]) w := by kernel_rfl
theorem as_b_1 (a b : Int) (w : World) : (Instr.typeAssert (.iface 112 (.agg #[.int .i64 a, .int .i64 b])) 85 108 true).run Tryd.prog w = .ok (.tuple #[.agg #[], .bool false]) w := by kernel_rfl
theorem as_b_o (a b : Int) (w : World) : (Instr.typeAssert (.iface 112 (.agg #[.int .i64 a, .int .i64 b])) 85 102 true).run Tryd.prog w = .ok (.tuple #[.agg #[.int .i64 0, .int .i64 0], .bool false]) w := by kernel_rfl
theorem as_b_b (a b : Int) (w : World) : (Instr.typeAssert (.iface 112 (.agg #[.int .i64 a, .int .i64 b])) 85 112 true).run Tryd.prog w = .ok (.tuple #[.agg #[.int .i64 a, .int .i64 b], .bool true]) w := by kernel_rfl
theorem as_s_1 (s : ByteArray) (w : World) : (Instr.typeAssert (.iface 110 (.agg #[.string s])) 85 108 true).run Tryd.prog w = .ok (.tuple #[.agg #[], .bool false]) w := by kernel_rfl
theorem as_s_o (s : ByteArray) (w : World) : (Instr.typeAssert (.iface 110 (.agg #[.string s])) 85 102 true).run Tryd.prog w = .ok (.tuple #[.agg #[.int .i64 0, .int .i64 0], .bool false]) w := by kernel_rfl
theorem as_s_b (s : ByteArray) (w : World) : (Instr.typeAssert (.iface 110 (.agg #[.string s])) 85 112 true).run Tryd.prog w = .ok (.tuple #[.agg #[.int .i64 0, .int .i64 0], .bool false]) w := by kernel_rfl

theorem box4_of {w : World} {b : Nat} {v0 v1 v2 v3 : Value} (h : Box4 w b v0 v1 v2 v3) : w.cell? ⟨b, 0, none⟩ = some v0 ∧ w.cell? ⟨b, 1, none⟩ = some v1 ∧ w.cell? ⟨b, 2, none⟩ = some v2 ∧ w.cell? ⟨b, 3, none⟩ = some v3 := h.2

set_option maxRecDepth 20000 in
set_option maxHeartbeats 1000000 in
theorem pointedKnown (m : Mv) (ks : List Kd) (lv rv : Value) (w : World) (h : SlT w lv ks) (hl : ks.length ≤ 2000) :
    Calls Tryd.prog 59 #[.iface 108 (.agg #[]), m.val, lv, rv] w fun e w' => PtEnd w ks [m.a] e w' := by
  have HSL : Hid (SlT w lv ks) := h
  clear h
  have f1 := as_1_1
  go_enter Tryd.func59, Tryd.ntmps59
  go_wp2_with fail
  refine Calls.mono (ppick_any ks _ [m.a] (w.heap.size + 1 + 1) 1 _ (HSL.out.below (w' := _) ?hb) hl (by simp) ?hx (by simp)) ?_
  case hb => exact (by repeat (first | exact Below.refl _ _ | assumption | refine below_drewN ?_ _ | refine Below.drew ?_ | refine Below.alloc ?_ (by simp <;> omega) _ | refine Below.setCell ?_ (by simp <;> omega) _))
  case hx =>
    intro i hi
    simp only [List.length_cons, List.length_nil] at hi
    (obtain rfl : i = 0 := by omega); simp [go_sem]
  intro e w1 he
  have hpt := he.pt (w0 := w) (by repeat (first | exact Below.refl _ _ | assumption | refine below_drewN ?_ _ | refine Below.drew ?_ | refine Below.alloc ?_ (by simp <;> omega) _ | refine Below.setCell ?_ (by simp <;> omega) _))
  obtain ⟨hb, ⟨hin, g, c, rfl, hg, hc, hrow⟩ | ⟨hno, rfl⟩⟩ := hpt
  · have HE : Hid (PtEnd w ks [m.a] (.returned (.tuple #[.slice (some ⟨g, 0, none⟩) 1 c, .bool true])) w1) := ⟨hb, .inl ⟨hin, g, c, rfl, hg, hc, hrow⟩⟩
    clear hin hg hc hrow he
    simp only [List.length_cons, List.length_nil, Nat.zero_add, Nat.reduceAdd]
    go_wp2_with fail
    refine bodyPost_ret (v := .tuple #[.slice (some ⟨g, 0, none⟩) 1 c, .bool true]) (by simp [results, Tryd.results59]) rfl ?_
    exact HE.out
  · have HE : Hid (PtEnd w ks [m.a] (.returned (.tuple #[.slice none 0 0, .bool false])) w1) := ⟨hb, .inr ⟨hno, rfl⟩⟩
    clear hno he
    go_wp2_with fail
    refine bodyPost_ret (v := .tuple #[.slice none 0 0, .bool false]) (by simp [results, Tryd.results59]) rfl ?_
    exact HE.out

set_option maxRecDepth 20000 in
set_option maxHeartbeats 1000000 in
theorem pointedOpen (a b : Int) (m : Mv) (ks : List Kd) (lv rv : Value) (w : World) (h : SlT w rv ks) (hl : ks.length ≤ 2000) :
    Calls Tryd.prog 59 #[.iface 102 (.agg #[.int .i64 a, .int .i64 b]), m.val, lv, rv] w fun e w' => PtEnd w ks [m.a] e w' := by
  have HSL : Hid (SlT w rv ks) := h
  clear h
  have f1 := as_o_1 a b
  have f2 := as_o_o a b
  go_enter Tryd.func59, Tryd.ntmps59
  go_wp2_with fail
  refine Calls.mono (ppick_any ks _ [m.a] (w.heap.size + 1 + 1) 1 _ (HSL.out.below (w' := _) ?hb) hl (by simp) ?hx (by simp)) ?_
  case hb => exact (by repeat (first | exact Below.refl _ _ | assumption | refine below_drewN ?_ _ | refine Below.drew ?_ | refine Below.alloc ?_ (by simp <;> omega) _ | refine Below.setCell ?_ (by simp <;> omega) _))
  case hx =>
    intro i hi
    simp only [List.length_cons, List.length_nil] at hi
    (obtain rfl : i = 0 := by omega); simp [go_sem]
  intro e w1 he
  have hpt := he.pt (w0 := w) (by repeat (first | exact Below.refl _ _ | assumption | refine below_drewN ?_ _ | refine Below.drew ?_ | refine Below.alloc ?_ (by simp <;> omega) _ | refine Below.setCell ?_ (by simp <;> omega) _))
  obtain ⟨hb, ⟨hin, g, c, rfl, hg, hc, hrow⟩ | ⟨hno, rfl⟩⟩ := hpt
  · have HE : Hid (PtEnd w ks [m.a] (.returned (.tuple #[.slice (some ⟨g, 0, none⟩) 1 c, .bool true])) w1) := ⟨hb, .inl ⟨hin, g, c, rfl, hg, hc, hrow⟩⟩
    clear hin hg hc hrow he
    simp only [List.length_cons, List.length_nil, Nat.zero_add, Nat.reduceAdd]
    go_wp2_with fail
    refine bodyPost_ret (v := .tuple #[.slice (some ⟨g, 0, none⟩) 1 c, .bool true]) (by simp [results, Tryd.results59]) rfl ?_
    exact HE.out
  · have HE : Hid (PtEnd w ks [m.a] (.returned (.tuple #[.slice none 0 0, .bool false])) w1) := ⟨hb, .inr ⟨hno, rfl⟩⟩
    clear hno he
    go_wp2_with fail
    refine bodyPost_ret (v := .tuple #[.slice none 0 0, .bool false]) (by simp [results, Tryd.results59]) rfl ?_
    exact HE.out

set_option maxRecDepth 20000 in
set_option maxHeartbeats 1000000 in
theorem pointedBuild1 (a : Int) (m : Mv) (ks : List Kd) (lv rv : Value) (w : World) (h : SlT w rv ks) (hl : ks.length ≤ 2000) :
    Calls Tryd.prog 59 #[.iface 112 (.agg #[.int .i64 a, .int .i64 1]), m.val, lv, rv] w fun e w' => PtEnd w ks [m.a] e w' := by
  have HSL : Hid (SlT w rv ks) := h
  clear h
  have f1 := as_b_1 a 1
  have f2 := as_b_o a 1
  have f3 := as_b_b a 1
  go_enter Tryd.func59, Tryd.ntmps59
  go_wp2_with fail
  refine Calls.mono (ppick_any ks _ [m.a] (w.heap.size + 1 + 1) 1 _ (HSL.out.below (w' := _) ?hb) hl (by simp) ?hx (by simp)) ?_
  case hb => exact (by repeat (first | exact Below.refl _ _ | assumption | refine below_drewN ?_ _ | refine Below.drew ?_ | refine Below.alloc ?_ (by simp <;> omega) _ | refine Below.setCell ?_ (by simp <;> omega) _))
  case hx =>
    intro i hi
    simp only [List.length_cons, List.length_nil] at hi
    (obtain rfl : i = 0 := by omega); simp [go_sem]
  intro e w1 he
  have hpt := he.pt (w0 := w) (by repeat (first | exact Below.refl _ _ | assumption | refine below_drewN ?_ _ | refine Below.drew ?_ | refine Below.alloc ?_ (by simp <;> omega) _ | refine Below.setCell ?_ (by simp <;> omega) _))
  obtain ⟨hb, ⟨hin, g, c, rfl, hg, hc, hrow⟩ | ⟨hno, rfl⟩⟩ := hpt
  · have HE : Hid (PtEnd w ks [m.a] (.returned (.tuple #[.slice (some ⟨g, 0, none⟩) 1 c, .bool true])) w1) := ⟨hb, .inl ⟨hin, g, c, rfl, hg, hc, hrow⟩⟩
    clear hin hg hc hrow he
    simp only [List.length_cons, List.length_nil, Nat.zero_add, Nat.reduceAdd]
    go_wp2_with fail
    refine bodyPost_ret (v := .tuple #[.slice (some ⟨g, 0, none⟩) 1 c, .bool true]) (by simp [results, Tryd.results59]) rfl ?_
    exact HE.out
  · have HE : Hid (PtEnd w ks [m.a] (.returned (.tuple #[.slice none 0 0, .bool false])) w1) := ⟨hb, .inr ⟨hno, rfl⟩⟩
    clear hno he
    go_wp2_with fail
    refine bodyPost_ret (v := .tuple #[.slice none 0 0, .bool false]) (by simp [results, Tryd.results59]) rfl ?_
    exact HE.out

set_option maxRecDepth 20000 in
set_option maxHeartbeats 1000000 in
theorem pointedBuild2 (a : Int) (m : Mv) (ks : List Kd) (lv rv : Value) (w : World) (h : SlT w rv ks) (hl : ks.length ≤ 2000) :
    Calls Tryd.prog 59 #[.iface 112 (.agg #[.int .i64 a, .int .i64 2]), m.val, lv, rv] w fun e w' => PtEnd w ks [m.a, m.b] e w' := by
  have HSL : Hid (SlT w rv ks) := h
  clear h
  have f1 := as_b_1 a 2
  have f2 := as_b_o a 2
  have f3 := as_b_b a 2
  go_enter Tryd.func59, Tryd.ntmps59
  go_wp2_with fail
  refine Calls.mono (ppick_any ks _ [m.a, m.b] (w.heap.size + 1 + 1) 2 _ (HSL.out.below (w' := _) ?hb) hl (by simp) ?hx (by simp)) ?_
  case hb => exact (by repeat (first | exact Below.refl _ _ | assumption | refine below_drewN ?_ _ | refine Below.drew ?_ | refine Below.alloc ?_ (by simp <;> omega) _ | refine Below.setCell ?_ (by simp <;> omega) _))
  case hx =>
    intro i hi
    simp only [List.length_cons, List.length_nil] at hi
    rcases (show i = 0 ∨ i = 1 by omega) with rfl | rfl <;> simp [go_sem]
  intro e w1 he
  have hpt := he.pt (w0 := w) (by repeat (first | exact Below.refl _ _ | assumption | refine below_drewN ?_ _ | refine Below.drew ?_ | refine Below.alloc ?_ (by simp <;> omega) _ | refine Below.setCell ?_ (by simp <;> omega) _))
  obtain ⟨hb, ⟨hin, g, c, rfl, hg, hc, hrow⟩ | ⟨hno, rfl⟩⟩ := hpt
  · have HE : Hid (PtEnd w ks [m.a, m.b] (.returned (.tuple #[.slice (some ⟨g, 0, none⟩) 2 c, .bool true])) w1) := ⟨hb, .inl ⟨hin, g, c, rfl, hg, hc, hrow⟩⟩
    clear hin hg hc hrow he
    simp only [List.length_cons, List.length_nil, Nat.zero_add, Nat.reduceAdd]
    go_wp2_with fail
    refine bodyPost_ret (v := .tuple #[.slice (some ⟨g, 0, none⟩) 2 c, .bool true]) (by simp [results, Tryd.results59]) rfl ?_
    exact HE.out
  · have HE : Hid (PtEnd w ks [m.a, m.b] (.returned (.tuple #[.slice none 0 0, .bool false])) w1) := ⟨hb, .inr ⟨hno, rfl⟩⟩
    clear hno he
    go_wp2_with fail
    refine bodyPost_ret (v := .tuple #[.slice none 0 0, .bool false]) (by simp [results, Tryd.results59]) rfl ?_
    exact HE.out

set_option maxRecDepth 20000 in
set_option maxHeartbeats 1000000 in
theorem pointedSpoken (s : ByteArray) (m : Mv) (lv rv : Value) (w : World) :
    Calls Tryd.prog 59 #[.iface 110 (.agg #[.string s]), m.val, lv, rv] w fun e w' => e = .returned (.tuple #[.slice none 0 0, .bool true]) ∧ Below w.heap.size w w' := by
  have f1 := as_s_1 s
  have f2 := as_s_o s
  have f3 := as_s_b s
  go_enter Tryd.func59, Tryd.ntmps59
  go_wp2_with fail
  refine bodyPost_ret (v := .tuple #[.slice none 0 0, .bool true]) (by simp [results, Tryd.results59]) rfl ?_
  exact ⟨rfl, (by repeat (first | exact Below.refl _ _ | assumption | refine below_drewN ?_ _ | refine Below.drew ?_ | refine Below.alloc ?_ (by simp <;> omega) _ | refine Below.setCell ?_ (by simp <;> omega) _))⟩

end Go.Proofs.YtldpnhlifgkmiaaDoor
