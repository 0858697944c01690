import Derived.Test.YtfoeeocejcbmlaaGreatDoorQB
import Derived.Test.YtfoeeocejcbmlaaGreatDoorQE
import Derived.Test.YtfoeeocejcbmlaaGreatDoorE7
namespace Go.Proofs.YtfoeeocejcbmlaaGreatDoor
open Go.RowKit
set_option linter.unusedVariables false
set_option linter.unusedSimpArgs false

theorem fdO_cut (p : ByteArray) : fdO p.data.toList = if cutZ 61 p = true ∧ decN true (cutX 61 p) = 0 ∧ decN true (cutY 61 p) = 0 ∧ (decX true (cutX 61 p)).size ≠ 0 then some (decX true (cutX 61 p), decX true (cutY 61 p)) else none := by
  unfold fdO
  cases h : cutL 61 p.data.toList with
  | none =>
    obtain ⟨_, _, e3⟩ := cut_miss h
    rw [e3, if_neg (by simp)]
  | some x =>
    obtain ⟨a, b⟩ := x
    obtain ⟨e1, e2, e3⟩ := cut_hit h
    rw [e1, e2, e3]
    simp

/-- Two cells of a block. -/
structure Two (g : Nat) (a b : Value) (W : World) : Prop where
  c0 : W.cell? ⟨g, 0, none⟩ = some a
  c1 : W.cell? ⟨g, 1, none⟩ = some b
  f0 : W.frozen? ⟨g, 0, none⟩ = false
  f1 : W.frozen? ⟨g, 1, none⟩ = false
  lt : g < W.heap.size

theorem Two.below {g : Nat} {a b : Value} {W W' : World} (h : Two g a b W) (hb : Below W.heap.size W W') : Two g a b W' :=
  ⟨(hb.cell (by simpa using h.lt)).trans h.c0, (hb.cell (by simpa using h.lt)).trans h.c1, (hb.frozen (by simpa using h.lt)).trans h.f0, (hb.frozen (by simpa using h.lt)).trans h.f1, Nat.lt_of_lt_of_le h.lt hb.size⟩
theorem Two.new (W : World) (a b : Value) (T : TypeId) : Two W.heap.size a b (W.alloc (.cells #[a, b] T)) := ⟨by simp [go_sem], by simp [go_sem], by simp [go_sem], by simp [go_sem], by simp⟩
theorem Two.set {g k : Nat} {a b v : Value} {W : World} (h : Two g a b W) (j : Nat) (hk : g ≠ k) : Two g a b (W.setCell ⟨k, j, none⟩ v) := by
  have hh : (W.setCell ⟨k, j, none⟩ v).heap[g]? = W.heap[g]? := Below.heap_setCell _ _ _ _ hk
  exact ⟨(World.cell?_of_block (a := ⟨g, 0, none⟩) hh).trans h.c0, (World.cell?_of_block (a := ⟨g, 1, none⟩) hh).trans h.c1, (World.frozen?_of_block (a := ⟨g, 0, none⟩) hh).trans h.f0, (World.frozen?_of_block (a := ⟨g, 1, none⟩) hh).trans h.f1, by simpa [World.setCell] using h.lt⟩

theorem Two.one {g : Nat} {a b : Value} {W : World} (h : Two g a b W) (v : Value) : Two g v b (W.setCell ⟨g, 0, none⟩ v) := by
  obtain ⟨h0, h1, h2, h3, h4⟩ := h
  exact ⟨by simp [go_sem, h0], by simp [go_sem, h1], by simp [go_sem, h2], by simp [go_sem, h3], by simpa [World.setCell] using h4⟩
theorem Two.two {g : Nat} {a b : Value} {W : World} (h : Two g a b W) (v : Value) : Two g a v (W.setCell ⟨g, 1, none⟩ v) := by
  obtain ⟨h0, h1, h2, h3, h4⟩ := h
  exact ⟨by simp [go_sem, h0], by simp [go_sem, h1], by simp [go_sem, h2], by simp [go_sem, h3], by simpa [World.setCell] using h4⟩
theorem Two.put {g : Nat} {a b : Value} {W : World} (h : Two g a b W) (u v : Value) : Two g u v ((W.setCell ⟨g, 0, none⟩ u).setCell ⟨g, 1, none⟩ v) := (h.one u).two v

theorem empL_of {s : ByteArray} (h : s.size = 0) : s.toList.isEmpty = true := by
  rw [ByteArray.toList_eq, List.isEmpty_iff]; exact List.eq_nil_of_length_eq_zero (by rw [size_list]; exact h)
theorem empL_no {s : ByteArray} (h : ¬ s.size = 0) : s.toList.isEmpty = false := by
  rw [ByteArray.toList_eq]
  cases e : s.data.toList with
  | nil => have := congrArg List.length e; rw [size_list] at this; exact absurd this h
  | cons _ _ => rfl

/-- What field answers. -/
def FieldEnd (w : World) (p : ByteArray) (e : Ending) (w' : World) : Prop :=
  (∀ f, fdO p.data.toList = some f → e = .returned (.tuple #[.agg #[.string f.1, .string f.2], .int .i64 0])) ∧ (fdO p.data.toList = none → e = .returned (.tuple #[.agg #[.string ⟨#[]⟩, .string ⟨#[]⟩], .int .i64 3])) ∧ Below w.heap.size w w'

theorem FieldEnd.no {w w' : World} {p : ByteArray} {e : Ending} (h : fdO p.data.toList = none) (he : e = .returned (.tuple #[.agg #[.string ⟨#[]⟩, .string ⟨#[]⟩], .int .i64 3])) (hb : Below w.heap.size w w') : FieldEnd w p e w' :=
  ⟨fun f hf => absurd (h.symm.trans hf) (by simp), fun _ => he, hb⟩

/-- What stands where the goto leads. -/
def Wrong (w : World) (p : ByteArray) (a' : Act) (w' : World) : Prop :=
  (∃ u1 u3 u4 u5 u6 u7 u8 u9 u10 u11 u12 u13 u14 u15 u16 u17 u18 u19 u20 u21 u22 u23 u24 u25 u26 u27 u28 u29 u30 u31 u32 u33 u34 u35 u36 u37 u38 u39 : Value, a' = { tmps := #[.string p, u1, .pointer (some ⟨w.heap.size, 0, none⟩), u3, u4, u5, u6, u7, u8, u9, u10, u11, u12, u13, u14, u15, u16, u17, u18, u19, u20, u21, u22, u23, u24, u25, u26, u27, u28, u29, u30, u31, u32, u33, u34, u35, u36, u37, u38, u39], defers := [] }) ∧ Two w.heap.size (.string ⟨#[]⟩) (.string ⟨#[]⟩) w' ∧ fdO p.data.toList = none ∧ Below w.heap.size w w'

theorem below_up {w w' : World} {B : Nat} (h : Below B w w') (hB : B = w.heap.size) : Below w.heap.size w w' := by subst hB; exact h

set_option maxRecDepth 100000 in
set_option maxHeartbeats 2000000 in
theorem qfield_any (p : ByteArray) (hs : p.size ≤ 100000) (w : World) (ht : Tab16 w.heap.size w) :
    Calls Tryz.prog 64 #[.string p] w fun e w' => FieldEnd w p e w' := by
  have hcut := fun W => cut_any 61 p (by omega) W
  have hfd := fdO_cut p
  obtain ⟨hx, hy, _⟩ := cut_size 61 p
  generalize cutX 61 p = x at *
  generalize cutY 61 p = y at *
  generalize cutZ 61 p = z at *
  have hD1 := fun W hW => dec_at ht x (by omega) true _ _ rfl rfl W hW
  have hD2 := fun W hW => dec_at ht y (by omega) true _ _ rfl rfl W hW
  have n1 : decN true x = 0 ∨ decN true x = 3 := by rcases dec_case true x with h | h; exact .inl h.1; exact .inr h.1
  have n2 : decN true y = 0 ∨ decN true y = 3 := by rcases dec_case true y with h | h; exact .inl h.1; exact .inr h.1
  generalize decX true x = dx at *
  generalize decX true y = dy at *
  generalize decN true x = nx at *
  generalize decN true y = ny at *
  have HFD : Hid (fdO p.data.toList = if z = true ∧ nx = 0 ∧ ny = 0 ∧ dx.size ≠ 0 then some (dx, dy) else none) := hfd
  clear hfd ht hx hy
  go_enter Tryz.func64, Tryz.ntmps64
  go_wp2_with fail
  refine wp_scope_jumps 0 (fun a' w' => Wrong w p a' w') (fun _ _ => 0) rfl ?first ?pass
  case pass =>
    rintro a' w' ⟨⟨u1, u3, u4, u5, u6, u7, u8, u9, u10, u11, u12, u13, u14, u15, u16, u17, u18, u19, u20, u21, u22, u23, u24, u25, u26, u27, u28, u29, u30, u31, u32, u33, u34, u35, u36, u37, u38, u39, rfl⟩, hT, hN, hB⟩
    have HN : Hid (fdO p.data.toList = none) := hN
    have HB : Hid (Below w.heap.size w w') := hB
    obtain ⟨c0, c1, f0, f1, lt⟩ := hT
    clear hN hB hcut hD1 hD2
    go_wp2_with fail
    simp only [Exit.jump]
    have hP := Two.put ⟨c0, c1, f0, f1, lt⟩ (.string ⟨#[]⟩) (.string ⟨#[]⟩)
    have hb2 : Below w.heap.size w ((w'.setCell ⟨w.heap.size, 0, none⟩ (.string ⟨#[]⟩)).setCell ⟨w.heap.size, 1, none⟩ (.string ⟨#[]⟩)) := (HB.out.setCell (Nat.le_refl _) _).setCell (Nat.le_refl _) _
    generalize (w'.setCell ⟨w.heap.size, 0, none⟩ (.string ⟨#[]⟩)).setCell ⟨w.heap.size, 1, none⟩ (.string ⟨#[]⟩) = w9 at *
    clear c0 c1 f0 f1 lt
    obtain ⟨c0, c1, f0, f1, lt⟩ := hP
    refine bodyPost_ret (v := .tuple #[.agg #[.string ⟨#[]⟩, .string ⟨#[]⟩], .int .i64 3]) (by simp [results, Tryz.results64, go_sem, c0, c1]) rfl (FieldEnd.no HN.out rfl hb2)
  case first =>
    have hT0 := Two.new w (.string ⟨#[]⟩) (.string ⟨#[]⟩) 72
    have hB0 : Below w.heap.size w (w.alloc (.cells #[.string ⟨#[]⟩, .string ⟨#[]⟩] 72)) := Below.alloc (Below.refl _ _) (Nat.le_refl _) _
    have hT1 := Two.new (w.alloc (.cells #[.string ⟨#[]⟩, .string ⟨#[]⟩] 72)) (.string ⟨#[]⟩) (.string ⟨#[]⟩) 72
    rw [show (w.alloc (.cells #[.string ⟨#[]⟩, .string ⟨#[]⟩] 72)).heap.size = w.heap.size + 1 by simp] at hT1
    have hT0 := hT0.below ((Below.refl _ _).alloc (Nat.le_refl _) (.cells #[.string ⟨#[]⟩, .string ⟨#[]⟩] 72))
    have hB0 := hB0.alloc (by simp) (.cells #[.string ⟨#[]⟩, .string ⟨#[]⟩] 72)
    have gne : ¬ w.heap.size = w.heap.size + 1 := by omega
    go_wp2_with fail
    generalize (w.alloc (.cells #[.string ⟨#[]⟩, .string ⟨#[]⟩] 72)).alloc (.cells #[.string ⟨#[]⟩, .string ⟨#[]⟩] 72) = w1 at *
    refine (hcut w1).mono ?_
    rintro e w2 ⟨rfl, n, h2⟩
    have h12 : Below w1.heap.size w1 w2 := by rw [h2]; exact below_drewN (Below.refl _ _) n
    have T0 := hT0.below h12
    have T1 := hT1.below h12
    have B2 := hB0.trans (h12.mono hB0.size)
    clear hT0 hT1 hB0 h12 h2 hcut
    cases z with
    | false =>
      have HJ : Hid (fdO p.data.toList = none) := by show _ = _; rw [HFD.out, if_neg (by simp)]
      clear HFD hD1 hD2
      go_wp2_with fail
      go_step3
      exact ⟨rfl, ⟨_, _, _, _, _, _, _, _, _, _, _, _, _, _, _, _, _, _, _, _, _, _, _, _, _, _, _, _, _, _, _, _, _, _, _, _, _, _, rfl⟩, T0, HJ.out, B2⟩
    | true =>
      have hD1 := hD1 w2 B2
      go_wp2_with fail
      refine hD1.mono ?_
      rintro e w3 ⟨rfl, h3⟩
      have U0 := T0.below h3
      have U1 := T1.below h3
      have B3 := B2.trans (h3.mono B2.size)
      clear T0 T1 B2 h3 hD1
      obtain ⟨c0, c1, f0, f1, lt⟩ := U1
      have V0 := U0.set (k := w.heap.size + 1) (v := .string dx) 0 gne
      have V1 := Two.one ⟨c0, c1, f0, f1, lt⟩ (.string dx)
      have B4 := B3.setCell (p := ⟨w.heap.size + 1, 0, none⟩) (by simp) (.string dx)
      rcases n1 with rfl | rfl
      · by_cases hd : dx.size = 0
        · have hem : dx.toList.isEmpty = true := empL_of hd
          have HJ : Hid (fdO p.data.toList = none) := by show _ = _; rw [HFD.out, if_neg (by simp [hd])]
          clear hd HFD
          go_wp2_with fail
          generalize w3.setCell ⟨w.heap.size + 1, 0, none⟩ (.string dx) = w4 at *
          go_step3
          exact ⟨rfl, ⟨_, _, _, _, _, _, _, _, _, _, _, _, _, _, _, _, _, _, _, _, _, _, _, _, _, _, _, _, _, _, _, _, _, _, _, _, _, _, rfl⟩, V0, HJ.out, B4⟩
        · have hem : dx.toList.isEmpty = false := empL_no hd
          have HD : Hid (¬ dx.size = 0) := hd
          clear hd
          go_wp2_with fail
          generalize w3.setCell ⟨w.heap.size + 1, 0, none⟩ (.string dx) = w4 at *
          clear c0 c1 f0 f1 lt U0 B3
          refine (hD2 w4 B4).mono ?_
          rintro e w5 ⟨rfl, h5⟩
          have X0 := V0.below h5
          have X1 := V1.below h5
          have B5 := B4.trans (h5.mono B4.size)
          clear V0 V1 B4 h5 hD2
          obtain ⟨c0, c1, f0, f1, lt⟩ := X1
          have Y0 := X0.set (k := w.heap.size + 1) (v := .string dy) 1 gne
          have Y1 := Two.two ⟨c0, c1, f0, f1, lt⟩ (.string dy)
          have B6 := B5.setCell (p := ⟨w.heap.size + 1, 1, none⟩) (by simp) (.string dy)
          rcases n2 with rfl | rfl
          · have HJ : Hid (fdO p.data.toList = some (dx, dy)) := by show _ = _; rw [HFD.out, if_pos (by simpa using HD.out)]
            clear HFD
            obtain ⟨e0, e1, e2, e3, e4⟩ := X0
            have hP := Two.put Y0 (.string dx) (.string dy)
            have hb2 := (B6.setCell (p := ⟨w.heap.size, 0, none⟩) (Nat.le_refl _) (.string dx)).setCell (p := ⟨w.heap.size, 1, none⟩) (Nat.le_refl _) (.string dy)
            clear Y0 Y1 B6 B5
            go_wp2_with (fail)
            simp only [Exit.jump]
            generalize ((w5.setCell ⟨w.heap.size + 1, 1, none⟩ (.string dy)).setCell ⟨w.heap.size, 0, none⟩ (.string dx)).setCell ⟨w.heap.size, 1, none⟩ (.string dy) = w9 at *
            clear c0 c1 f0 f1 lt
            obtain ⟨c0, c1, f0, f1, lt⟩ := hP
            refine bodyPost_ret (v := .tuple #[.agg #[.string dx, .string dy], .int .i64 0]) (by simp [results, Tryz.results64, go_sem, c0, c1]) rfl ⟨fun f hf => ?_, fun hn => absurd (HJ.out.symm.trans hn) (by simp), hb2⟩
            have := HJ.out.symm.trans hf
            injection this with this; rw [← this]
          · have HJ : Hid (fdO p.data.toList = none) := by show _ = _; rw [HFD.out, if_neg (by simp)]
            clear HFD
            go_wp2_with fail
            go_step3
            exact ⟨rfl, ⟨_, _, _, _, _, _, _, _, _, _, _, _, _, _, _, _, _, _, _, _, _, _, _, _, _, _, _, _, _, _, _, _, _, _, _, _, _, _, rfl⟩, Y0, HJ.out, B6⟩
      · have HJ : Hid (fdO p.data.toList = none) := by show _ = _; rw [HFD.out, if_neg (by simp)]
        go_wp2_with fail
        go_step3
        exact ⟨rfl, ⟨_, _, _, _, _, _, _, _, _, _, _, _, _, _, _, _, _, _, _, _, _, _, _, _, _, _, _, _, _, _, _, _, _, _, _, _, _, _, rfl⟩, V0, HJ.out, B4⟩

end Go.Proofs.YtfoeeocejcbmlaaGreatDoor
