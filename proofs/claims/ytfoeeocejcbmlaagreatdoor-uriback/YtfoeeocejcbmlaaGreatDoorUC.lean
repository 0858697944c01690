import Derived.Test.YtfoeeocejcbmlaaGreatDoorUB
import Derived.Test.YtfoeeocejcbmlaaGreatDoorQL
namespace Go.Proofs.YtfoeeocejcbmlaaGreatDoor
open Go.RowKit
set_option linter.unusedVariables false
set_option linter.unusedSimpArgs false

/-! The reader: what is left of a text, and the address read so far. -/
abbrev Rs := ByteArray × Ur

structure RdrAt (w : World) (g : Nat) (s : Rs) : Prop where
  lt : g < w.heap.size
  c0 : w.cell? ⟨g, 0, none⟩ = some (.string s.1)
  c1 : w.cell? ⟨g, 1, none⟩ = some (.string s.2.1)
  c2 : w.cell? ⟨g, 2, none⟩ = some (.string s.2.2.1)
  c3 : ∃ q, w.cell? ⟨g, 3, none⟩ = some q ∧ OwnF w (g + 1) q s.2.2.2
  f0 : w.frozen? ⟨g, 0, none⟩ = false
  f1 : w.frozen? ⟨g, 1, none⟩ = false
  f2 : w.frozen? ⟨g, 2, none⟩ = false
  f3 : w.frozen? ⟨g, 3, none⟩ = false

theorem RdrAt.below {w w' : World} {g : Nat} {s : Rs} (h : RdrAt w g s) (hb : Below w.heap.size w w') : RdrAt w' g s := by
  obtain ⟨q, h3, ho⟩ := h.c3
  have hl := h.lt
  exact ⟨Nat.lt_of_lt_of_le hl hb.size, (hb.cell (by simpa using hl)).trans h.c0, (hb.cell (by simpa using hl)).trans h.c1, (hb.cell (by simpa using hl)).trans h.c2, ⟨q, (hb.cell (by simpa using hl)).trans h3, ho.below hb⟩,
    (hb.frozen (by simpa using hl)).trans h.f0, (hb.frozen (by simpa using hl)).trans h.f1, (hb.frozen (by simpa using hl)).trans h.f2, (hb.frozen (by simpa using hl)).trans h.f3⟩

theorem OwnF.cellSet {w : World} {g i : Nat} {q v : Value} {l : List Fd} (h : OwnF w (g + 1) q l) : OwnF (w.setCell ⟨g, i, none⟩ v) (g + 1) q l :=
  h.only (tb := g) ((Only.refl g w).setCell (.inl rfl) _) (Nat.lt_succ_self g)

theorem RdrAt.put0 {w : World} {g : Nat} {s : Rs} (h : RdrAt w g s) (r : ByteArray) : RdrAt (w.setCell ⟨g, 0, none⟩ (.string r)) g (r, s.2) := by
  obtain ⟨h0, h1, h2, h3, ⟨q, h4, ho⟩, f0, f1, f2, f3⟩ := h
  exact ⟨by simpa [World.setCell] using h0, by simp [go_sem, h1], by simp [go_sem, h2], by simp [go_sem, h3], ⟨q, by simp [go_sem, h4], ho.cellSet⟩, by simp [go_sem, f0], by simp [go_sem, f1], by simp [go_sem, f2], by simp [go_sem, f3]⟩
theorem RdrAt.put1 {w : World} {g : Nat} {s : Rs} (h : RdrAt w g s) (r : ByteArray) : RdrAt (w.setCell ⟨g, 1, none⟩ (.string r)) g (s.1, (r, s.2.2)) := by
  obtain ⟨h0, h1, h2, h3, ⟨q, h4, ho⟩, f0, f1, f2, f3⟩ := h
  exact ⟨by simpa [World.setCell] using h0, by simp [go_sem, h1], by simp [go_sem, h2], by simp [go_sem, h3], ⟨q, by simp [go_sem, h4], ho.cellSet⟩, by simp [go_sem, f0], by simp [go_sem, f1], by simp [go_sem, f2], by simp [go_sem, f3]⟩
theorem RdrAt.put2 {w : World} {g : Nat} {s : Rs} (h : RdrAt w g s) (r : ByteArray) : RdrAt (w.setCell ⟨g, 2, none⟩ (.string r)) g (s.1, (s.2.1, (r, s.2.2.2))) := by
  obtain ⟨h0, h1, h2, h3, ⟨q, h4, ho⟩, f0, f1, f2, f3⟩ := h
  exact ⟨by simpa [World.setCell] using h0, by simp [go_sem, h1], by simp [go_sem, h2], by simp [go_sem, h3], ⟨q, by simp [go_sem, h4], ho.cellSet⟩, by simp [go_sem, f0], by simp [go_sem, f1], by simp [go_sem, f2], by simp [go_sem, f3]⟩
theorem RdrAt.put3 {w : World} {g : Nat} {s : Rs} (h : RdrAt w g s) (v : Value) (l : List Fd) (hv : OwnF w (g + 1) v l) : RdrAt (w.setCell ⟨g, 3, none⟩ v) g (s.1, (s.2.1, (s.2.2.1, l))) := by
  obtain ⟨h0, h1, h2, h3, ⟨q, h4, ho⟩, f0, f1, f2, f3⟩ := h
  exact ⟨by simpa [World.setCell] using h0, by simp [go_sem, h1], by simp [go_sem, h2], by simp [go_sem, h3], ⟨v, by simp [go_sem, h4], hv.cellSet⟩, by simp [go_sem, f0], by simp [go_sem, f1], by simp [go_sem, f2], by simp [go_sem, f3]⟩

/-- What a step does. -/
def stepF : Nat → Rs → Int × Rs
  | 0, s => (if 1024 < s.1.size then 4 else 0, s)
  | 1, s => if Lib.hasPrefix s.1.data.toList httpsL = true then (0, (⟨(Lib.trimPrefix s.1.data.toList httpsL).toArray⟩, s.2)) else (3, s)
  | 2, s => if cutZ 47 s.1 = true ∧ isHost (cutX 47 s.1) = true then (0, (s.1.extract (cutX 47 s.1).size s.1.size, (cutX 47 s.1, s.2.2))) else (3, s)
  | 3, s => if isPath (cutX 63 s.1) = true then (0, (s.1.extract (cutX 63 s.1).size s.1.size, (s.2.1, (cutX 63 s.1, s.2.2.2)))) else (3, s)
  | _, s => if s.1 = ⟨#[63]⟩ then (3, s) else ((parF ⟨(Lib.trimPrefix s.1.data.toList [63]).toArray⟩).1, (s.1, (s.2.1, (s.2.2.1, (parF ⟨(Lib.trimPrefix s.1.data.toList [63]).toArray⟩).2))))

def StepEnd (w : World) (g : Nat) (x : Int × Rs) (e : Ending) (w' : World) : Prop := e = .returned (.int .i64 x.1) ∧ RdrAt w' g x.2 ∧ Only g w w'

theorem trim_le (l a : List UInt8) : (Lib.trimPrefix l a).length ≤ l.length := by
  unfold Lib.trimPrefix
  split
  · rw [List.length_drop]; omega
  · exact Nat.le_refl _
theorem step_small (k : Nat) (s : Rs) : (stepF k s).2.1.size ≤ s.1.size := by
  unfold stepF
  split
  · exact Nat.le_refl _
  · split
    · have := trim_le s.1.data.toList httpsL
      rw [size_list] at this
      rw [← size_list, ba_list]; exact this
    · exact Nat.le_refl _
  · split
    · rw [ByteArray.size_extract]; omega
    · exact Nat.le_refl _
  · split
    · rw [ByteArray.size_extract]; omega
    · exact Nat.le_refl _
  · split <;> exact Nat.le_refl _

set_option maxRecDepth 100000 in
set_option maxHeartbeats 1000000 in
theorem step0_any (g : Nat) (s : Rs) (w : World) (h : RdrAt w g s) :
    Calls Tryz.prog 23 #[.pointer (some ⟨g, 0, none⟩)] w fun e w' => StepEnd w g (stepF 0 s) e w' := by
  have HR : Hid (RdrAt w g s) := h
  have c0 := h.c0
  clear h
  by_cases hs : 1024 < s.1.size
  · have hs' : (s.1.size : Int) > 1024 := by omega
    go_enter Tryz.func23, Tryz.ntmps23
    go_wp2_with fail
    go_ret
    have e : stepF 0 s = (4, s) := by rw [show stepF 0 s = ((if 1024 < s.1.size then 4 else 0 : Int), s) from rfl, if_pos hs]
    rw [e]
    exact ⟨rfl, HR.out, Only.refl _ _⟩
  · have hs' : ¬ (s.1.size : Int) > 1024 := by omega
    go_enter Tryz.func23, Tryz.ntmps23
    go_wp2_with fail
    go_ret
    have e : stepF 0 s = (0, s) := by rw [show stepF 0 s = ((if 1024 < s.1.size then 4 else 0 : Int), s) from rfl, if_neg hs]
    rw [e]
    exact ⟨rfl, HR.out, Only.refl _ _⟩

set_option maxRecDepth 100000 in
set_option maxHeartbeats 1000000 in
theorem step1_any (g : Nat) (s : Rs) (w : World) (h : RdrAt w g s) :
    Calls Tryz.prog 24 #[.pointer (some ⟨g, 0, none⟩)] w fun e w' => StepEnd w g (stepF 1 s) e w' := by
  have HR : Hid (RdrAt w g s) := h
  have c0 := h.c0
  have f0 := h.f0
  clear h
  obtain ⟨r, u⟩ := s
  dsimp only at c0
  have hc := fun W => Tryz.strings_CutPrefix r ⟨#[104, 116, 116, 112, 115, 58, 47, 47]⟩ W
  rw [show (⟨#[104, 116, 116, 112, 115, 58, 47, 47]⟩ : ByteArray).data.toList = httpsL from rfl] at hc
  have HE : Hid (stepF 1 (r, u) = if Lib.hasPrefix r.data.toList httpsL = true then (0, (⟨(Lib.trimPrefix r.data.toList httpsL).toArray⟩, u)) else (3, (r, u))) := rfl
  generalize (⟨(Lib.trimPrefix r.data.toList httpsL).toArray⟩ : ByteArray) = x at *
  generalize Lib.hasPrefix r.data.toList httpsL = b at *
  cases b with
  | false =>
    go_enter Tryz.func24, Tryz.ntmps24
    go_wp2_with (go_at_call 41; refine (hc _).mono ?_; rintro e w1 ⟨rfl, hw1⟩; rw [hw1]; clear hw1 w1)
    go_ret
    have e := HE.out
    simp only [if_false, false_and, and_false, Bool.false_eq_true] at e
    rw [e]
    exact ⟨rfl, HR.out, Only.refl _ _⟩
  | true =>
    go_enter Tryz.func24, Tryz.ntmps24
    go_wp2_with (go_at_call 41; refine (hc _).mono ?_; rintro e w1 ⟨rfl, hw1⟩; rw [hw1]; clear hw1 w1)
    go_ret
    have e := HE.out
    simp only [if_true, and_self] at e
    rw [e]
    exact ⟨rfl, HR.out.put0 x, (Only.refl g w).setCell (p := ⟨g, 0, none⟩) (.inl rfl) _⟩

set_option maxRecDepth 100000 in
set_option maxHeartbeats 1000000 in
theorem step2_any (g : Nat) (s : Rs) (w : World) (h : RdrAt w g s) (hs : s.1.size ≤ 100000) :
    Calls Tryz.prog 25 #[.pointer (some ⟨g, 0, none⟩)] w fun e w' => StepEnd w g (stepF 2 s) e w' := by
  have HR : Hid (RdrAt w g s) := h
  have c0 := h.c0
  clear h
  obtain ⟨r, u⟩ := s
  dsimp only at c0 hs
  have hc := fun W => cut_any 47 r (by omega) W
  have hi := fun W => ishost_any (cutX 47 r) (by have := (cut_size 47 r).1; omega) W
  have hk := fun W => qclone_any (cutX 47 r) (by have := (cut_size 47 r).1; omega) W
  have hxs := (cut_size 47 r).1
  have HE : Hid (stepF 2 (r, u) = if cutZ 47 r = true ∧ isHost (cutX 47 r) = true then (0, (r.extract (cutX 47 r).size r.size, (cutX 47 r, u.2))) else (3, (r, u))) := rfl
  generalize isHost (cutX 47 r) = b at *
  generalize cutX 47 r = x at *
  generalize cutY 47 r = y at *
  generalize cutZ 47 r = z at *
  go_enter Tryz.func25, Tryz.ntmps25
  go_wp2_with fail
  refine (hc _).mono ?_
  rintro e w1 ⟨rfl, n, hw1⟩
  have hb1 : Below w.heap.size w w1 := by rw [hw1]; exact below_drewN (Below.refl _ _) n
  clear hw1 hc
  cases z with
  | false =>
    go_wp2_with fail
    go_ret
    have e := HE.out
    simp only [if_false, false_and, and_false, Bool.false_eq_true] at e
    rw [e]
    exact ⟨rfl, HR.out.below hb1, (Only.refl _ _).below hb1⟩
  | true =>
    go_wp2_with fail
    refine (hi _).mono ?_
    rintro e w2 ⟨rfl, hb2⟩
    have hb := below_tr hb1 hb2
    clear hi hb1 hb2
    cases b with
    | false =>
      go_wp2_with fail
      go_ret
      have e := HE.out
      simp only [if_false, false_and, and_false, Bool.false_eq_true] at e
      rw [e]
      exact ⟨rfl, HR.out.below hb, (Only.refl _ _).below hb⟩
    | true =>
      go_wp2_with fail
      refine (hk _).mono ?_
      rintro e w3 ⟨rfl, hb3⟩
      have hb4 := below_tr hb hb3
      clear hk hb hb3
      have H3 : Hid (RdrAt w3 g (r, u)) := HR.out.below hb4
      have HO : Hid (Only g w w3) := (Only.refl _ _).below hb4
      have d0 := H3.out.c0
      have d1 := H3.out.c1
      have g0 := H3.out.f0
      have g1 := H3.out.f1
      have l1 : (0 : Int) ≤ (x.size : Int) := by omega
      have l2 : (x.size : Int) ≤ (r.size : Int) := by omega
      dsimp only at d0 d1
      clear c0 hb4
      go_wp2_with fail
      go_ret
      have e := HE.out
      simp only [if_true, and_self] at e
      rw [e]
      exact ⟨rfl, (H3.out.put1 x).put0 _, (HO.out.setCell (.inl rfl) _).setCell (.inl rfl) _⟩

set_option maxRecDepth 100000 in
set_option maxHeartbeats 1000000 in
theorem step3_any {w0 : World} (ht : Tab16 w0.heap.size w0) (g : Nat) (s : Rs) (w : World) (h : RdrAt w g s) (hs : s.1.size ≤ 100000) (hW : Below w0.heap.size w0 w) :
    Calls Tryz.prog 26 #[.pointer (some ⟨g, 0, none⟩)] w fun e w' => StepEnd w g (stepF 3 s) e w' := by
  have HR : Hid (RdrAt w g s) := h
  have c0 := h.c0
  clear h
  obtain ⟨r, u⟩ := s
  dsimp only at c0 hs
  have hc := fun W => cut_any 63 r (by omega) W
  have hi := fun W hW => ispath_any ht (cutX 63 r) (by have := (cut_size 63 r).1; omega) W hW
  have hk := fun W => qclone_any (cutX 63 r) (by have := (cut_size 63 r).1; omega) W
  have hxs := (cut_size 63 r).1
  have HE : Hid (stepF 3 (r, u) = if isPath (cutX 63 r) = true then (0, (r.extract (cutX 63 r).size r.size, (u.1, (cutX 63 r, u.2.2)))) else (3, (r, u))) := rfl
  generalize isPath (cutX 63 r) = b at *
  generalize cutX 63 r = x at *
  generalize cutY 63 r = y at *
  generalize cutZ 63 r = z at *
  go_enter Tryz.func26, Tryz.ntmps26
  go_wp2_with fail
  refine (hc _).mono ?_
  rintro e w1 ⟨rfl, n, hw1⟩
  have hb1 : Below w.heap.size w w1 := by rw [hw1]; exact below_drewN (Below.refl _ _) n
  have hi1 := hi w1 (hW.trans (hb1.mono hW.size))
  clear hw1 hc hi
  go_wp2_with fail
  refine hi1.mono ?_
  rintro e w2 ⟨rfl, hb2⟩
  have hb := below_tr hb1 hb2
  clear hi1 hb1 hb2
  cases b with
  | false =>
    go_wp2_with fail
    go_ret
    have e := HE.out
    simp only [if_false, false_and, and_false, Bool.false_eq_true] at e
    rw [e]
    exact ⟨rfl, HR.out.below hb, (Only.refl _ _).below hb⟩
  | true =>
    go_wp2_with fail
    refine (hk _).mono ?_
    rintro e w3 ⟨rfl, hb3⟩
    have hb4 := below_tr hb hb3
    clear hk hb hb3
    have H3 : Hid (RdrAt w3 g (r, u)) := HR.out.below hb4
    have HO : Hid (Only g w w3) := (Only.refl _ _).below hb4
    have d0 := H3.out.c0
    have d2 := H3.out.c2
    have g0 := H3.out.f0
    have g2 := H3.out.f2
    have l1 : (0 : Int) ≤ (x.size : Int) := by omega
    have l2 : (x.size : Int) ≤ (r.size : Int) := by omega
    dsimp only at d0 d2
    clear c0 hb4
    go_wp2_with fail
    go_ret
    have e := HE.out
    simp only [if_true, and_self] at e
    rw [e]
    exact ⟨rfl, (H3.out.put2 x).put0 _, (HO.out.setCell (.inl rfl) _).setCell (.inl rfl) _⟩

set_option maxRecDepth 100000 in
set_option maxHeartbeats 1000000 in
theorem step4_any {w0 : World} (ht : Tab16 w0.heap.size w0) (g : Nat) (s : Rs) (w : World) (h : RdrAt w g s) (hs : s.1.size ≤ 100000) (hW : Below w0.heap.size w0 w) :
    Calls Tryz.prog 27 #[.pointer (some ⟨g, 0, none⟩)] w fun e w' => StepEnd w g (stepF 4 s) e w' := by
  have HR : Hid (RdrAt w g s) := h
  have c0 := h.c0
  clear h
  obtain ⟨r, u⟩ := s
  dsimp only at c0 hs
  have hc := fun W => Tryz.strings_TrimPrefix r ⟨#[63]⟩ W
  rw [show (⟨#[63]⟩ : ByteArray).data.toList = [63] from rfl] at hc
  have HE : Hid (stepF 4 (r, u) = if r = ⟨#[63]⟩ then (3, (r, u)) else ((parF ⟨(Lib.trimPrefix r.data.toList [63]).toArray⟩).1, (r, (u.1, (u.2.1, (parF ⟨(Lib.trimPrefix r.data.toList [63]).toArray⟩).2))))) := rfl
  have hxs : (⟨(Lib.trimPrefix r.data.toList [63]).toArray⟩ : ByteArray).size ≤ 100000 := by
    have := trim_le r.data.toList [63]
    rw [size_list] at this
    rw [← size_list, ba_list]; omega
  generalize (⟨(Lib.trimPrefix r.data.toList [63]).toArray⟩ : ByteArray) = x at *
  have l63 : (⟨#[63]⟩ : ByteArray).toList = [63] := by rw [ByteArray.toList_eq]
  by_cases hr : r = ⟨#[63]⟩
  · have heq := toList_eq hr
    rw [l63] at heq
    have e := HE.out
    rw [if_pos hr] at e
    have HE2 : Hid (stepF 4 (r, u) = (3, (r, u))) := e
    clear e HE hr hc
    go_enter Tryz.func27, Tryz.ntmps27
    go_wp2_with fail
    go_ret
    rw [HE2.out]
    exact ⟨rfl, HR.out, Only.refl _ _⟩
  · have heq := toList_ne hr
    rw [l63] at heq
    have e := HE.out
    rw [if_neg hr] at e
    have HE2 : Hid (stepF 4 (r, u) = ((parF x).1, (r, (u.1, (u.2.1, (parF x).2))))) := e
    have hq := qparse_at ht x hxs (parF x).1 (parF x).2 rfl w hW
    clear e HE hr
    generalize (parF x).1 = er at *
    generalize (parF x).2 = l at *
    go_enter Tryz.func27, Tryz.ntmps27
    go_wp2_with (go_at_call 47; refine (hc _).mono ?_; rintro e w1 ⟨rfl, hw1⟩; rw [hw1]; clear hw1 w1)
    refine hq.mono ?_
    rintro e w2 ⟨v, rfl, hrw, ho, hb⟩
    obtain ⟨A, cp, rfl, _⟩ := hrw
    have H2 : Hid (RdrAt w2 g (r, u)) := HR.out.below hb
    have HO : Hid (Only g w w2) := (Only.refl _ _).below hb
    have HF : Hid (OwnF w2 (g + 1) (.slice A l.length cp) l) := ho.lower HR.out.lt
    have d3 := H2.out.f3
    obtain ⟨q, d4, _⟩ := H2.out.c3
    clear c0 hb ho hc hq
    go_wp2_with fail
    go_ret
    rw [HE2.out]
    exact ⟨rfl, H2.out.put3 _ l HF.out, HO.out.setCell (.inl rfl) _⟩

end Go.Proofs.YtfoeeocejcbmlaaGreatDoor
