import Derived.Test.YtfoeeocejcbmlaaGreatDoorUC
namespace Go.Proofs.YtfoeeocejcbmlaaGreatDoor
open Go.RowKit
set_option linter.unusedVariables false
set_option linter.unusedSimpArgs false

/-- The method of a step. -/
def stepFn (k : Nat) : Nat :=
  if k = 0 then 23 else if k = 1 then 24 else if k = 2 then 25 else if k = 3 then 26 else 27

/-- Step by step, up to the first fault. -/
def runF : List Nat → Rs → Int × Rs
  | [], s => (0, s)
  | k :: ks, s => if (stepF k s).1 = 0 then runF ks (stepF k s).2 else stepF k s

theorem trim8 {s : ByteArray} (h : Lib.hasPrefix s.data.toList httpsL = true) : (⟨(Lib.trimPrefix s.data.toList httpsL).toArray⟩ : ByteArray) = s.extract 8 s.size := by
  obtain ⟨t, e1, e2⟩ := has_split h
  apply ba_ext
  rw [ba_list, e2, ext_list, e1, show ((httpsL ++ t).drop 8) = t from rfl, List.take_of_length_le]
  have := congrArg List.length e1
  rw [size_list, List.length_append, show httpsL.length = 8 from rfl] at this
  omega

theorem cut_rest {c : UInt8} {r : ByteArray} (h : cutZ c r = true) : r.extract (cutX c r).size r.size = ⟨#[c]⟩ ++ cutY c r := by
  have e := cut_back h
  have e2 : r.data.toList = (cutX c r ++ ⟨#[c]⟩ ++ cutY c r).data.toList := congrArg (·.data.toList) e
  rw [ba_app, ba_app, List.append_assoc] at e2
  apply ba_ext
  rw [ext_list, ba_app]
  conv => lhs; rw [e2]
  rw [List.drop_left' (size_list _), List.take_of_length_le]
  have := congrArg List.length e2
  rw [size_list, List.length_append, size_list] at this
  omega
theorem cut_none_rest {c : UInt8} {r : ByteArray} (h : cutZ c r = false) : r.extract (cutX c r).size r.size = ⟨#[]⟩ := by
  rw [(cut_not h).1]
  apply ba_ext
  rw [ext_list, Nat.sub_self, List.take_zero]

theorem ba63 (y : ByteArray) : (⟨#[63]⟩ ++ y : ByteArray) = ⟨#[63]⟩ ↔ y.size = 0 := by
  constructor
  · intro h
    have := congrArg ByteArray.size h
    rw [ByteArray.size_append, show (⟨#[63]⟩ : ByteArray).size = 1 from rfl] at this; omega
  · intro h
    have : y.data.toList = [] := List.eq_nil_of_length_eq_zero (by rw [size_list]; exact h)
    apply ba_ext
    rw [ba_app, this, List.append_nil]
theorem trim63 (y : ByteArray) : (⟨(Lib.trimPrefix (⟨#[63]⟩ ++ y : ByteArray).data.toList [63]).toArray⟩ : ByteArray) = y := by
  rw [ba_app, show (⟨#[63]⟩ : ByteArray).data.toList = [63] from rfl, trim_append]
theorem trim63_nil : (⟨(Lib.trimPrefix (⟨#[]⟩ : ByteArray).data.toList [63]).toArray⟩ : ByteArray) = ⟨#[]⟩ := rfl

/-- Path and fields are a target. -/
theorem run_target (t : ByteArray) (u : Ur) : (runF [3, 4] (t, u)).1 = (tgtF t).1 ∧ ((tgtF t).1 = 0 → (runF [3, 4] (t, u)).2.2 = (u.1, (tgtF t).2)) := by
  have e3 : stepF 3 (t, u) = if isPath (cutX 63 t) = true then (0, (t.extract (cutX 63 t).size t.size, (u.1, (cutX 63 t, u.2.2)))) else (3, (t, u)) := rfl
  by_cases hp : isPath (cutX 63 t) = true
  · rw [if_pos hp] at e3
    have e : runF [3, 4] (t, u) = runF [4] (t.extract (cutX 63 t).size t.size, (u.1, (cutX 63 t, u.2.2))) := by
      rw [runF, e3, if_pos rfl]
    rw [e]
    have f4 : ∀ s : Rs, runF [4] s = stepF 4 s := fun s => by
      rw [runF]
      split
      · next h => rw [runF]; exact Prod.ext h.symm rfl
      · rfl
    rw [f4]
    have e4 : ∀ (r : ByteArray) (v : Ur), stepF 4 (r, v) = if r = ⟨#[63]⟩ then (3, (r, v)) else ((parF ⟨(Lib.trimPrefix r.data.toList [63]).toArray⟩).1, (r, (v.1, (v.2.1, (parF ⟨(Lib.trimPrefix r.data.toList [63]).toArray⟩).2)))) := fun _ _ => rfl
    rw [e4]
    cases hz : cutZ 63 t with
    | true =>
      rw [cut_rest hz]
      by_cases hy : (cutY 63 t).size = 0
      · rw [if_pos ((ba63 _).2 hy)]
        have et : tgtF t = (3, ⟨#[]⟩, []) := by unfold tgtF; rw [if_neg (fun h => h.2 ⟨hz, hy⟩)]
        rw [et]
        exact ⟨rfl, fun h => absurd h (by decide)⟩
      · rw [if_neg (fun h => hy ((ba63 _).1 h)), trim63]
        unfold tgtF
        rw [if_pos ⟨hp, fun h => hy h.2⟩]
        split
        · next h0 => exact ⟨h0, fun _ => rfl⟩
        · next h0 => exact ⟨rfl, fun h => absurd h h0⟩
    | false =>
      rw [cut_none_rest hz, if_neg (by decide), trim63_nil]
      obtain ⟨c1, c2⟩ := cut_not hz
      unfold tgtF
      rw [if_pos ⟨hp, fun h => absurd (hz.symm.trans h.1) (by decide)⟩, c2, show parF ⟨#[]⟩ = (0, []) from rfl, if_pos rfl]
      exact ⟨rfl, fun _ => rfl⟩
  · rw [if_neg hp] at e3
    have e : runF [3, 4] (t, u) = (3, (t, u)) := by rw [runF, e3, if_neg (show ¬ (3 : Int) = 0 by decide)]
    have et : tgtF t = (3, ⟨#[]⟩, []) := by unfold tgtF; rw [if_neg (fun h => hp h.1)]
    rw [e, et]
    exact ⟨rfl, fun h => absurd h (by decide)⟩

theorem run_split (t : ByteArray) : (runF [0, 3, 4] (t, u0)).1 = (splF t).1 ∧ ((splF t).1 = 0 → (runF [0, 3, 4] (t, u0)).2.2.2 = (splF t).2) := by
  have e0 : stepF 0 (t, u0) = (if 1024 < t.size then 4 else 0, (t, u0)) := rfl
  unfold splF
  by_cases hs : 1024 < t.size
  · rw [if_pos hs] at e0 ⊢
    rw [runF, e0, if_neg (show ¬ (4 : Int) = 0 by decide)]
    exact ⟨rfl, fun h => absurd h (by decide)⟩
  · rw [if_neg hs] at e0 ⊢
    rw [runF, e0, if_pos rfl]
    obtain ⟨h1, h2⟩ := run_target t u0
    exact ⟨h1, fun h => by rw [h2 h]⟩

theorem run_parse (s : ByteArray) : (runF [0, 1, 2, 3, 4] (s, u0)).1 = (prsF s).1 ∧ ((prsF s).1 = 0 → (runF [0, 1, 2, 3, 4] (s, u0)).2.2 = (prsF s).2) := by
  have e0 : stepF 0 (s, u0) = (if 1024 < s.size then 4 else 0, (s, u0)) := rfl
  have e1 : stepF 1 (s, u0) = if Lib.hasPrefix s.data.toList httpsL = true then (0, (⟨(Lib.trimPrefix s.data.toList httpsL).toArray⟩, u0)) else (3, (s, u0)) := rfl
  have e2 : ∀ r : ByteArray, stepF 2 (r, u0) = if cutZ 47 r = true ∧ isHost (cutX 47 r) = true then (0, (r.extract (cutX 47 r).size r.size, (cutX 47 r, u0.2))) else (3, (r, u0)) := fun _ => rfl
  unfold prsF
  by_cases hs : 1024 < s.size
  · rw [if_pos hs] at e0 ⊢
    rw [runF, e0, if_neg (show ¬ (4 : Int) = 0 by decide)]
    exact ⟨rfl, fun h => absurd h (by decide)⟩
  · rw [if_neg hs] at e0 ⊢
    rw [runF, e0, if_pos rfl]
    by_cases hh : Lib.hasPrefix s.data.toList httpsL = true
    · rw [if_pos hh, trim8 hh] at e1
      rw [if_pos hh, runF, e1, if_pos rfl]
      dsimp only
      generalize s.extract 8 s.size = r
      have e2 := e2 r
      unfold adrF
      by_cases hc : cutZ 47 r = true ∧ isHost (cutX 47 r) = true
      · rw [if_pos hc, cut_rest hc.1] at e2
        rw [if_pos hc, runF, e2, if_pos rfl]
        dsimp only
        obtain ⟨h1, h2⟩ := run_target (⟨#[47]⟩ ++ cutY 47 r) (cutX 47 r, u0.2)
        by_cases ht : (tgtF (⟨#[47]⟩ ++ cutY 47 r)).1 = 0
        · rw [if_pos ht]
          exact ⟨h1.trans ht, fun _ => h2 ht⟩
        · rw [if_neg ht]
          exact ⟨h1, fun h => absurd h ht⟩
      · rw [if_neg hc] at e2
        rw [if_neg hc, runF, e2, if_neg (show ¬ (3 : Int) = 0 by decide)]
        exact ⟨rfl, fun h => absurd h (by decide)⟩
    · rw [if_neg hh] at e1
      rw [if_neg hh, runF, e1, if_neg (show ¬ (3 : Int) = 0 by decide)]
      exact ⟨rfl, fun h => absurd h (by decide)⟩

theorem run_at (ks : List Nat) (i : Nat) (h : i < ks.length) (s : Rs) : runF (ks.drop i) s = if (stepF (ks.getD i 0) s).1 = 0 then runF (ks.drop (i + 1)) (stepF (ks.getD i 0) s).2 else stepF (ks.getD i 0) s := by
  rw [List.drop_eq_getElem_cons h, runF]
  simp only [List.getD, List.getElem?_eq_getElem h, Option.getD_some]

theorem step_any {w0 : World} (ht : Tab16 w0.heap.size w0) (k : Nat) (hk : k < 5) (g : Nat) (s : Rs) (w : World) (h : RdrAt w g s) (hs : s.1.size ≤ 100000) (hW : Below w0.heap.size w0 w) :
    Calls Tryz.prog (stepFn k) #[.pointer (some ⟨g, 0, none⟩)] w fun e w' => StepEnd w g (stepF k s) e w' := by
  rcases (show k = 0 ∨ k = 1 ∨ k = 2 ∨ k = 3 ∨ k = 4 by omega) with rfl | rfl | rfl | rfl | rfl
  · exact step0_any g s w h
  · exact step1_any g s w h
  · exact step2_any g s w h hs
  · exact step3_any ht g s w h hs hW
  · exact step4_any ht g s w h hs hW

/-- The steps, in a row of functions. -/
def StepsAt (w : World) (fb g : Nat) (ks : List Nat) : Prop := fb < w.heap.size ∧ ∀ i, i < ks.length → w.cell? ⟨fb, i, none⟩ = some (.func (.func (stepFn (ks.getD i 0))) #[.pointer (some ⟨g, 0, none⟩)] #[])
theorem StepsAt.only {w w' : World} {fb g : Nat} {ks : List Nat} (h : StepsAt w fb g ks) (ho : Only g w w') (hne : fb ≠ g) : StepsAt w' fb g ks :=
  ⟨Nat.lt_of_lt_of_le h.1 ho.size, fun i hi => (ho.cell (by simpa using h.1) (by simpa using hne)).trans (h.2 i hi)⟩

set_option maxRecDepth 100000 in
set_option maxHeartbeats 2000000 in
theorem ufirst_any {w0 : World} (ht : Tab16 w0.heap.size w0) (ks : List Nat) (hks : ∀ i, i < ks.length → ks.getD i 0 < 5) (hkl : ks.length ≤ 5) (g fb : Nat) (s : Rs) (w : World) (h : RdrAt w g s) (hs : s.1.size ≤ 100000) (hW : Below w0.heap.size w0 w)
    (hg : w0.heap.size ≤ g) (hne : fb ≠ g) (hc : StepsAt w fb g ks) :
    Calls Tryz.prog 22 #[.slice (some ⟨fb, 0, none⟩) ks.length ks.length] w fun e w' => StepEnd w g (runF ks s) e w' := by
  have HC : Hid (StepsAt w fb g ks) := hc
  have HR : Hid (RdrAt w g s) := h
  clear h hc
  go_enter Tryz.func22, Tryz.ntmps22
  go_wp2_with fail
  go_loopw [8] (fun iv wr => ∃ (i : Nat) (t : Rs), iv = .int .i64 (i : Int) ∧ i ≤ ks.length ∧ RdrAt wr g t ∧ t.1.size ≤ 100000 ∧ Only g w wr ∧ runF ks s = runF (ks.drop i) t) (fun iv _ => ks.length - (intOf iv).toNat)
  case atStart => exact ⟨0, s, rfl, Nat.zero_le _, HR.out, hs, Only.refl _ _, rfl⟩
  case round =>
    obtain ⟨i, t, rfl, hi, hr, hts, ho, hrun⟩ := hrel
    have HRT : Hid (RdrAt wr g t) := hr
    have HO : Hid (Only g w wr) := ho
    have HRUN : Hid (runF ks s = runF (ks.drop i) t) := hrun
    clear hr hrun
    by_cases hp : i < ks.length
    · have hp' : (i : Int) < (ks.length : Int) := by omega
      have hcell := (HC.out.only ho hne).2 i hp
      have hst := step_any ht (ks.getD i 0) (hks i hp) g t wr HRT.out hts (hW.trans ((ho.toBelow hg hW.size)))
      have hsm := step_small (ks.getD i 0) t
      have HN : Hid (runF ks s = if (stepF (ks.getD i 0) t).1 = 0 then runF (ks.drop (i + 1)) (stepF (ks.getD i 0) t).2 else stepF (ks.getD i 0) t) := by show _ = _; rw [HRUN.out, run_at ks i hp]
      clear ho HRUN
      generalize stepF (ks.getD i 0) t = x at *
      obtain ⟨n, t2⟩ := x
      have hent : ∀ args W, (callFunc (stepFn (ks.getD i 0)) args).run Tryz.prog W = .ok (.enter (stepFn (ks.getD i 0)) args) W := by
        have hk5 := hks i hp
        generalize ks.getD i 0 = k at *
        rcases (show k = 0 ∨ k = 1 ∨ k = 2 ∨ k = 3 ∨ k = 4 by omega) with rfl | rfl | rfl | rfl | rfl <;> intro args W <;> rfl
      dsimp only at hsm
      by_cases hn : n = 0
      · subst hn
        generalize stepFn (ks.getD i 0) = fk at *
        go_wp2_with fail
        refine hst.mono ?_
        rintro e w2 ⟨rfl, hr2, ho2⟩
        have HR2 : Hid (RdrAt w2 g t2) := hr2
        have HO2 : Hid (Only g w w2) := HO.out.trans ho2
        have HN2 : Hid (runF ks s = runF (ks.drop (i + 1)) t2) := by show _ = _; rw [HN.out]; simp
        clear hr2 ho2 hst HN HRT HO
        go_wp2_with fail
        go_roundw
        case rel => exact ⟨i + 1, t2, by go_num, by omega, HR2.out, by omega, HO2.out, HN2.out⟩
        case measure => simp [intOf]; omega
      · have HN2 : Hid (runF ks s = (n, t2)) := by show _ = _; rw [HN.out, if_neg hn]
        generalize stepFn (ks.getD i 0) = fk at *
        go_wp2_with fail
        refine hst.mono ?_
        rintro e w2 ⟨rfl, hr2, ho2⟩
        have HR2 : Hid (RdrAt w2 g t2) := hr2
        have HO2 : Hid (Only g w w2) := HO.out.trans ho2
        clear hr2 ho2 hst HN HRT HO
        go_wp2_with fail
        go_ret
        rw [HN2.out]
        exact ⟨rfl, HR2.out, HO2.out⟩
    · have hp' : ¬ (i : Int) < (ks.length : Int) := by omega
      have HN2 : Hid (runF ks s = (0, t)) := by show _ = _; rw [HRUN.out, List.drop_of_length_le (by omega), runF]
      clear HRUN ho
      go_wp2_with fail
      go_ret
      rw [HN2.out]
      exact ⟨rfl, HRT.out, HO.out⟩

def ParseAt (w : World) (s : ByteArray) (e : Ending) (w' : World) : Prop :=
  ∃ q, e = .returned (.tuple #[.agg #[.string (prsF s).2.1, .string (prsF s).2.2.1, q], .int .i64 (prsF s).1]) ∧ OwnF w' w.heap.size q (prsF s).2.2.2 ∧ Below w.heap.size w w'
def SplitAt (w : World) (s : ByteArray) (e : Ending) (w' : World) : Prop :=
  ∃ q, e = .returned (.tuple #[.string (splF s).2.1, q, .int .i64 (splF s).1]) ∧ OwnF w' w.heap.size q (splF s).2.2 ∧ Below w.heap.size w w'

theorem steps5 (g fb : Nat) (W : World) (T : TypeId) (hfb : fb = W.heap.size) : StepsAt (W.alloc (.cells #[.func (.func 23) #[.pointer (some ⟨g, 0, none⟩)] #[], .func (.func 24) #[.pointer (some ⟨g, 0, none⟩)] #[], .func (.func 25) #[.pointer (some ⟨g, 0, none⟩)] #[], .func (.func 26) #[.pointer (some ⟨g, 0, none⟩)] #[], .func (.func 27) #[.pointer (some ⟨g, 0, none⟩)] #[]] T)) fb g [0, 1, 2, 3, 4] := by
  subst hfb
  refine ⟨by simp, fun i hi => ?_⟩
  have hi : i < 5 := hi
  rcases (show i = 0 ∨ i = 1 ∨ i = 2 ∨ i = 3 ∨ i = 4 by omega) with rfl | rfl | rfl | rfl | rfl <;> simp [go_sem, stepFn]
theorem steps3 (g fb : Nat) (W : World) (T : TypeId) (hfb : fb = W.heap.size) : StepsAt (W.alloc (.cells #[.func (.func 23) #[.pointer (some ⟨g, 0, none⟩)] #[], .func (.func 26) #[.pointer (some ⟨g, 0, none⟩)] #[], .func (.func 27) #[.pointer (some ⟨g, 0, none⟩)] #[]] T)) fb g [0, 3, 4] := by
  subst hfb
  refine ⟨by simp, fun i hi => ?_⟩
  have hi : i < 3 := hi
  rcases (show i = 0 ∨ i = 1 ∨ i = 2 by omega) with rfl | rfl | rfl <;> simp [go_sem, stepFn]

theorem RdrAt.new (W : World) (g : Nat) (s : ByteArray) (hg : g = W.heap.size) : RdrAt (W.alloc (.cells #[.string s, .string ⟨#[]⟩, .string ⟨#[]⟩, .slice none 0 0] 47)) g (s, u0) := by
  subst hg
  exact ⟨by simp, by simp [go_sem], by simp [go_sem, u0], by simp [go_sem, u0], ⟨.slice none 0 0, by simp [go_sem], OwnF.nil _ _⟩, by simp [go_sem], by simp [go_sem], by simp [go_sem], by simp [go_sem]⟩

/-- Three cells of a block. -/
structure Tri3 (g : Nat) (a b c : Value) (W : World) : Prop where
  c0 : W.cell? ⟨g, 0, none⟩ = some a
  c1 : W.cell? ⟨g, 1, none⟩ = some b
  c2 : W.cell? ⟨g, 2, none⟩ = some c
  f0 : W.frozen? ⟨g, 0, none⟩ = false
  f1 : W.frozen? ⟨g, 1, none⟩ = false
  f2 : W.frozen? ⟨g, 2, none⟩ = false
  lt : g < W.heap.size

theorem Tri3.below {g : Nat} {a b c : Value} {W W' : World} (h : Tri3 g a b c W) (hb : Below W.heap.size W W') : Tri3 g a b c W' :=
  ⟨(hb.cell (by simpa using h.lt)).trans h.c0, (hb.cell (by simpa using h.lt)).trans h.c1, (hb.cell (by simpa using h.lt)).trans h.c2, (hb.frozen (by simpa using h.lt)).trans h.f0, (hb.frozen (by simpa using h.lt)).trans h.f1, (hb.frozen (by simpa using h.lt)).trans h.f2, Nat.lt_of_lt_of_le h.lt hb.size⟩
theorem Tri3.only {g tb : Nat} {a b c : Value} {W W' : World} (h : Tri3 g a b c W) (hb : Only tb W W') (hne : g ≠ tb) : Tri3 g a b c W' :=
  ⟨(hb.cell (by simpa using h.lt) hne).trans h.c0, (hb.cell (by simpa using h.lt) hne).trans h.c1, (hb.cell (by simpa using h.lt) hne).trans h.c2, (hb.frozen (by simpa using h.lt) hne).trans h.f0, (hb.frozen (by simpa using h.lt) hne).trans h.f1, (hb.frozen (by simpa using h.lt) hne).trans h.f2, Nat.lt_of_lt_of_le h.lt hb.size⟩
theorem Tri3.new (W : World) (g : Nat) (a b c : Value) (T : TypeId) (hg : g = W.heap.size) : Tri3 g a b c (W.alloc (.cells #[a, b, c] T)) := by
  subst hg
  exact ⟨by simp [go_sem], by simp [go_sem], by simp [go_sem], by simp [go_sem], by simp [go_sem], by simp [go_sem], by simp⟩

theorem prs_er (s : ByteArray) (h : (prsF s).1 ≠ 0) : (prsF s).2 = u0 := by
  unfold prsF at h ⊢
  split
  · rfl
  · next h1 =>
    rw [if_neg h1] at h
    split
    · next h2 => rw [if_pos h2] at h; exact adr_er _ h
    · rfl
theorem spl_er (s : ByteArray) (h : (splF s).1 ≠ 0) : (splF s).2 = (⟨#[]⟩, []) := by
  unfold splF at h ⊢
  split
  · rfl
  · next h1 => rw [if_neg h1] at h; exact tgt_er _ h

theorem slice_ofF {w : World} {B : Nat} {q : Value} {l : List Fd} (h : OwnF w B q l) : ∃ A cap, q = .slice A l.length cap := by
  obtain ⟨A, cap, e, _⟩ := h.row
  exact ⟨A, cap, e⟩

set_option maxRecDepth 100000 in
set_option maxHeartbeats 2000000 in
theorem uparse_any {w0 : World} (ht : Tab16 w0.heap.size w0) (s : ByteArray) (hs : s.size ≤ 100000) (w : World) (hW : Below w0.heap.size w0 w) :
    Calls Tryz.prog 7 #[.string s] w fun e w' => ParseAt w s e w' := by
  have hz := hW.size
  have hf := fun W hr hb hc => ufirst_any ht [0, 1, 2, 3, 4] (by decide) (by decide) (w.heap.size + 1) (w.heap.size + 1 + 1) (s, u0) W hr hs hb (by omega) (by omega) hc
  obtain ⟨p1, p2⟩ := run_parse s
  unfold StepEnd at hf
  rw [p1] at hf
  generalize (runF [0, 1, 2, 3, 4] (s, u0)).2 = x at *
  obtain ⟨r, h, p, l⟩ := x
  have HP : Hid ((prsF s).1 = 0 → (h, p, l) = (prsF s).2) := p2
  have HQ : Hid ((prsF s).1 ≠ 0 → (prsF s).2 = u0) := prs_er s
  have HG : Hid (ParseAt w s = fun e w' => ∃ q, e = .returned (.tuple #[.agg #[.string (prsF s).2.1, .string (prsF s).2.2.1, q], .int .i64 (prsF s).1]) ∧ OwnF w' w.heap.size q (prsF s).2.2.2 ∧ Below w.heap.size w w') := rfl
  clear p1 p2
  rw [HG.out]
  clear HG
  generalize (prsF s).2 = y at *
  generalize (prsF s).1 = n at *
  obtain ⟨h', p', l'⟩ := y
  go_enter Tryz.func7, Tryz.ntmps7
  go_wp2_with fail
  have b1 : Below w.heap.size w (w.alloc (.cells #[.string ⟨#[]⟩, .string ⟨#[]⟩, .slice none 0 0] 28)) := (Below.refl _ _).alloc (Nat.le_refl _) _
  have t1 := Tri3.new w w.heap.size (.string ⟨#[]⟩) (.string ⟨#[]⟩) (.slice none 0 0) 28 rfl
  have z1 : (w.alloc (.cells #[.string ⟨#[]⟩, .string ⟨#[]⟩, .slice none 0 0] 28)).heap.size = w.heap.size + 1 := by simp
  generalize w.alloc (.cells #[.string ⟨#[]⟩, .string ⟨#[]⟩, .slice none 0 0] 28) = w1 at *
  have b2 : Below w1.heap.size w1 (w1.alloc (.cells #[.string s, .string ⟨#[]⟩, .string ⟨#[]⟩, .slice none 0 0] 47)) := (Below.refl _ _).alloc (Nat.le_refl _) _
  have r2 := RdrAt.new w1 (w.heap.size + 1) s z1.symm
  have z2 : (w1.alloc (.cells #[.string s, .string ⟨#[]⟩, .string ⟨#[]⟩, .slice none 0 0] 47)).heap.size = w.heap.size + 1 + 1 := by simp [z1]
  generalize w1.alloc (.cells #[.string s, .string ⟨#[]⟩, .string ⟨#[]⟩, .slice none 0 0] 47) = w2 at *
  have s3 := steps5 (w.heap.size + 1) (w.heap.size + 1 + 1) w2 49 z2.symm
  have b3 := (Below.refl w2.heap.size w2).alloc (Nat.le_refl _) (.cells #[.func (.func 23) #[.pointer (some ⟨w.heap.size + 1, 0, none⟩)] #[], .func (.func 24) #[.pointer (some ⟨w.heap.size + 1, 0, none⟩)] #[], .func (.func 25) #[.pointer (some ⟨w.heap.size + 1, 0, none⟩)] #[], .func (.func 26) #[.pointer (some ⟨w.heap.size + 1, 0, none⟩)] #[], .func (.func 27) #[.pointer (some ⟨w.heap.size + 1, 0, none⟩)] #[]] 49)
  generalize w2.alloc _ = w3 at *
  have r3 := r2.below b3
  have t3 := (t1.below b2).below b3
  have b13 : Below w.heap.size w w3 := b1.trans ((b2.mono (by omega)).trans (b3.mono (by omega)))
  have hff := hf w3 r3 (hW.trans (b13.mono hz)) s3
  clear hf r2 r3 s3 t1 b1 b2 b3 z1 z2
  refine hff.mono ?_
  rintro e w4 ⟨rfl, hr, ho⟩
  have T4 := t3.only ho (by omega)
  have B4 : Hid (Below w.heap.size w w4) := b13.trans (ho.toBelow (by omega) b13.size)
  obtain ⟨q, c3, hq⟩ := hr.c3
  obtain ⟨A, cp, rfl⟩ := slice_ofF hq
  have c1 := hr.c1
  have c2 := hr.c2
  dsimp only at c1 c2 c3 hq
  have HQ4 : Hid (OwnF w4 (w.heap.size + 1 + 1) (.slice A l.length cp) l) := hq
  obtain ⟨t0, t1, t2, g0, g1, g2, tl⟩ := T4
  have hbs := B4.out.size
  clear hff hr ho t3 b13 hq w1 w2 w3
  by_cases hn : n = 0
  · have e := HP.out hn
    injection e with e1 e; injection e with e2 e3
    subst hn e1 e2 e3
    go_wp2_with fail
    refine bodyPost_ret (v := .tuple #[.agg #[.string h, .string p, .slice A l.length cp], .int .i64 0]) (by simp [results, Tryz.results7, go_sem, t0, t1, t2]) rfl ⟨_, rfl, ?_, ?_⟩
    · exact OwnF.lower (OwnF.only HQ4.out (tb := w.heap.size) ((((Only.refl w.heap.size w4).setCell (p := ⟨w.heap.size, 0, none⟩) (.inl rfl) _).setCell (p := ⟨w.heap.size, 1, none⟩) (.inl rfl) _).setCell (p := ⟨w.heap.size, 2, none⟩) (.inl rfl) _) (by omega)) (by omega)
    · exact ((B4.out.setCell (p := ⟨w.heap.size, 0, none⟩) (Nat.le_refl _) _).setCell (p := ⟨w.heap.size, 1, none⟩) (Nat.le_refl _) _).setCell (p := ⟨w.heap.size, 2, none⟩) (Nat.le_refl _) _
  · have e := HQ.out hn
    unfold u0 at e
    injection e with e1 e; injection e with e2 e3
    subst e1 e2 e3
    clear HP HQ
    go_wp2_with fail
    refine bodyPost_ret (v := .tuple #[.agg #[.string ⟨#[]⟩, .string ⟨#[]⟩, .slice none 0 0], .int .i64 n]) (by simp [results, Tryz.results7, go_sem, t0, t1, t2]) rfl ⟨_, rfl, OwnF.nil _ _, ?_⟩
    exact ((B4.out.setCell (p := ⟨w.heap.size, 0, none⟩) (Nat.le_refl _) _).setCell (p := ⟨w.heap.size, 1, none⟩) (Nat.le_refl _) _).setCell (p := ⟨w.heap.size, 2, none⟩) (Nat.le_refl _) _

set_option maxRecDepth 100000 in
set_option maxHeartbeats 2000000 in
theorem usplit_any {w0 : World} (ht : Tab16 w0.heap.size w0) (s : ByteArray) (hs : s.size ≤ 100000) (w : World) (hW : Below w0.heap.size w0 w) :
    Calls Tryz.prog 9 #[.string s] w fun e w' => SplitAt w s e w' := by
  have hz := hW.size
  have hf := fun W hr hb hc => ufirst_any ht [0, 3, 4] (by decide) (by decide) w.heap.size (w.heap.size + 1) (s, u0) W hr hs hb (by omega) (by omega) hc
  obtain ⟨p1, p2⟩ := run_split s
  unfold StepEnd at hf
  rw [p1] at hf
  generalize (runF [0, 3, 4] (s, u0)).2 = x at *
  obtain ⟨r, h, p, l⟩ := x
  have HP : Hid ((splF s).1 = 0 → (p, l) = (splF s).2) := p2
  have HQ : Hid ((splF s).1 ≠ 0 → (splF s).2 = (⟨#[]⟩, [])) := spl_er s
  have HG : Hid (SplitAt w s = fun e w' => ∃ q, e = .returned (.tuple #[.string (splF s).2.1, q, .int .i64 (splF s).1]) ∧ OwnF w' w.heap.size q (splF s).2.2 ∧ Below w.heap.size w w') := rfl
  clear p1 p2
  rw [HG.out]
  clear HG
  generalize (splF s).2 = y at *
  generalize (splF s).1 = n at *
  obtain ⟨p', l'⟩ := y
  go_enter Tryz.func9, Tryz.ntmps9
  go_wp2_with fail
  have b2 : Below w.heap.size w (w.alloc (.cells #[.string s, .string ⟨#[]⟩, .string ⟨#[]⟩, .slice none 0 0] 47)) := (Below.refl _ _).alloc (Nat.le_refl _) _
  have r2 := RdrAt.new w w.heap.size s rfl
  have z2 : (w.alloc (.cells #[.string s, .string ⟨#[]⟩, .string ⟨#[]⟩, .slice none 0 0] 47)).heap.size = w.heap.size + 1 := by simp
  generalize w.alloc (.cells #[.string s, .string ⟨#[]⟩, .string ⟨#[]⟩, .slice none 0 0] 47) = w2 at *
  have s3 := steps3 w.heap.size (w.heap.size + 1) w2 49 z2.symm
  have b3 := (Below.refl w2.heap.size w2).alloc (Nat.le_refl _) (.cells #[.func (.func 23) #[.pointer (some ⟨w.heap.size, 0, none⟩)] #[], .func (.func 26) #[.pointer (some ⟨w.heap.size, 0, none⟩)] #[], .func (.func 27) #[.pointer (some ⟨w.heap.size, 0, none⟩)] #[]] 49)
  generalize w2.alloc _ = w3 at *
  have r3 := r2.below b3
  have b13 : Below w.heap.size w w3 := b2.trans (b3.mono (by omega))
  have hff := hf w3 r3 (hW.trans (b13.mono hz)) s3
  clear hf r2 r3 s3 b2 b3 z2
  refine hff.mono ?_
  rintro e w4 ⟨rfl, hr, ho⟩
  have B4 : Hid (Below w.heap.size w w4) := b13.trans (ho.toBelow (by omega) b13.size)
  obtain ⟨q, c3, hq⟩ := hr.c3
  obtain ⟨A, cp, rfl⟩ := slice_ofF hq
  have c1 := hr.c1
  have c2 := hr.c2
  dsimp only at c1 c2 c3 hq
  have HQ4 : Hid (OwnF w4 (w.heap.size + 1) (.slice A l.length cp) l) := hq
  clear hff hr ho b13 hq w2 w3
  by_cases hn : n = 0
  · have e := HP.out hn
    injection e with e2 e3
    subst hn e2 e3
    go_wp2_with fail
    go_quiet (fail)
    go_wp2_with fail
    refine bodyPost_ret (v := .tuple #[.string p, .slice A l.length cp, .int .i64 0]) (by simp [results, Tryz.results9, go_sem]) rfl ⟨_, rfl, ?_, ?_⟩
    · exact OwnF.lower (OwnF.below HQ4.out (by repeat (first | exact Below.refl _ _ | assumption | refine below_drewN ?_ _ | refine Below.drew ?_ | refine Below.alloc ?_ (by simp <;> omega) _ | refine Below.setCell ?_ (by simp <;> omega) _))) (by omega)
    · exact below_drewN B4.out _
  · have e := HQ.out hn
    injection e with e2 e3
    subst e2 e3
    clear HP HQ
    go_wp2_with fail
    exact bodyPost_ret (v := .tuple #[.string ⟨#[]⟩, .slice none 0 0, .int .i64 n]) (by simp [results, Tryz.results9, go_sem]) rfl ⟨_, rfl, OwnF.nil _ _, B4.out⟩

end Go.Proofs.YtfoeeocejcbmlaaGreatDoor
