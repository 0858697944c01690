import Derived.Test.YtanpplgmdemlaaaGreatDoorW32
import Derived.Test.YtanpplgmdemlaaaGreatDoorVU
import Derived.Test.YtanpplgmdemlaaaGreatDoorK1
import Derived.Laws.MakeOwn
import Derived.Test.YtanpplgmdemlaaaGreatDoorKB
import Derived.Deep.RegionLaw
namespace Go.Proofs.YtanpplgmdemlaaaGreatDoor
open Go.RowKit
set_option linter.unusedVariables false
set_option linter.unusedSimpArgs false

theorem below_tr {a b c : World} (h : Below a.heap.size a b) (k : Below b.heap.size b c) : Below a.heap.size a c := h.trans (k.mono h.size)

/-- The sign of an order. -/
def sgn3 (x : Int) : Int := if x < 0 then -1 else if 0 < x then 1 else 0
theorem sgn3_neg {x : Int} : sgn3 x < 0 ↔ x < 0 := by unfold sgn3; split <;> (try split) <;> omega
theorem sgn3_zero {x : Int} : sgn3 x = 0 ↔ x = 0 := by unfold sgn3; split <;> (try split) <;> omega

set_option maxHeartbeats 1000000 in
theorem porder_any (a : Nd) (l : Fo) (b : Nd) (m : Fo) (v u : Value) (B : Nat) (w : World) (hv : RepV w B a l v) (hu : RepV w B b m u) (hB : B ≤ w.heap.size) (ma : may a l = true) (mb : may b m = true) :
    Calls Tryz.prog 41 #[v, u] w fun e w' => e = .returned (.int .i64 (sgn3 (ordT a l b m))) ∧ Below w.heap.size w w' := by
  have k1 : ∀ W, Below w.heap.size w W → Calls Tryz.prog 64 #[v, u] W fun e w' => e = .returned (.bool (decide (ordT a l b m < 0))) ∧ Below W.heap.size W w' := fun W hW =>
    less_any a l b m v u B W (hv.below (hW.mono hB)) (hu.below (hW.mono hB)) (by have := hW.size; omega) ma mb
  have k2 : ∀ W, Below w.heap.size w W → Calls Tryz.prog 64 #[u, v] W fun e w' => e = .returned (.bool (decide (ordT b m a l < 0))) ∧ Below W.heap.size W w' := fun W hW =>
    less_any b m a l u v B W (hu.below (hW.mono hB)) (hv.below (hW.mono hB)) (by have := hW.size; omega) mb ma
  obtain ⟨hf, A, cap, b0, o0, rfl, hn, hA, hr⟩ := hv
  obtain ⟨hg, A', cap', b0', o0', rfl, hn', hA', hr'⟩ := hu
  have hneg := neg_ordT a l b m
  rw [hneg] at k2
  clear hneg hA hA' hr hr'
  generalize ordT a l b m = x at *
  have hb0 : Below w.heap.size w ((w.alloc (.cells #[.int .i64 a.kind, .int .i64 a.n, .string a.s, .slice A (flen l) cap] 27)).alloc (.cells #[.int .i64 b.kind, .int .i64 b.n, .string b.s, .slice A' (flen m) cap'] 27)) := (Below.alloc (Below.refl _ _) (Nat.le_refl _) _).alloc (by simp) _
  have hx : Box4 ((w.alloc (.cells #[.int .i64 a.kind, .int .i64 a.n, .string a.s, .slice A (flen l) cap] 27)).alloc (.cells #[.int .i64 b.kind, .int .i64 b.n, .string b.s, .slice A' (flen m) cap'] 27)) w.heap.size (.int .i64 a.kind) (.int .i64 a.n) (.string a.s) (.slice A (flen l) cap) := (Box4.new w _ _ _ _ _).alloc _
  have hy : Box4 ((w.alloc (.cells #[.int .i64 a.kind, .int .i64 a.n, .string a.s, .slice A (flen l) cap] 27)).alloc (.cells #[.int .i64 b.kind, .int .i64 b.n, .string b.s, .slice A' (flen m) cap'] 27)) (w.heap.size + 1) (.int .i64 b.kind) (.int .i64 b.n) (.string b.s) (.slice A' (flen m) cap') := by
    have h := Box4.new (w.alloc (.cells #[.int .i64 a.kind, .int .i64 a.n, .string a.s, .slice A (flen l) cap] 27)) (.int .i64 b.kind) (.int .i64 b.n) (.string b.s) (.slice A' (flen m) cap') 27
    simpa using h
  go_enter Tryz.func41, Tryz.ntmps41
  go_wp2_with fail
  refine (k1 _ hb0).mono ?_
  rintro e w1 ⟨rfl, h1⟩
  have hx1 := hx.below h1
  have hy1 := hy.below h1
  have h1w : Below w.heap.size w w1 := below_tr hb0 h1
  obtain ⟨x0, x1, x2, x3, x4⟩ := hx1
  obtain ⟨y0, y1, y2, y3, y4⟩ := hy1
  clear hx hy h1 hb0
  by_cases hx : x < 0
  · rw [decide_eq_true hx]
    have HX : Hid (x < 0) := hx
    clear hx
    go_wp2_with fail
    go_ret
    exact ⟨ret_int (by unfold sgn3; rw [if_pos HX.out]), h1w⟩
  · rw [decide_eq_false hx]
    have HX : Hid (¬ x < 0) := hx
    clear hx
    go_wp2_with fail
    refine (k2 _ h1w).mono ?_
    rintro e w2 ⟨rfl, h2⟩
    have h3 : Below w.heap.size w w2 := below_tr h1w h2
    by_cases hy : 0 < x
    · rw [decide_eq_true (show -x < 0 by omega)]
      have HY : Hid (0 < x) := hy
      clear hy
      go_wp2_with fail
      go_ret
      exact ⟨ret_int (by have h1 := HX.out; have h2 := HY.out; unfold sgn3; (repeat' split) <;> omega), h3⟩
    · rw [decide_eq_false (show ¬ -x < 0 by omega)]
      have HY : Hid (¬ 0 < x) := hy
      clear hy
      go_wp2_with fail
      go_ret
      exact ⟨ret_int (by have h1 := HX.out; have h2 := HY.out; unfold sgn3; (repeat' split) <;> omega), h3⟩

def BsEnd (M : List Kd) (a : Nd) (l : Fo) (w : World) (e : Ending) (w' : World) : Prop :=
  ∃ (i : Nat) (is : Bool), e = .returned (.tuple #[.int .i64 (i : Int), .bool is]) ∧ Below w.heap.size w w' ∧ (is = true → i < M.length ∧ ordT (M.getD i kd0).a (M.getD i kd0).l a l = 0) ∧ (is = false → ∀ k, k < M.length → ordT (M.getD k kd0).a (M.getD k kd0).l a l ≠ 0)

def BsRel (w : World) (M : List Kd) (a : Nd) (l : Fo) (A : Option Addr) (cap : Nat) (iv jv : Value) (wr : World) : Prop :=
  ∃ i j : Nat, iv = .int .i64 (i : Int) ∧ jv = .int .i64 (j : Int) ∧ i ≤ j ∧ j ≤ M.length ∧ (∀ k, k < i → ordT (M.getD k kd0).a (M.getD k kd0).l a l < 0) ∧ (∀ k, j ≤ k → k < M.length → 0 ≤ ordT (M.getD k kd0).a (M.getD k kd0).l a l) ∧ Below w.heap.size w wr ∧
    Box4 wr w.heap.size (.int .i64 a.kind) (.int .i64 a.n) (.string a.s) (.slice A (flen l) cap)

theorem rises_lt {M : List Kd} (h : Rises M) {i j : Nat} (hij : i < j) (hj : j < M.length) : ordK (M.getD i kd0) (M.getD j kd0) < 0 := by
  have := List.pairwise_iff_getElem.1 h i j (by omega) hj hij
  simpa [List.getD, List.getElem?_eq_getElem hj, List.getElem?_eq_getElem (show i < M.length by omega)] using this

set_option maxRecDepth 100000 in
set_option maxHeartbeats 4000000 in
theorem bs_any (M : List Kd) (VW : Value) (a : Nd) (l : Fo) (v : Value) (B : Nat) (w : World) (h : SlT w VW M) (hm : ∀ k ∈ M, may k.a k.l = true) (hr : Rises M) (hl : M.length ≤ 1000) (hv : RepV w B a l v) (hB : B ≤ w.heap.size) (ma : may a l = true) :
    Calls Tryz.prog 40 #[VW, v, .func (.func 41) #[] #[]] w (BsEnd M a l w) := by
  obtain ⟨WA, wc, rfl, hrow⟩ := h.len
  obtain ⟨hf, A, cap, b, o, rfl, hn, hA, hrp⟩ := hv
  have HROW : Hid (M.length = 0 ∨ ∃ g, WA = some ⟨g, 0, none⟩ ∧ RowT w g M) := hrow
  have HM : Hid (∀ k ∈ M, may k.a k.l = true) := hm
  have HR : Hid (Rises M) := hr
  have HA : Hid (flen l = 0 ∨ A = some ⟨b, o, none⟩) := hA
  have HRP : Hid (RepF w B l b o) := hrp
  clear h hrow hm hr hA hrp
  have hbA : Below w.heap.size w (w.alloc (.cells #[.int .i64 a.kind, .int .i64 a.n, .string a.s, .slice A (flen l) cap] 27)) := Below.alloc (Below.refl _ _) (Nat.le_refl _) _
  have HBX : Hid (_ ∧ _) := ⟨Box4.new w (.int .i64 a.kind) (.int .i64 a.n) (.string a.s) (.slice A (flen l) cap) 27, hbA⟩
  clear hbA
  go_enter Tryz.func40, Tryz.ntmps40
  go_wp2_with fail
  go_loopw [9, 10] (fun iv jv wr => BsRel w M a l A cap iv jv wr) (fun iv jv _ => (intOf jv).toNat - (intOf iv).toNat)
  case atStart => exact ⟨0, M.length, rfl, rfl, by omega, Nat.le_refl _, by simp, by intro k h1 h2; omega, HBX.out.2, HBX.out.1⟩
  case round =>
    obtain ⟨i, j, rfl, rfl, hij, hj, hlo, hhi, hbl, hbx⟩ := hrel
    have HLO : Hid (∀ k, k < i → ordT (M.getD k kd0).a (M.getD k kd0).l a l < 0) := hlo
    have HHI : Hid (∀ k, j ≤ k → k < M.length → 0 ≤ ordT (M.getD k kd0).a (M.getD k kd0).l a l) := hhi
    clear hlo hhi HBX
    have hs := hbl.size
    by_cases hp : i < j
    · have hp' : (i : Int) < (j : Int) := by omega
      obtain ⟨g, rfl, hrow⟩ : ∃ g, WA = some ⟨g, 0, none⟩ ∧ RowT w g M := by
        rcases HROW.out with h | h
        · omega
        · exact h
      have hrw := hrow.below hbl
      go_upto_region 5 with fail
      obtain ⟨k, hk⟩ : ∃ k : Nat, ((i : Int) + (j : Int)) / 2 = (k : Int) := ⟨(i + j) / 2, by omega⟩
      have hki : i ≤ k ∧ k < j := by omega
      rw [hk]
      clear hk
      have hkM : k < M.length := by omega
      obtain ⟨e0, e1, e2, e3⟩ := hrw.at k hkM
      have hok := hrw.ok k hkM
      have hmk := HM.out (M.getD k kd0) (by simp [List.getD, List.getElem?_eq_getElem hkM])
      have k1 : ∀ W, Below wr.heap.size wr W → Calls Tryz.prog 41 #[(M.getD k kd0).val, .agg #[.int .i64 a.kind, .int .i64 a.n, .string a.s, .slice A (flen l) cap]] W fun e w' => e = .returned (.int .i64 (sgn3 (ordT (M.getD k kd0).a (M.getD k kd0).l a l))) ∧ Below W.heap.size W w' := fun W hW =>
        porder_any _ _ a l _ _ W.heap.size W (Kd.rep (hok.1.below hW)) (RepV.keep (w := w) (by have := hW.size; omega) (fun q z hq => by rw [hW.cell (by simp; omega), hbl.cell (by simp; omega)]) ⟨hf, A, cap, b, o, rfl, hn, HA.out, HRP.out⟩) (Nat.le_refl _) hmk ma
      have HX0 : Hid (ordT (M.getD k kd0).a (M.getD k kd0).l a l = ordT (M.getD k kd0).a (M.getD k kd0).l a l) := rfl
      generalize ho : ordT (M.getD k kd0).a (M.getD k kd0).l a l = od at *
      have HOD : Hid (ordT (M.getD k kd0).a (M.getD k kd0).l a l = od) := ho
      clear ho HX0 hmk hok hrow
      generalize hx0 : M.getD k kd0 = x at *
      have HXE : Hid (M.getD k kd0 = x) := hx0
      clear hx0
      have hi0 : (0 : Int) ≤ (k : Int) := by omega
      have hi1 : (k : Int) < (M.length : Int) := by omega
      obtain ⟨x0, x1, x2, x3, x4⟩ := hbx
      have hg := hrw.1
      have HRW : Hid (RowT wr g M) := hrw
      clear hrw
      have hS0 : ∀ W, Below wr.heap.size wr W → (W.cell? ⟨g, k * 4, none⟩ = some (.int .i64 x.a.kind) ∧ W.cell? ⟨g, k * 4 + 1, none⟩ = some (.int .i64 x.a.n) ∧ W.cell? ⟨g, k * 4 + 2, none⟩ = some (.string x.a.s) ∧ W.cell? ⟨g, k * 4 + 3, none⟩ = some (.slice x.A (flen x.l) x.cap) ∧ W.cell? ⟨w.heap.size, 0, none⟩ = some (.int .i64 a.kind) ∧ W.cell? ⟨w.heap.size, 1, none⟩ = some (.int .i64 a.n) ∧ W.cell? ⟨w.heap.size, 2, none⟩ = some (.string a.s) ∧ W.cell? ⟨w.heap.size, 3, none⟩ = some (.slice A (flen l) cap)) ∧ Below wr.heap.size wr W := fun W hW =>
        ⟨⟨(hW.cell hg).trans e0, (hW.cell hg).trans e1, (hW.cell hg).trans e2, (hW.cell hg).trans e3, (hW.cell x0).trans x1, (hW.cell x0).trans x2, (hW.cell x0).trans x3, (hW.cell x0).trans x4⟩, hW⟩
      have HS0 : Hid _ := hS0
      clear hS0 e0 e1 e2 e3
      go_region_held3 (fun W => (W.cell? ⟨g, k * 4, none⟩ = some (.int .i64 x.a.kind) ∧ W.cell? ⟨g, k * 4 + 1, none⟩ = some (.int .i64 x.a.n) ∧ W.cell? ⟨g, k * 4 + 2, none⟩ = some (.string x.a.s) ∧ W.cell? ⟨g, k * 4 + 3, none⟩ = some (.slice x.A (flen x.l) x.cap) ∧ W.cell? ⟨w.heap.size, 0, none⟩ = some (.int .i64 a.kind) ∧ W.cell? ⟨w.heap.size, 1, none⟩ = some (.int .i64 a.n) ∧ W.cell? ⟨w.heap.size, 2, none⟩ = some (.string a.s) ∧ W.cell? ⟨w.heap.size, 3, none⟩ = some (.slice A (flen l) cap)) ∧ Below wr.heap.size wr W)
        (first | assumption | exact HS0.out _ (Below.drew (Below.refl _ _)) | exact HS0.out _ h4)
        ((go_at_call 41; refine (k1 _ (Below.drew (Below.refl _ _))).mono ?_; rintro e w4 ⟨rfl, h4'⟩; have h4 : Below wr.heap.size wr w4 := Below.trans (Below.drew (Below.refl _ _)) h4'))
      have hb4 : Below w.heap.size w w4 := below_tr hbl h4
      have hbx4 : Box4 w4 w.heap.size (.int .i64 a.kind) (.int .i64 a.n) (.string a.s) (.slice A (flen l) cap) := Box4.below ⟨x0, x1, x2, x3, x4⟩ h4
      clear h4 h4' HS0 k1 x1 x2 x3 x4
      by_cases hod : od < 0
      · rw [decide_eq_true (sgn3_neg.2 hod)]
        have HD : Hid (od < 0) := hod
        clear hod
        go_wp2_with fail
        go_roundw
        case rel =>
          refine ⟨k + 1, j, by go_num, rfl, by omega, hj, fun q hq => ?_, HHI.out, hb4, hbx4⟩
          rcases Nat.lt_or_ge q k with h | h
          · have h1 := rises_lt HR.out h hkM
            have hod := HOD.out
            rw [← HXE.out] at hod
            have h2 := tri_ordT (M.getD q kd0).a (M.getD q kd0).l (M.getD k kd0).a (M.getD k kd0).l a l
            rw [hod] at h2
            have h3 := HD.out
            unfold ordK at h1
            unfold Tri at h2
            omega
          · obtain rfl : q = k := by omega
            rw [HXE.out, HOD.out]; exact HD.out
        case measure => simp [intOf]; omega
      · rw [decide_eq_false (fun h => hod (sgn3_neg.1 h))]
        have HD : Hid (¬ od < 0) := hod
        clear hod
        go_wp2_with fail
        go_roundw
        case rel =>
          refine ⟨i, k, rfl, rfl, hki.1, by omega, HLO.out, fun q h1 h2 => ?_, hb4, hbx4⟩
          rcases Nat.lt_or_ge k q with h | h
          · have h1 := rises_lt HR.out h h2
            have hod := HOD.out
            rw [← HXE.out] at hod
            have h2 := tri_ordT (M.getD k kd0).a (M.getD k kd0).l (M.getD q kd0).a (M.getD q kd0).l a l
            have h4 := neg_ordT (M.getD k kd0).a (M.getD k kd0).l (M.getD q kd0).a (M.getD q kd0).l
            have h5 := tri_ordT (M.getD q kd0).a (M.getD q kd0).l (M.getD k kd0).a (M.getD k kd0).l a l
            rw [hod] at h2 h5
            have h3 := HD.out
            unfold ordK at h1
            unfold Tri at h2 h5
            omega
          · obtain rfl : q = k := by omega
            rw [HXE.out, HOD.out]; have := HD.out; omega
        case measure => simp [intOf]; omega
    · obtain rfl : i = j := by omega
      have hp' : ¬ (i : Int) < (i : Int) := by omega
      by_cases hn2 : i < M.length
      · obtain ⟨g, rfl, hrow⟩ : ∃ g, WA = some ⟨g, 0, none⟩ ∧ RowT w g M := by
          rcases HROW.out with h | h
          · omega
          · exact h
        have hrw := hrow.below hbl
        have hkM : i < M.length := by omega
        obtain ⟨e0, e1, e2, e3⟩ := hrw.at i hkM
        have hok := hrw.ok i hkM
        have hmk := HM.out (M.getD i kd0) (by simp [List.getD, List.getElem?_eq_getElem hkM])
        have k1 : ∀ W, Below wr.heap.size wr W → Calls Tryz.prog 41 #[(M.getD i kd0).val, .agg #[.int .i64 a.kind, .int .i64 a.n, .string a.s, .slice A (flen l) cap]] W fun e w' => e = .returned (.int .i64 (sgn3 (ordT (M.getD i kd0).a (M.getD i kd0).l a l))) ∧ Below W.heap.size W w' := fun W hW =>
          porder_any _ _ a l _ _ W.heap.size W (Kd.rep (hok.1.below hW)) (RepV.keep (w := w) (by have := hW.size; omega) (fun q z hq => by rw [hW.cell (by simp; omega), hbl.cell (by simp; omega)]) ⟨hf, A, cap, b, o, rfl, hn, HA.out, HRP.out⟩) (Nat.le_refl _) hmk ma
        have HX0 : Hid (ordT (M.getD i kd0).a (M.getD i kd0).l a l = ordT (M.getD i kd0).a (M.getD i kd0).l a l) := rfl
        generalize ho : ordT (M.getD i kd0).a (M.getD i kd0).l a l = od at *
        have HOD : Hid (ordT (M.getD i kd0).a (M.getD i kd0).l a l = od) := ho
        clear ho HX0 hmk hok hrow
        generalize hx0 : M.getD i kd0 = x at *
        have HXE : Hid (M.getD i kd0 = x) := hx0
        clear hx0
        have hi0 : (0 : Int) ≤ (i : Int) := by omega
        have hi1 : (i : Int) < (M.length : Int) := by omega
        obtain ⟨x0, x1, x2, x3, x4⟩ := hbx
        have hg := hrw.1
        have HRW : Hid (RowT wr g M) := hrw
        clear hrw
        have hS0 : ∀ W, Below wr.heap.size wr W → (W.cell? ⟨g, i * 4, none⟩ = some (.int .i64 x.a.kind) ∧ W.cell? ⟨g, i * 4 + 1, none⟩ = some (.int .i64 x.a.n) ∧ W.cell? ⟨g, i * 4 + 2, none⟩ = some (.string x.a.s) ∧ W.cell? ⟨g, i * 4 + 3, none⟩ = some (.slice x.A (flen x.l) x.cap) ∧ W.cell? ⟨w.heap.size, 0, none⟩ = some (.int .i64 a.kind) ∧ W.cell? ⟨w.heap.size, 1, none⟩ = some (.int .i64 a.n) ∧ W.cell? ⟨w.heap.size, 2, none⟩ = some (.string a.s) ∧ W.cell? ⟨w.heap.size, 3, none⟩ = some (.slice A (flen l) cap)) ∧ Below wr.heap.size wr W := fun W hW =>
          ⟨⟨(hW.cell hg).trans e0, (hW.cell hg).trans e1, (hW.cell hg).trans e2, (hW.cell hg).trans e3, (hW.cell x0).trans x1, (hW.cell x0).trans x2, (hW.cell x0).trans x3, (hW.cell x0).trans x4⟩, hW⟩
        have HS0 : Hid _ := hS0
        clear hS0 e0 e1 e2 e3
        go_upto_region 8 with fail
        go_region_held3 (fun W => (W.cell? ⟨g, i * 4, none⟩ = some (.int .i64 x.a.kind) ∧ W.cell? ⟨g, i * 4 + 1, none⟩ = some (.int .i64 x.a.n) ∧ W.cell? ⟨g, i * 4 + 2, none⟩ = some (.string x.a.s) ∧ W.cell? ⟨g, i * 4 + 3, none⟩ = some (.slice x.A (flen x.l) x.cap) ∧ W.cell? ⟨w.heap.size, 0, none⟩ = some (.int .i64 a.kind) ∧ W.cell? ⟨w.heap.size, 1, none⟩ = some (.int .i64 a.n) ∧ W.cell? ⟨w.heap.size, 2, none⟩ = some (.string a.s) ∧ W.cell? ⟨w.heap.size, 3, none⟩ = some (.slice A (flen l) cap)) ∧ Below wr.heap.size wr W)
          (first | assumption | exact HS0.out _ (Below.drew (Below.refl _ _)) | exact HS0.out _ h4)
          ((go_at_call 41; refine (k1 _ (Below.drew (Below.refl _ _))).mono ?_; rintro e w4 ⟨rfl, h4'⟩; have h4 : Below wr.heap.size wr w4 := Below.trans (Below.drew (Below.refl _ _)) h4'))
        have hb4 : Below w.heap.size w w4 := below_tr hbl h4
        clear h4 h4' HS0 k1 x1 x2 x3 x4
        go_wp2_with fail
        refine bodyPost_ret (v := .tuple #[.int .i64 (i : Int), .bool (sgn3 od == 0)]) (by simp [results, Tryz.results40]) rfl ?_
        refine ⟨i, sgn3 od == 0, rfl, hb4, fun h => ⟨hkM, ?_⟩, fun h => ?_⟩
        · rw [HXE.out, HOD.out]; exact sgn3_zero.1 (by simpa using h)
        · have hne : od ≠ 0 := fun e => by rw [sgn3_zero.2 e] at h; simp at h
          have hpos : 0 < od := by
            have := HHI.out i (Nat.le_refl _) hkM
            rw [HXE.out, HOD.out] at this; omega
          intro q hq
          rcases Nat.lt_trichotomy q i with h1 | h1 | h1
          · have := HLO.out q h1; omega
          · rw [h1, HXE.out, HOD.out]; omega
          · have h2 := rises_lt HR.out h1 hq
            have h4 := neg_ordT (M.getD i kd0).a (M.getD i kd0).l (M.getD q kd0).a (M.getD q kd0).l
            have h5 := tri_ordT (M.getD q kd0).a (M.getD q kd0).l a l (M.getD i kd0).a (M.getD i kd0).l
            have h6 := neg_ordT (M.getD i kd0).a (M.getD i kd0).l a l
            rw [HXE.out, HOD.out] at h6
            rw [HXE.out] at h2 h4 h5
            unfold ordK at h2
            unfold Tri at h5
            omega
      · obtain rfl : i = M.length := by omega
        have hn3 : ¬ (M.length : Int) < (M.length : Int) := by omega
        go_upto_region 8 with fail
        go_quiet (fail)
        go_wp2_with fail
        refine bodyPost_ret (v := .tuple #[.int .i64 (M.length : Int), .bool false]) (by simp [results, Tryz.results40]) rfl ?_
        refine ⟨M.length, false, rfl, ?_, fun h => absurd h (by decide), fun _ q hq => ?_⟩
        · exact below_drewN hbl _
        · have := HLO.out q hq; omega

end Go.Proofs.YtanpplgmdemlaaaGreatDoor

namespace Go.Proofs.YtanpplgmdemlaaaGreatDoor
open Go.RowKit
set_option linter.unusedVariables false
set_option linter.unusedSimpArgs false

/-- What an opening takes out. -/
def opK (k : Int) (t : Nd × Fo) : Except Int (Nd × Fo) := if k = 3 then openP 7 0 t else if k = 4 then openP 7 1 t else openP 6 1 t
/-- Where openings lead, one behind the other. -/
def goT : List Int → Nd × Fo → Option (Nd × Fo)
  | [], t => some t
  | k :: r, t => match opK k t with | .ok u => goT r u | .error _ => none

theorem goT_snoc : ∀ (os : List Int) (t u v : Nd × Fo) (k : Int), goT os t = some u → opK k u = .ok v → goT (os ++ [k]) t = some v
  | [], t, u, v, k, h1, h2 => by
    injection h1 with h1
    subst h1
    simp [goT, h2]
  | j :: r, t, u, v, k, h1, h2 => by
    rw [List.cons_append, goT]
    rw [goT] at h1
    cases hj : opK j t with
    | error e => rw [hj] at h1; cases h1
    | ok x => rw [hj] at h1; simp only at h1 ⊢; exact goT_snoc r x u v k h1 h2

def opsM : List Int → Nat → List Mv
  | [], _ => []
  | k :: r, i => ⟨k, (i : Int), 0, ⟨#[]⟩⟩ :: opsM r (i + 1)
/-- The moves of a path. -/
def folM (num : Nat) (os : List Int) (i : Nat) : List Mv := ⟨1, (num : Int), 0, ⟨#[]⟩⟩ :: opsM os i
theorem opsM_len : ∀ (os : List Int) (i : Nat), (opsM os i).length = os.length
  | [], _ => rfl
  | k :: r, i => by simp [opsM, opsM_len r]
theorem folM_len (num : Nat) (os : List Int) (i : Nat) : (folM num os i).length = os.length + 1 := by simp [folM, opsM_len]
theorem opsM_snoc : ∀ (os : List Int) (k : Int) (i : Nat), opsM (os ++ [k]) i = opsM os i ++ [⟨k, ((i + os.length : Nat) : Int), 0, ⟨#[]⟩⟩]
  | [], k, i => by simp [opsM]
  | j :: r, k, i => by simp only [List.cons_append, opsM, List.length_cons]; rw [opsM_snoc r k (i + 1), show i + 1 + r.length = i + (r.length + 1) by omega]

theorem runS_len {us : List (Nd × Fo)} : ∀ (ms : List Mv) (rs rs' : List (Nd × Fo)), runS us rs ms = .ok rs' → rs'.length = rs.length + ms.length
  | [], rs, rs', h => by injection h with h; subst h; simp
  | m :: r, rs, rs', h => by
    rw [runS] at h
    cases hs : stepP us rs m with
    | error e => rw [hs] at h; cases h
    | ok t => rw [hs] at h; have := runS_len r _ _ h; simp at this ⊢; omega

theorem openP_in {kk : Int} {i : Nat} {t u : Nd × Fo} (h : openP kk i t = .ok u) : u ∈ kidL t.2 := by
  unfold openP at h
  by_cases hk : t.1.kind = kk
  · rw [if_pos hk] at h
    cases hi : (kidL t.2)[i]? with
    | none => rw [hi] at h; cases h
    | some v =>
      rw [hi] at h
      injection h with h
      subst h
      exact List.mem_of_getElem? hi
  · rw [if_neg hk] at h; cases h
theorem opK_in {k : Int} {t u : Nd × Fo} (h : opK k t = .ok u) : u ∈ kidL t.2 := by
  unfold opK at h
  split at h
  · exact openP_in h
  · split at h
    · exact openP_in h
    · exact openP_in h
theorem kid_may {t u : Nd × Fo} (h : may t.1 t.2 = true) (hu : u ∈ kidL t.2) : may u.1 u.2 = true := amay_mem (may_amay h) u hu

theorem step_op {us rs : List (Nd × Fo)} {k : Int} {t u : Nd × Fo} (hk : k = 3 ∨ k = 4 ∨ k = 5) (hl : rs.getLast? = some t) (hm : may t.1 t.2 = true) (ho : opK k t = .ok u) : stepP us rs ⟨k, ((rs.length - 1 : Nat) : Int), 0, ⟨#[]⟩⟩ = .ok u := by
  have hne : 0 < rs.length := by cases rs with | nil => cases hl | cons a r => simp
  have ha : atL rs ((rs.length - 1 : Nat) : Int) = some t := by
    unfold atL
    rw [if_pos ⟨by omega, by omega⟩, Int.toNat_natCast, ← hl, List.getLast?_eq_getElem?]
  have hu := kid_may hm (opK_in ho)
  unfold stepP
  have hr : rawP us rs ⟨k, ((rs.length - 1 : Nat) : Int), 0, ⟨#[]⟩⟩ = .ok u := by
    unfold rawP
    unfold opK at ho
    rcases hk with rfl | rfl | rfl
    · simpa [ha, onP] using ho
    · simpa [ha, onP] using ho
    · simpa [ha, onP] using ho
  rw [hr]
  simp [mayP, hu]

theorem atL_get {l : List (Nd × Fo)} {i : Nat} {r : Nd × Fo} (h : l[i]? = some r) : atL l (i : Int) = some r := by
  have hlt : i < l.length := by
    rcases Nat.lt_or_ge i l.length with k | k
    · exact k
    · rw [List.getElem?_eq_none k] at h; cases h
  unfold atL
  rw [if_pos ⟨by omega, by omega⟩, Int.toNat_natCast]; exact h

theorem step_known {us rs : List (Nd × Fo)} {num : Nat} {t : Nd × Fo} (hn : us[num]? = some t) (hm : may t.1 t.2 = true) : stepP us rs ⟨1, (num : Int), 0, ⟨#[]⟩⟩ = .ok t := by
  have hlt : num < us.length := by
    rcases Nat.lt_or_ge num us.length with h | h
    · exact h
    · rw [List.getElem?_eq_none h] at hn; cases hn
  unfold stepP rawP
  have ha := atL_get hn
  simp [ha, onP, mayP, hm]

theorem opsM_run {us : List (Nd × Fo)} : ∀ (os : List Int) (rs : List (Nd × Fo)) (t u : Nd × Fo), (∀ k ∈ os, k = 3 ∨ k = 4 ∨ k = 5) → goT os t = some u → may t.1 t.2 = true → rs.getLast? = some t →
    ∃ rs', runS us rs (opsM os (rs.length - 1)) = .ok (rs ++ rs') ∧ (rs ++ rs').getLast? = some u
  | [], rs, t, u, _, h1, _, h3 => by
    injection h1 with h1
    subst h1
    exact ⟨[], by simp [opsM, runS], by simpa using h3⟩
  | k :: r, rs, t, u, hk, h1, hm, h3 => by
    rw [goT] at h1
    cases hj : opK k t with
    | error e => rw [hj] at h1; cases h1
    | ok x =>
      rw [hj] at h1
      simp only at h1
      have hne : 0 < rs.length := by cases rs with | nil => cases h3 | cons a r => simp
      obtain ⟨rs', h4, h5⟩ := opsM_run r (rs ++ [x]) x u (fun j hj => hk j (by simp [hj])) h1 (kid_may hm (opK_in hj)) (by simp)
      refine ⟨x :: rs', ?_, by simpa using h5⟩
      rw [opsM, runS, step_op (hk k (by simp)) h3 hm hj]
      simp only
      rw [List.length_append, List.length_singleton, show rs.length + 1 - 1 = rs.length - 1 + 1 by omega] at h4
      rw [h4]; simp

/-- A path that leads to t. -/
def PathOk (us : List (Nd × Fo)) (t : Nd × Fo) (num : Nat) (os : List Int) : Prop :=
  (∀ k ∈ os, k = 3 ∨ k = 4 ∨ k = 5) ∧ os.length ≤ 15 ∧ ∃ s u, us[num]? = some s ∧ may s.1 s.2 = true ∧ goT os s = some u ∧ nm u = nm t

theorem folM_run {us rs : List (Nd × Fo)} {t : Nd × Fo} {num : Nat} {os : List Int} (h : PathOk us t num os) :
    ∃ rs' u, runS us rs (folM num os rs.length) = .ok (rs ++ rs') ∧ (rs ++ rs').getLast? = some u ∧ nm u = nm t := by
  obtain ⟨h1, _, s, u, h2, h3, h4, h5⟩ := h
  obtain ⟨rs', h6, h7⟩ := opsM_run (us := us) os (rs ++ [s]) s u h1 h4 h3 (by simp)
  refine ⟨s :: rs', u, ?_, by simpa using h7, h5⟩
  rw [folM, runS, step_known h2 h3]
  simp only
  rw [List.length_append, List.length_singleton, show rs.length + 1 - 1 = rs.length by omega] at h6
  rw [h6]; simp

/-- X holds of all that comes out of a row, but for its first n. -/
def CovF (X : Nd × Fo → Prop) : Nat → Fo → Prop
  | _, .nil => True
  | 0, .node _ _ a l r => (X (nm (a, l)) ∧ CovF X (skipOf a.kind) l) ∧ CovF X 0 r
  | n + 1, .node _ _ _ _ r => CovF X n r
def CovT (X : Nd × Fo → Prop) (t : Nd × Fo) : Prop := X (nm t) ∧ CovF X (skipOf t.1.kind) t.2

theorem CovF.mem {X : Nd × Fo → Prop} : ∀ (f : Fo) (n : Nat), CovF X n f → ∀ u ∈ (kidL f).drop n, CovT X u
  | .nil, n, _, u, hu => by simp [kidL] at hu
  | .node _ _ a l r, 0, h, u, hu => by
    rw [CovF] at h
    rw [kidL, List.drop_zero] at hu
    rcases List.mem_cons.1 hu with rfl | hu
    · exact h.1
    · exact CovF.mem r 0 h.2 u (by simpa using hu)
  | .node _ _ a l r, n + 1, h, u, hu => by
    rw [CovF] at h
    rw [kidL, List.drop_succ_cons] at hu
    exact CovF.mem r n h u hu
theorem CovF.norm {X : Nd × Fo → Prop} : ∀ (f : Fo) (n : Nat), CovF X n f → CovF X n (norm f)
  | .nil, n, _ => by cases n <;> trivial
  | .node _ _ a l r, 0, h => by
    rw [CovF] at h
    rw [Go.Proofs.YtanpplgmdemlaaaGreatDoor.norm, CovF]
    refine ⟨⟨?_, CovF.norm l _ h.1.2⟩, CovF.norm r 0 h.2⟩
    have : nm (a, Go.Proofs.YtanpplgmdemlaaaGreatDoor.norm l) = nm (a, l) := nm_nm (a, l)
    rw [this]; exact h.1.1
  | .node _ _ a l r, n + 1, h => by
    rw [CovF] at h
    rw [Go.Proofs.YtanpplgmdemlaaaGreatDoor.norm, CovF]
    exact CovF.norm r n h
theorem CovF.mono {X Y : Nd × Fo → Prop} (hXY : ∀ t, X t → Y t) : ∀ (f : Fo) (n : Nat), CovF X n f → CovF Y n f
  | .nil, n, _ => by cases n <;> trivial
  | .node _ _ a l r, 0, h => by
    rw [CovF] at h ⊢
    exact ⟨⟨hXY _ h.1.1, CovF.mono hXY l _ h.1.2⟩, CovF.mono hXY r 0 h.2⟩
  | .node _ _ a l r, n + 1, h => by
    rw [CovF] at h ⊢
    exact CovF.mono hXY r n h
theorem CovT.mono {X Y : Nd × Fo → Prop} (hXY : ∀ t, X t → Y t) {t : Nd × Fo} (h : CovT X t) : CovT Y t := ⟨hXY _ h.1, CovF.mono hXY _ _ h.2⟩
theorem CovT.nm {X : Nd × Fo → Prop} {t : Nd × Fo} (h : CovT X t) : CovT X (nm t) := by
  refine ⟨?_, CovF.norm _ _ h.2⟩
  rw [nm_nm]; exact h.1

/-- Whatever follows is covered. -/
theorem cov_fol {X : Nd × Fo → Prop} {us : List (Nd × Fo)} (h : ∀ t ∈ us, CovT X t) {t : Nd × Fo} (ht : Fol (InL us) t) : CovT X t := by
  refine ht (fun t => CovT X t) (fun t u h1 h2 => CovF.mem _ _ h1.2 u h2) ?_
  rintro t ⟨x, hx, rfl⟩
  exact (h x hx).nm

/-- The parts of a term. -/
def partF : Fo → List (Nd × Fo)
  | .nil => []
  | .node _ _ a l r => (a, l) :: (partF l ++ partF r)
def partT (t : Nd × Fo) : List (Nd × Fo) := t :: partF t.2
theorem partF_len : ∀ f : Fo, (partF f).length = nodesF f
  | .nil => rfl
  | .node _ _ a l r => by simp [partF, nodesF, partF_len l, partF_len r]; omega
theorem partF_may : ∀ f : Fo, AMay f → ∀ u ∈ partF f, may u.1 u.2 = true
  | .nil, _, u, hu => by cases hu
  | .node _ _ a l r, h, u, hu => by
    rw [partF] at hu
    rcases List.mem_cons.1 hu with rfl | hu
    · exact h.1
    · rcases List.mem_append.1 hu with hu | hu
      · exact partF_may l h.2.1 u hu
      · exact partF_may r h.2.2 u hu

theorem canF_part {X Y : Nd × Fo → Prop} : ∀ f : Fo, (∀ u ∈ partF f, X (nm u) → Y (nm u)) → CanF X f → CanF Y f
  | .nil, _, _ => trivial
  | .node _ _ a l r, h, hc => by
    rw [CanF] at hc ⊢
    refine ⟨?_, canF_part r (fun u hu => h u (by simp [partF, hu])) hc.2⟩
    rcases hc.1 with h1 | h1 | ⟨h1, h2⟩
    · exact .inl h1
    · exact .inr (.inl (h (a, l) (by simp [partF]) h1))
    · exact .inr (.inr ⟨h1, canF_part l (fun u hu => h u (by simp [partF, hu])) h2⟩)
theorem canT_part {X Y : Nd × Fo → Prop} {a : Nd} {l : Fo} (h : ∀ u ∈ partT (a, l), X (nm u) → Y (nm u)) (hc : CanT X a l) : CanT Y a l := by
  rcases hc with h1 | h1 | ⟨h1, h2⟩
  · exact .inl h1
  · exact .inr (.inl (h (a, l) (by simp [partT]) h1))
  · exact .inr (.inr ⟨h1, canF_part l (fun u hu => h u (by simp [partT, hu])) h2⟩)

/-- How deep a term stands that may be. -/
def DpT (d : Nat) (t : Nd × Fo) : Prop := ∃ c : Int, 0 ≤ c ∧ (mayT t.1 t.2 (d : Int) c).1 = true
theorem DpT.of {t : Nd × Fo} (h : may t.1 t.2 = true) : DpT 1 t := ⟨0, by omega, h⟩
theorem DpT.le {d : Nat} {t : Nd × Fo} (h : DpT d t) : d ≤ 16 := by
  obtain ⟨c, _, h⟩ := h
  unfold mayT at h
  by_cases hb : mayB t.1 (flen t.2) (d : Int) c = true
  · have := (mayB_of hb).2.1; omega
  · rw [if_neg hb] at h; simp at h
theorem mayF_mem : ∀ (f : Fo) (d c : Int), 0 ≤ c → (mayF f d c).1 = true → ∀ u ∈ kidL f, ∃ c' : Int, 0 ≤ c' ∧ (mayT u.1 u.2 d c').1 = true
  | .nil, _, _, _, _, u, hu => by cases hu
  | .node x y a l r, d, c, hc, h, u, hu => by
    rw [mayF_node] at h
    by_cases h1 : (mayT a l d c).1 = true
    · rw [if_pos h1] at h
      rw [kidL] at hu
      rcases List.mem_cons.1 hu with rfl | hu
      · exact ⟨c, hc, h1⟩
      · refine mayF_mem r d _ ?_ h u hu
        unfold mayT
        have := mayF_ge l (d + 1) (c + 1)
        split
        · omega
        · simp only; omega
    · rw [if_neg h1] at h; simp at h
theorem DpT.kid {d : Nat} {t u : Nd × Fo} (h : DpT d t) (hu : u ∈ kidL t.2) : DpT (d + 1) u := by
  obtain ⟨c, hc, h⟩ := h
  unfold mayT at h
  by_cases hb : mayB t.1 (flen t.2) (d : Int) c = true
  · rw [if_pos hb] at h
    have := mayF_mem t.2 ((d : Int) + 1) (c + 1) (by omega) h u hu
    rwa [show ((d : Int) + 1) = ((d + 1 : Nat) : Int) by omega] at this
  · rw [if_neg hb] at h; simp at h

/-- The moves that make a term of results that are its kids. -/
theorem step_atom {us rs : List (Nd × Fo)} {a : Nd} {l : Fo} (hm : may a l = true) (hk : a.kind = 1) : stepP us rs ⟨2, 0, 0, a.s⟩ = .ok (a, .nil) ∧ nm (a, l) = (a, .nil) := by
  have hf := may_form hm
  rcases formed_cases hf.1 with h | h | h | h
  · have hl : l = .nil := flen_zero h.2.1
    have ha : a = ⟨1, 0, a.s⟩ := by cases a; simp only at hk h; rw [hk, h.2.2.1]
    subst hl
    refine ⟨?_, rfl⟩
    rw [ha] at hm ⊢
    unfold stepP rawP
    simp [mayP, hm]
  · omega
  · omega
  · omega

theorem step_one {us rs : List (Nd × Fo)} {a b : Nd} {m : Fo} {x y : Nat} {i : Nat} {r : Nd × Fo} (hm : may a (.node x y b m .nil) = true) (hr : rs[i]? = some r) (hn : nm r = nm (b, m)) :
    ∃ u, stepP us rs ⟨a.kind + 3, (i : Int), 0, ⟨#[]⟩⟩ = .ok u ∧ nm u = nm (a, .node x y b m .nil) := by
  have hlt : i < rs.length := by
    rcases Nat.lt_or_ge i rs.length with h | h
    · exact h
    · rw [List.getElem?_eq_none h] at hr; cases hr
  have hf := may_form hm
  have hk : (a.kind = 3 ∨ a.kind = 4) ∧ a.n = 0 ∧ a.s = ⟨#[]⟩ := by
    rcases formed_cases hf.1 with h | h | h | h
    · simp [flen] at h
    · simp [flen] at h
    · exact ⟨h.1, h.2.2⟩
    · simp [flen] at h
  have ha : a = ⟨a.kind, 0, ⟨#[]⟩⟩ := by
    obtain ⟨_, h1, h2⟩ := hk
    cases a; simp only at h1 h2; rw [h1, h2]
  have hnm : nm (⟨a.kind, 0, ⟨#[]⟩⟩, .node 0 0 r.1 r.2 .nil) = nm (a, .node x y b m .nil) := by
    rw [← ha]
    unfold nm at hn ⊢
    injection hn with h1 h2
    simp only [norm]
    rw [h1, h2]
  have hmay : may (⟨a.kind, 0, ⟨#[]⟩⟩ : Nd) (.node 0 0 r.1 r.2 .nil) = true := by
    have h1 := may_nm (⟨a.kind, 0, ⟨#[]⟩⟩, .node 0 0 r.1 r.2 .nil)
    have h2 := may_nm (a, .node x y b m .nil)
    rw [hnm] at h1
    rw [← h1, h2]; exact hm
  refine ⟨_, ?_, hnm⟩
  unfold stepP
  have hraw : rawP us rs ⟨a.kind + 3, (i : Int), 0, ⟨#[]⟩⟩ = .ok (⟨a.kind, 0, ⟨#[]⟩⟩, .node 0 0 r.1 r.2 .nil) := by
    unfold rawP
    rcases hk.1 with h | h
    · rw [h]; simp [atL_get hr, onP]
    · rw [h]; simp [atL_get hr, onP]
  rw [hraw]
  simp only [mayP]
  rw [if_pos hmay]

theorem step_two {us rs : List (Nd × Fo)} {a b d : Nd} {m o : Fo} {x y x' y' : Nat} {i j : Nat} {r q : Nd × Fo} (hm : may a (.node x y b m (.node x' y' d o .nil)) = true) (hr : rs[i]? = some r) (hn : nm r = nm (b, m)) (hq : rs[j]? = some q) (hn2 : nm q = nm (d, o)) :
    ∃ u, stepP us rs ⟨a.kind + 3, (i : Int), (j : Int), ⟨#[]⟩⟩ = .ok u ∧ nm u = nm (a, .node x y b m (.node x' y' d o .nil)) := by
  have hlt : i < rs.length := by
    rcases Nat.lt_or_ge i rs.length with h | h
    · exact h
    · rw [List.getElem?_eq_none h] at hr; cases hr
  have hlt2 : j < rs.length := by
    rcases Nat.lt_or_ge j rs.length with h | h
    · exact h
    · rw [List.getElem?_eq_none h] at hq; cases hq
  have hf := may_form hm
  have hk : (a.kind = 5 ∨ a.kind = 6 ∨ a.kind = 7) ∧ a.n = 0 ∧ a.s = ⟨#[]⟩ := by
    rcases formed_cases hf.1 with h | h | h | h
    · simp [flen] at h
    · simp [flen] at h
    · simp [flen] at h
    · exact ⟨h.1, h.2.2⟩
  have ha : a = ⟨a.kind, 0, ⟨#[]⟩⟩ := by
    obtain ⟨_, h1, h2⟩ := hk
    cases a; simp only at h1 h2; rw [h1, h2]
  have hnm : nm (⟨a.kind, 0, ⟨#[]⟩⟩, .node 0 0 r.1 r.2 (.node 0 0 q.1 q.2 .nil)) = nm (a, .node x y b m (.node x' y' d o .nil)) := by
    rw [← ha]
    unfold nm at hn hn2 ⊢
    injection hn with h1 h2
    injection hn2 with h3 h4
    simp only [norm]
    rw [h1, h2, h3, h4]
  have hmay : may (⟨a.kind, 0, ⟨#[]⟩⟩ : Nd) (.node 0 0 r.1 r.2 (.node 0 0 q.1 q.2 .nil)) = true := by
    have h1 := may_nm (⟨a.kind, 0, ⟨#[]⟩⟩, .node 0 0 r.1 r.2 (.node 0 0 q.1 q.2 .nil))
    have h2 := may_nm (a, .node x y b m (.node x' y' d o .nil))
    rw [hnm] at h1
    rw [← h1, h2]; exact hm
  refine ⟨_, ?_, hnm⟩
  unfold stepP
  have hraw : rawP us rs ⟨a.kind + 3, (i : Int), (j : Int), ⟨#[]⟩⟩ = .ok (⟨a.kind, 0, ⟨#[]⟩⟩, .node 0 0 r.1 r.2 (.node 0 0 q.1 q.2 .nil)) := by
    unfold rawP
    rcases hk.1 with h | h | h
    · rw [h]; simp [atL_get hr, atL_get hq, onP]
    · rw [h]; simp [atL_get hr, atL_get hq, onP]
    · rw [h]; simp [atL_get hr, atL_get hq, onP]
  rw [hraw]
  simp only [mayP]
  rw [if_pos hmay]

end Go.Proofs.YtanpplgmdemlaaaGreatDoor

namespace Go.Proofs.YtanpplgmdemlaaaGreatDoor
open Go.RowKit
set_option linter.unusedVariables false
set_option linter.unusedSimpArgs false

theorem owns_src {w : World} {base : Nat} {A : Option Addr} {c n : Nat} {ks : List Kd} (h : w.ownsRow base 27 4 (.slice A n c) n (rowOf ks)) : SrcAt w 4 A n (rowOf ks) := by
  rcases h.2 with ⟨h1, h2⟩ | ⟨g, cap, cur, h1, _⟩
  · refine .inl ⟨h2, ?_⟩
    have := h.1
    rw [h2] at this
    exact List.eq_nil_of_length_eq_zero (by omega)
  · injection h1 with e1 e2 e3
    subst e1
    exact .inr ⟨_, rfl, h.1, fun j u hu => h.cells (g := g) rfl j u hu, rowOf_one ks⟩

theorem owns_new (w : World) (k : Kd) (B : Nat) (hB : B ≤ w.heap.size) :
    (w.alloc (.cells #[.int .i64 k.a.kind, .int .i64 k.a.n, .string k.a.s, .slice k.A (flen k.l) k.cap] 27)).ownsRow B 27 4 (.slice (some ⟨w.heap.size, 0, none⟩) 1 1) 1 (rowOf [k]) := by
  refine ⟨by simp [rowOf, Kd.cells], .inr ⟨w.heap.size, 1, _, rfl, hB, heap_alloc_new _ _, Nat.le_refl _, by decide, rfl, by simp [rowOf, Kd.cells]⟩⟩

def PartEnd (w : World) (B : Nat) (t : Nd × Fo) (e : Ending) (w' : World) : Prop :=
  ∃ (u : Value) (ks : List Kd), e = .returned u ∧ tms ks = partT t ∧ w'.ownsRow w.heap.size 27 4 u ks.length (rowOf ks) ∧ (∀ k ∈ ks, k.Ok w (fun b => b < B)) ∧ Below w.heap.size w w'

def PartOk (a : Nd) (l : Fo) : Prop := ∀ (v : Value) (B : Nat) (w : World), RepV w B a l v → B ≤ w.heap.size → nodesF l ≤ 1000 → Calls Tryz.prog 36 #[v] w (PartEnd w B (a, l))

def PartRel (w : World) (B : Nat) (a : Nd) (l : Fo) (b o : Nat) (kv iv : Value) (wr : World) : Prop :=
  ∃ (i : Nat) (g : Fo) (ks : List Kd), iv = .int .i64 (i : Int) ∧ i + flen g = flen l ∧ AllF PartOk g ∧ RepF wr B g b (o + i * 4) ∧ wr.ownsRow w.heap.size 27 4 kv ks.length (rowOf ks) ∧ (∀ k ∈ ks, k.Ok w (fun b => b < B)) ∧ tms ks ++ partF g = partT (a, l) ∧ Below w.heap.size w wr

theorem owns_val {w : World} {base : Nat} {v : Value} {n : Nat} {xs : List Value} {e : TypeId} {sz : Nat} (h : w.ownsRow base e sz v n xs) : ∃ A c, v = .slice A n c := by
  rcases h.2 with ⟨h1, h2⟩ | ⟨g, cap, cur, h1, _⟩
  · exact ⟨none, 0, by rw [h1, h2]⟩
  · exact ⟨_, cap, h1⟩

theorem tms_len (ks : List Kd) : (tms ks).length = ks.length := by simp [tms]

set_option maxRecDepth 100000 in
set_option maxHeartbeats 4000000 in
theorem part_step (a : Nd) (l : Fo) (ih : AllF PartOk l) : PartOk a l := by
  rintro v B w ⟨hf, A, cap, b, o, rfl, hn, hA, hr⟩ hB hN
  have HA : Hid (flen l = 0 ∨ A = some ⟨b, o, none⟩) := hA
  have HR : Hid (RepF w B l b o) := hr
  have HN : Hid (nodesF l ≤ 1000) := hN
  have HK : Hid ((⟨0, 0, a, l, A, cap, b, o⟩ : Kd).Ok w (fun b => b < B)) := ⟨hf, hn, hA, hr.toG⟩
  clear hA hr hN
  obtain ⟨i5, hi, hz0, hz1, hz2⟩ := info_get Tryz.infoTerm
  have hbA : Below w.heap.size w (w.alloc (.cells #[.int .i64 a.kind, .int .i64 a.n, .string a.s, .slice A (flen l) cap] 27)) := Below.alloc (Below.refl _ _) (Nat.le_refl _) _
  have hown0 := owns_new (w.alloc (.cells #[.int .i64 a.kind, .int .i64 a.n, .string a.s, .slice A (flen l) cap] 27)) ⟨0, 0, a, l, A, cap, b, o⟩ w.heap.size (by simp)
  have hbB : Below w.heap.size w ((w.alloc (.cells #[.int .i64 a.kind, .int .i64 a.n, .string a.s, .slice A (flen l) cap] 27)).alloc (.cells #[.int .i64 a.kind, .int .i64 a.n, .string a.s, .slice A (flen l) cap] 27)) := hbA.alloc (by simp) _
  have HO0 : Hid (_ ∧ _) := ⟨hown0, hbB⟩
  clear hown0 hbB
  go_enter Tryz.func36, Tryz.ntmps36
  go_wp2_with fail
  go_loopw [3, 11] (fun kv iv wr => PartRel w B a l b o kv iv wr) (fun _ iv _ => flen l - (intOf iv).toNat)
  case atStart =>
    refine ⟨0, l, [⟨0, 0, a, l, A, cap, b, o⟩], rfl, by simp, ih, ?_, ?_, fun k hk => ?_, rfl, HO0.out.2⟩
    · rw [show o + 0 * 4 = o from by omega]; exact HR.out.below (HO0.out.2.mono hB)
    · have := HO0.out.1; simpa using this
    · simp only [List.mem_singleton] at hk; subst hk; exact HK.out
  case round =>
    obtain ⟨i, g, ks, rfl, hi5, hg, hrg, hown, hks, htm, hbl⟩ := hrel
    have HT : Hid (tms ks ++ partF g = partT (a, l)) := htm
    have HKS : Hid (∀ k ∈ ks, k.Ok w (fun b => b < B)) := hks
    have hlen : ks.length + nodesF g = 1 + nodesF l := by
      have := congrArg List.length htm
      simp [partT, partF_len, tms_len] at this; omega
    have HLEN : Hid (ks.length + nodesF g = 1 + nodesF l) := hlen
    have hs := hbl.size
    clear htm hks hlen HO0
    obtain ⟨KA, kc, rfl⟩ := owns_val hown
    have HOWN : Hid (wr.ownsRow w.heap.size 27 4 (.slice KA ks.length kc) ks.length (rowOf ks)) := hown
    have hvk := hown.lt
    clear hown
    cases g with
    | nil =>
      simp only [flen] at hi5
      have HE : Hid (PartEnd w B (a, l) (.returned (.slice KA ks.length kc)) wr) := ⟨_, ks, rfl, by have := HT.out; simpa [partF] using this, HOWN.out, HKS.out, hbl⟩
      go_wp2_with fail
      go_ret
      exact HE.out
    | node b1 o1 a1 l1 q1 =>
      obtain ⟨hb1', hf1, e0, e1, e2, ⟨A1, cap1, b2, o2, e3, hn1, hA1, hl1⟩, hr1⟩ := hrg
      obtain ⟨hw1, hgr1⟩ := hg
      simp only [flen] at hi5
      obtain rfl : A = some ⟨b, o, none⟩ := by rcases HA.out with h | h; omega; exact h
      have HA1 : Hid (flen l1 = 0 ∨ A1 = some ⟨b2, o2, none⟩) := hA1
      have HR1 : Hid (RepF wr B q1 b (o + i * 4 + 4)) := hr1
      have HVK : Hid (∀ k, (Value.slice KA ks.length kc).ownBlock = some k → w.heap.size ≤ k ∧ k < wr.heap.size) := hvk
      clear hA1 hr1 hvk
      have hbr0 : Below wr.heap.size wr (wr.alloc (.cells #[.int .i64 a1.kind, .int .i64 a1.n, .string a1.s, .slice A1 (flen l1) cap1] 27)) := Below.alloc (Below.refl _ _) (Nat.le_refl _) _
      go_wp2_with fail
      refine (hw1 _ B _ ⟨hf1, A1, cap1, b2, o2, rfl, hn1, HA1.out, hl1.below (hbr0.mono (by omega))⟩ (by simp; omega) (by have := HLEN.out; have := HN.out; simp only [nodesF] at *; omega)).mono ?_
      rintro e w1 ⟨u, js, rfl, htj, hownj, hjs, hb1⟩
      obtain ⟨UA, uc, rfl⟩ := owns_val hownj
      have hb1r : Below wr.heap.size wr w1 := hbr0.trans (hb1.mono (by simp))
      have HSRC : Hid (SrcAt w1 4 UA js.length (rowOf js)) := owns_src hownj
      have hjl : js.length = 1 + nodesF l1 := by
        have := congrArg List.length htj
        simpa [partT, partF_len, tms_len, Nat.add_comm] using this
      have hsm : ks.length + js.length ≤ 2000 := by have := HLEN.out; have := HN.out; simp only [nodesF] at *; omega
      have HTJ : Hid (tms js = partT (a1, l1)) := htj
      have HJS : Hid (∀ k ∈ js, k.Ok w (fun b => b < B)) := fun k hk => (hjs k hk).keep (fun _ h => h) (fun q j hq => by
        have h1 : (wr.alloc (.cells #[.int .i64 a1.kind, .int .i64 a1.n, .string a1.s, .slice A1 (flen l1) cap1] 27)).cell? ⟨q, j, none⟩ = wr.cell? ⟨q, j, none⟩ := hbr0.cell (by simp; omega)
        rw [h1, hbl.cell (by simp; omega)])
      clear htj hjs hownj hjl e0 e1 e2 e3
      go_wp2_with (at_builtin; refine wpList_append_any _ rfl _ _ 24 rfl w.heap.size 27 i5 (.agg #[.int .i64 0, .int .i64 0, .string ⟨#[]⟩, .slice none 0 0]) 4 56 Tryz.underlying24 hi hz0 hz1 hz2 rfl (by decide) (.slice KA ks.length kc) ks.length (rowOf ks) rfl ?own UA js.length uc (rowOf js) rfl ?src ?c3 ?c4 ?c5 ?_)
      case own => exact owns_below HOWN.out hb1r
      case src => exact HSRC.out
      case c3 => unfold maxLen; omega
      case c4 => omega
      case c5 => have := hb1r.size; omega
      intro v8 w8 hown8 hgrow8 hat8
      have hb8 : Below w.heap.size w w8 := grown_belowT (hbl.trans (hb1r.mono hs)) hgrow8 (fun q hq => (HVK.out q hq).1)
      have HO8 : Hid (w8.ownsRow w.heap.size 27 4 v8 (ks.length + js.length) (rowOf ks ++ rowOf js)) := hown8
      clear hown8 hgrow8 hat8
      go_wp2_with fail
      go_roundw
      case rel =>
        refine ⟨i + 1, q1, ks ++ js, by go_num, by omega, hgr1, ?_, ?_, fun k hk => ?_, ?_, hb8⟩
        · rw [show o + (i + 1) * 4 = o + i * 4 + 4 from by omega]
          have hr0 := HR1.out
          exact RepF.keep (Nat.le_refl _) (fun q j hq => by rw [hb8.cell (by simp; omega), hbl.cell (by simp; omega)]) hr0
        · rw [rowOf_append, List.length_append]; exact HO8.out
        · rcases List.mem_append.1 hk with hk | hk
          · exact HKS.out k hk
          · exact HJS.out k hk
        · have h1 := HT.out
          have h2 := HTJ.out
          rw [← h1, show tms (ks ++ js) = tms ks ++ tms js from by simp [tms], h2]
          simp [partF, partT]
      case measure => simp [intOf]; omega

theorem part_all : ∀ f : Fo, AllF PartOk f
  | .nil => trivial
  | .node _ _ a l r => ⟨part_step a l (part_all l), part_all r⟩
theorem parts_any (a : Nd) (l : Fo) : PartOk a l := part_step a l (part_all l)

end Go.Proofs.YtanpplgmdemlaaaGreatDoor

namespace Go.Proofs.YtanpplgmdemlaaaGreatDoor
open Go.RowKit
set_option linter.unusedVariables false
set_option linter.unusedSimpArgs false

/-- The ints os as a slice, in blocks from lo on that A does not name. -/
def IntV (w : World) (lo : Nat) (A : Nat → Prop) (v : Value) (os : List Int) : Prop :=
  ∃ OA c, v = .slice OA os.length c ∧ (os = [] ∨ ∃ q oo, OA = some ⟨q, oo, none⟩ ∧ lo ≤ q ∧ q < w.heap.size ∧ ¬ A q ∧ ∀ j, j < os.length → w.cell? ⟨q, oo + j, none⟩ = some (.int .i64 (os.getD j 0)))

/-- What stands of a path. -/
def PathAt (w : World) (pb lo : Nat) (A : Nat → Prop) (i : Nat) : Option (Nat × List Int) → Prop
  | none => w.cell? ⟨pb, i * 3, none⟩ = some (.bool false) ∧ w.cell? ⟨pb, i * 3 + 1, none⟩ = some (.int .i64 0) ∧ w.cell? ⟨pb, i * 3 + 2, none⟩ = some (.slice none 0 0)
  | some p => w.cell? ⟨pb, i * 3, none⟩ = some (.bool true) ∧ w.cell? ⟨pb, i * 3 + 1, none⟩ = some (.int .i64 (p.1 : Int)) ∧ ∃ v, w.cell? ⟨pb, i * 3 + 2, none⟩ = some v ∧ IntV w lo A v p.2

abbrev Kd.t (k : Kd) : Nd × Fo := (k.a, k.l)

/-- The plan, in the blocks at the end of wS: its paths, itself. -/
structure PSt (wS w : World) (VW : Value) (M : List Kd) (us : List (Nd × Fo)) (F : Nat → Option (Nat × List Int)) (A : Nat → Prop) (mv : Value) : Prop where
  below : Below wS.heap.size wS w
  size : wS.heap.size + 2 ≤ w.heap.size
  p0 : w.cell? ⟨wS.heap.size + 1, 0, none⟩ = some VW
  p1 : w.cell? ⟨wS.heap.size + 1, 1, none⟩ = some (.slice (some ⟨wS.heap.size, 0, none⟩) M.length M.length)
  p2 : w.cell? ⟨wS.heap.size + 1, 2, none⟩ = some mv
  pf : ∀ j, w.frozen? ⟨wS.heap.size + 1, j, none⟩ = false
  fz : ∀ j, w.frozen? ⟨wS.heap.size, j, none⟩ = false
  row : ∀ i, i < M.length → PathAt w wS.heap.size (wS.heap.size + 2) A i (F i)
  ok : ∀ i, i < M.length → ∀ p, F i = some p → PathOk us (M.getD i kd0).t p.1 p.2

theorem IntV.keep {w w' : World} {lo : Nat} {A A' : Nat → Prop} {v : Value} {os : List Int} (h : IntV w lo A v os) (hs : w.heap.size ≤ w'.heap.size) (hb : ∀ q, lo ≤ q → q < w.heap.size → ¬ A q → w'.heap[q]? = w.heap[q]? ∧ ¬ A' q) : IntV w' lo A' v os := by
  obtain ⟨OA, c, h1, h2⟩ := h
  refine ⟨OA, c, h1, ?_⟩
  rcases h2 with h2 | ⟨q, oo, h3, h4, h5, h6, h7⟩
  · exact .inl h2
  · have hq := hb q h4 h5 h6
    exact .inr ⟨q, oo, h3, h4, by omega, hq.2, fun j hj => (World.cell?_of_block hq.1).trans (h7 j hj)⟩

theorem PathAt.keep {w w' : World} {pb lo : Nat} {A A' : Nat → Prop} {i : Nat} {x : Option (Nat × List Int)} (h : PathAt w pb lo A i x) (hs : w.heap.size ≤ w'.heap.size) (hpb : w'.heap[pb]? = w.heap[pb]?) (hb : ∀ q, lo ≤ q → q < w.heap.size → ¬ A q → w'.heap[q]? = w.heap[q]? ∧ ¬ A' q) : PathAt w' pb lo A' i x := by
  have hc : ∀ j, w'.cell? ⟨pb, j, none⟩ = w.cell? ⟨pb, j, none⟩ := fun j => World.cell?_of_block hpb
  cases x with
  | none => obtain ⟨h1, h2, h3⟩ := h; exact ⟨(hc _).trans h1, (hc _).trans h2, (hc _).trans h3⟩
  | some p => obtain ⟨h1, h2, v, h3, h4⟩ := h; exact ⟨(hc _).trans h1, (hc _).trans h2, v, (hc _).trans h3, h4.keep hs hb⟩

/-- The plan stays where its blocks, and those of its paths, do. -/
theorem PSt.keep {wS w w' : World} {VW : Value} {M : List Kd} {us : List (Nd × Fo)} {F : Nat → Option (Nat × List Int)} {A A' : Nat → Prop} {mv : Value} (h : PSt wS w VW M us F A mv) (hb : Below wS.heap.size wS w')
    (hs : w.heap.size ≤ w'.heap.size) (h0 : w'.heap[wS.heap.size]? = w.heap[wS.heap.size]?) (h1 : w'.heap[wS.heap.size + 1]? = w.heap[wS.heap.size + 1]?) (hq : ∀ q, wS.heap.size + 2 ≤ q → q < w.heap.size → ¬ A q → w'.heap[q]? = w.heap[q]? ∧ ¬ A' q) : PSt wS w' VW M us F A' mv := by
  have c1 : ∀ j, w'.cell? ⟨wS.heap.size + 1, j, none⟩ = w.cell? ⟨wS.heap.size + 1, j, none⟩ := fun j => World.cell?_of_block h1
  exact ⟨hb, by have := h.size; omega, (c1 0).trans h.p0, (c1 1).trans h.p1, (c1 2).trans h.p2, fun j => (World.frozen?_of_block h1).trans (h.pf j), fun j => (World.frozen?_of_block h0).trans (h.fz j),
    fun i hi => (h.row i hi).keep hs h0 hq, h.ok⟩

theorem PSt.belowW {wS w w' : World} {VW : Value} {M : List Kd} {us : List (Nd × Fo)} {F : Nat → Option (Nat × List Int)} {A : Nat → Prop} {mv : Value} (h : PSt wS w VW M us F A mv) (hb : Below w.heap.size w w') : PSt wS w' VW M us F A mv := by
  have hs := h.size
  exact h.keep (h.below.trans (hb.mono (by omega))) hb.size (hb.block _ (by omega)) (hb.block _ (by omega)) (fun q h1 h2 h3 => ⟨hb.block q h2, h3⟩)

theorem Tryz.infoPath : (Tryz.prog.info? 52).map (fun i => (i.zero, i.size, i.bytes)) = some (some (.agg #[.bool false, .int .i64 0, .slice none 0 0]), 3, 40) := by kernel_rfl

theorem make_paths (n : Nat) (hn : n ≤ 1000) (W : World) : (Instr.makeSlice 54 (.int .i64 (n : Int)) (.int .i64 (n : Int))).run Tryz.prog W = .ok (.slice (some ⟨W.heap.size, 0, none⟩) n n) (W.alloc (.cells (madeCells #[.bool false, .int .i64 0, .slice none 0 0] (n * 3)) 52)) := by
  obtain ⟨i, hi, hzz⟩ := Option.map_eq_some_iff.1 Tryz.infoPath
  simp only [Prod.mk.injEq] at hzz
  obtain ⟨hz, hs, hb⟩ := hzz
  have hr := run_make (P := Tryz.prog) W 54 52 i _ Tryz.underlying54 hi hz .i64 .i64 n n (by omega) (Int.le_refl _) (by rw [hb]; omega) (by omega)
  simp only [Int.toNat_natCast, hs] at hr
  exact hr

theorem made_path (n i j : Nat) (hi : i < n) (hj : j < 3) : (madeCells #[.bool false, .int .i64 0, .slice none 0 0] (n * 3))[i * 3 + j]? = (#[.bool false, .int .i64 0, .slice none 0 0] : Array Value)[j]? := by
  have h : i * 3 + j < n * 3 := by omega
  have e : (i * 3 + j) % 3 = j := by omega
  rw [madeCells, Array.getElem?_map, Array.getElem?_range, if_pos h]
  have : j = 0 ∨ j = 1 ∨ j = 2 := by omega
  rcases this with rfl | rfl | rfl <;> simp [e]

/-- What planFor answers. -/
def PlanEnd (w : World) (t : Nd × Fo) (e : Ending) (w' : World) : Prop :=
  ∃ (wS : World) (M : List Kd) (VW : Value), e = .returned (.pointer (some ⟨wS.heap.size + 1, 0, none⟩)) ∧ Below w.heap.size w wS ∧ SlT wS VW M ∧ (∀ k ∈ M, may k.a k.l = true) ∧ Rises M ∧ M.length ≤ 1000 ∧
    (∀ u ∈ partT t, ∃ i, i < M.length ∧ nm (M.getD i kd0).t = nm u) ∧ ∀ us A, PSt wS w' VW M us (fun _ => none) A (.slice none 0 0)

set_option maxRecDepth 100000 in
set_option maxHeartbeats 2000000 in
theorem planFor_any (a : Nd) (l : Fo) (v : Value) (B : Nat) (w : World) (hv : RepV w B a l v) (hB : B ≤ w.heap.size) (ma : may a l = true) :
    Calls Tryz.prog 19 #[v] w (PlanEnd w (a, l)) := by
  obtain ⟨hf, A, cap, b, o, rfl, hn, hA, hr⟩ := hv
  have HA : Hid (flen l = 0 ∨ A = some ⟨b, o, none⟩) := hA
  have HR : Hid (RepF w B l b o) := hr
  clear hA hr
  have hN := may_nodes ma
  have hbA : Below w.heap.size w (w.alloc (.cells #[.int .i64 a.kind, .int .i64 a.n, .string a.s, .slice A (flen l) cap] 27)) := Below.alloc (Below.refl _ _) (Nat.le_refl _) _
  go_enter Tryz.func19, Tryz.ntmps19
  go_wp2_with fail
  refine (parts_any a l _ B _ ⟨hf, A, cap, b, o, rfl, hn, HA.out, HR.out.below (hbA.mono hB)⟩ (by simp; omega) (by omega)).mono ?_
  rintro e w1 ⟨u, ks, rfl, htm, hown, hks, hb1⟩
  have hmk : ∀ k ∈ ks, may k.a k.l = true := fun k hk => by
    have h1 : (k.a, k.l) ∈ partT (a, l) := by rw [← htm]; exact List.mem_map.2 ⟨k, hk, rfl⟩
    rcases List.mem_cons.1 h1 with h2 | h2
    · injection h2 with h2 h3; rw [h2, h3]; exact ma
    · exact partF_may l (may_amay ma) _ h2
  have hsl : SlT w1 u ks := owns_sl hown hb1 (fun k hk => ⟨(hks k hk).keep (fun q hq => by simp; omega) (fun _ _ _ => rfl), may_ar _ _ (hmk k hk)⟩)
  have hkl : ks.length ≤ 1000 := by
    have := congrArg List.length htm
    simp [partT, partF_len, tms_len] at this; omega
  have hbw1 : Below w.heap.size w w1 := hbA.trans (hb1.mono (by simp))
  have HTM : Hid (tms ks = partT (a, l)) := htm
  have HMK : Hid (∀ k ∈ ks, may k.a k.l = true) := hmk
  clear htm hown hks hmk hb1
  go_wp2_with fail
  refine (sortK hsl HMK.out hkl).mono ?_
  rintro e wS ⟨M, VW, rfl, hM, hMm, hMr, hMs, hMc, hMl, hbS⟩
  obtain ⟨WA, wc, rfl, _⟩ := hM.len
  have hbwS : Below w.heap.size w wS := hbw1.trans (hbS.mono hbw1.size)
  have HPT : Hid (∀ u ∈ partT (a, l), ∃ i, i < M.length ∧ nm (M.getD i kd0).t = nm u) := fun u hu => by
    rw [← HTM.out] at hu
    obtain ⟨k, hk, rfl⟩ := List.mem_map.1 hu
    obtain ⟨y, hy, h0⟩ := hMc k hk
    obtain ⟨i, hi, e⟩ := List.getElem_of_mem hy
    refine ⟨i, hi, ?_⟩
    rw [List.getD, List.getElem?_eq_getElem hi, Option.getD_some, e]
    exact (nm_iff.2 h0).symm
  have HM : Hid (SlT wS (.slice WA M.length wc) M ∧ (∀ k ∈ M, may k.a k.l = true) ∧ Rises M) := ⟨hM, hMm, hMr⟩
  have hmk := make_paths M.length hMl wS
  clear hsl hM hMm hMr hMs hMc hbS hbw1 hkl
  have HMP := fun i j => made_path M.length i j
  have HMP' : Hid (∀ i j, i < M.length → j < 3 → _) := HMP
  clear HMP
  generalize hmc : madeCells #[.bool false, .int .i64 0, .slice none 0 0] (M.length * 3) = mc at *
  clear hmc
  go_wp2_with fail
  refine bodyPost_ret (v := .pointer (some ⟨wS.heap.size + 1, 0, none⟩)) (by simp [results, Tryz.results19]) rfl ?_
  have hbp : Below wS.heap.size wS (wS.alloc (.cells mc 52)) := Below.alloc (Below.refl _ _) (Nat.le_refl _) _
  refine ⟨wS, M, _, rfl, hbwS, HM.out.1, HM.out.2.1, HM.out.2.2, hMl, HPT.out, fun us A' => ⟨hbp.alloc (by simp) _, by simp, by simp [go_sem], by simp [go_sem], by simp [go_sem], fun j => by simp [go_sem], fun j => by simp [go_sem], fun i hi => ?_, fun i hi p hp => by cases hp⟩⟩
  have hc : ∀ j, j < 3 → ((wS.alloc (.cells mc 52)).alloc (.cells #[.slice WA M.length wc, .slice (some ⟨wS.heap.size, 0, none⟩) M.length M.length, .slice none 0 0] 56)).cell? ⟨wS.heap.size, i * 3 + j, none⟩ = (#[.bool false, .int .i64 0, .slice none 0 0] : Array Value)[j]? := fun j hj => by
    rw [World.cell?_alloc_past _ _ _ (by simp), ← HMP'.out i j hi hj]
    have hnew := heap_alloc_new wS (.cells mc 52)
    unfold World.cell?
    simp only [hnew]
    exact if_neg (by decide)
  exact ⟨hc 0 (by omega), hc 1 (by omega), hc 2 (by omega)⟩

end Go.Proofs.YtanpplgmdemlaaaGreatDoor

namespace Go.Proofs.YtanpplgmdemlaaaGreatDoor
open Go.RowKit
set_option linter.unusedVariables false
set_option linter.unusedSimpArgs false

theorem as_1_b (w : World) : (Instr.typeAssert (.iface 102 (.agg #[])) 79 106 true).run Tryz.prog w = .ok (.tuple #[.agg #[.int .i64 0, .int .i64 0], .bool false]) w := by kernel_rfl
theorem as_1_o (w : World) : (Instr.typeAssert (.iface 102 (.agg #[])) 79 76 true).run Tryz.prog w = .ok (.tuple #[.agg #[.int .i64 0, .int .i64 0], .bool false]) w := by kernel_rfl
theorem as_o_b (a b : Int) (w : World) : (Instr.typeAssert (.iface 76 (.agg #[.int .i64 a, .int .i64 b])) 79 106 true).run Tryz.prog w = .ok (.tuple #[.agg #[.int .i64 0, .int .i64 0], .bool false]) w := by kernel_rfl

def mvI (i : Nat) : Mv := ⟨(i : Int), 0, 0, ⟨#[]⟩⟩
theorem rule_nob (i : Nat) (h1 : 1 ≤ i) (h2 : i ≤ 5) (W : World) : (Instr.typeAssert (ruleV (mvI i)) 79 106 true).run Tryz.prog W = .ok (.tuple #[.agg #[.int .i64 0, .int .i64 0], .bool false]) W := by
  rcases (show i = 1 ∨ i = 2 ∨ i = 3 ∨ i = 4 ∨ i = 5 by omega) with rfl | rfl | rfl | rfl | rfl
  · exact as_1_b W
  · exact as_s_b ⟨#[]⟩ W
  · exact as_o_b 7 0 W
  · exact as_o_b 7 1 W
  · exact as_o_b 6 1 W
theorem rule_b (i : Nat) (h1 : 6 ≤ i) (h2 : i ≤ 10) : ∃ q : Int, ∀ W : World, (Instr.typeAssert (ruleV (mvI i)) 79 106 true).run Tryz.prog W = .ok (.tuple #[.agg #[.int .i64 ((i : Int) - 3), .int .i64 q], .bool true]) W := by
  rcases (show i = 6 ∨ i = 7 ∨ i = 8 ∨ i = 9 ∨ i = 10 by omega) with rfl | rfl | rfl | rfl | rfl
  · exact ⟨1, fun W => as_b_b 3 1 W⟩
  · exact ⟨1, fun W => as_b_b 4 1 W⟩
  · exact ⟨2, fun W => as_b_b 5 2 W⟩
  · exact ⟨2, fun W => as_b_b 6 2 W⟩
  · exact ⟨2, fun W => as_b_b 7 2 W⟩

set_option maxRecDepth 20000 in
set_option maxHeartbeats 2000000 in
theorem builder_any (kind : Int) (h1 : 3 ≤ kind) (h2 : kind ≤ 7) (w : World) : Calls Tryz.prog 47 #[.int .i64 kind] w fun e w' => e = .returned (.int .i64 (kind + 3)) ∧ Below w.heap.size w w' := by
  go_enter Tryz.func47, Tryz.ntmps47
  go_wp2_with fail
  go_loopw [3] (fun iv wr => ∃ i : Nat, iv = .int .i64 (i : Int) ∧ 1 ≤ i ∧ (i : Int) ≤ kind + 3 ∧ Below w.heap.size w wr) (fun iv _ => 11 - (intOf iv).toNat)
  case atStart => exact ⟨1, rfl, by omega, by omega, Below.refl _ _⟩
  case round =>
    obtain ⟨i, rfl, hi1, hi2, hb⟩ := hrel
    have hs := hb.size
    have hle : (i : Int) ≤ 10 := by omega
    have k1 := ruleOf_any (mvI i)
    by_cases h6 : 6 ≤ i
    · obtain ⟨q, k2⟩ := rule_b i h6 (by omega)
      generalize ruleV (mvI i) = r at *
      by_cases he : (i : Int) - 3 = kind
      · have he' : ((i : Int) - 3 == kind) = true := by simp [he]
        have HE : Hid ((i : Int) - 3 = kind) := he
        clear he
        go_wp2_with fail
        refine (k1 _).mono ?_
        rintro e w1 ⟨rfl, b1⟩
        replace b1 := below_tr hb b1
        have s1 := b1.size
        go_wp2_with fail
        go_ret
        exact ⟨ret_int (by have := HE.out; omega), Below.alloc b1 s1 _⟩
      · have he' : ((i : Int) - 3 == kind) = false := by simp [he]
        have HE : Hid (¬ (i : Int) - 3 = kind) := he
        clear he
        go_wp2_with fail
        refine (k1 _).mono ?_
        rintro e w1 ⟨rfl, b1⟩
        replace b1 := below_tr hb b1
        have s1 := b1.size
        go_wp2_with fail
        go_roundw
        case rel => exact ⟨i + 1, by go_num, by omega, by have := HE.out; omega, Below.alloc b1 s1 _⟩
        case measure => simp [intOf]; omega
    · have k2 := rule_nob i hi1 (by omega)
      generalize ruleV (mvI i) = r at *
      go_wp2_with fail
      refine (k1 _).mono ?_
      rintro e w1 ⟨rfl, b1⟩
      replace b1 := below_tr hb b1
      have s1 := b1.size
      go_wp2_with fail
      go_roundw
      case rel => exact ⟨i + 1, by go_num, by omega, by omega, Below.alloc b1 s1 _⟩
      case measure => simp [intOf]; omega

/-- Moves are added: all else but the plan's own block and their row stays. -/
structure MGrew (P : Nat) (w w' : World) (mv mv' : Value) : Prop where
  os : w'.os = w.os
  tape : w'.tape = w.tape
  output : w'.output = w.output
  size : w.heap.size ≤ w'.heap.size
  block : ∀ k, k < w.heap.size → k ≠ P → mv.ownBlock ≠ some k → w'.heap[k]? = w.heap[k]?
  at' : ∀ q, mv'.ownBlock = some q → mv.ownBlock = some q ∨ w.heap.size ≤ q

theorem MGrew.refl (P : Nat) (w : World) (mv : Value) : MGrew P w w mv mv := ⟨rfl, rfl, rfl, Nat.le_refl _, fun _ _ _ _ => rfl, fun _ h => .inl h⟩
theorem MGrew.trans {P : Nat} {w1 w2 w3 : World} {m1 m2 m3 : Value} (h : MGrew P w1 w2 m1 m2) (k : MGrew P w2 w3 m2 m3) : MGrew P w1 w3 m1 m3 := by
  have hs := h.size
  refine ⟨k.os.trans h.os, k.tape.trans h.tape, k.output.trans h.output, Nat.le_trans h.size k.size, fun q h1 h2 h3 => ?_, fun q hq => ?_⟩
  · rw [k.block q (by omega) h2 (fun e => ?_), h.block q h1 h2 h3]
    rcases h.at' q e with h4 | h4
    · exact h3 h4
    · omega
  · rcases k.at' q hq with h4 | h4
    · exact h.at' q h4
    · exact .inr (by omega)
theorem MGrew.pre {P : Nat} {w1 w2 w3 : World} {m m' : Value} (h : Below w1.heap.size w1 w2) (k : MGrew P w2 w3 m m') : MGrew P w1 w3 m m' := by
  have hs := h.size
  exact ⟨k.os.trans h.os, k.tape.trans h.tape, k.output.trans h.output, Nat.le_trans h.size k.size, fun q h1 h2 h3 => (k.block q (by omega) h2 h3).trans (h.block q h1), fun q hq => (k.at' q hq).imp (fun h => h) (fun h => by omega)⟩
theorem MGrew.post {P : Nat} {w1 w2 w3 : World} {m m' : Value} (k : MGrew P w1 w2 m m') (h : Below w2.heap.size w2 w3) : MGrew P w1 w3 m m' := by
  have hs := h.size
  have hk := k.size
  exact ⟨h.os.trans k.os, h.tape.trans k.tape, h.output.trans k.output, Nat.le_trans k.size h.size, fun q h1 h2 h3 => (h.block q (by omega)).trans (k.block q h1 h2 h3), fun q hq => (k.at' q hq).imp (fun h => h) (fun h => by omega)⟩

theorem add_put {w1 w5 : World} {o : Obj} {P n N mc : Nat} {MA : Option Addr} {xs ys : List Value} {v5 : Value} (hown : w1.ownsRow N 39 4 (.slice MA n mc) n xs) (hP : P < w1.heap.size) (hPN : P < N) (d2 : w1.cell? ⟨P, 2, none⟩ = some (.slice MA n mc)) (df : w1.frozen? ⟨P, 2, none⟩ = false)
    (hown5 : w5.ownsRow N 39 4 v5 (n + 1) ys) (hgrow5 : (w1.drew.alloc o).grownBy w5 (Value.slice MA n mc).ownBlock) (hat5 : v5.ownBlock = (Value.slice MA n mc).ownBlock ∨ v5.ownBlock = some (w1.drew.alloc o).heap.size) :
    ∃ g cap5, v5 = .slice (some ⟨g, 0, none⟩) (n + 1) cap5 ∧ w5.cell? ⟨P, 2, none⟩ = some (.slice MA n mc) ∧ w5.frozen? ⟨P, 2, none⟩ = false ∧
      Hid (w5.ownsRow N 39 4 (.slice (some ⟨g, 0, none⟩) (n + 1) cap5) (n + 1) ys ∧ N ≤ g ∧ MGrew P w1 w5 (.slice MA n mc) (.slice (some ⟨g, 0, none⟩) (n + 1) cap5) ∧ w5.heap[P]? = w1.heap[P]?) := by
  obtain ⟨g, cap5, rfl, hg4, hg5⟩ : ∃ g cap5, v5 = .slice (some ⟨g, 0, none⟩) (n + 1) cap5 ∧ N ≤ g ∧ g < w5.heap.size := by
    rcases hown5.2 with ⟨_, h0⟩ | ⟨g, c, cur, h1, h2, _⟩
    · omega
    · exact ⟨g, c, h1, h2, (hown5.lt g (by rw [h1]; rfl)).2⟩
  have hs5 : w1.heap.size + 1 ≤ w5.heap.size := by have := hgrow5.size; simpa using this
  have hblk : ∀ q, q < w1.heap.size → (Value.slice MA n mc).ownBlock ≠ some q → w5.heap[q]? = w1.heap[q]? := fun q hq hv => by
    rw [hgrow5.block q (by simp; omega) (fun e => hv e.symm)]; exact Below.heap_alloc _ _ _ hq
  have hnP : (Value.slice MA n mc).ownBlock ≠ some P := fun e => by have := hown.lt P e; omega
  refine ⟨g, cap5, rfl, (World.cell?_of_block (hblk P hP hnP)).trans d2, (World.frozen?_of_block (hblk P hP hnP)).trans df, hown5, hg4, ⟨hgrow5.os, hgrow5.tape, hgrow5.output, by omega, fun q h1 _ h3 => hblk q h1 h3, fun q hq => ?_⟩, hblk P hP hnP⟩
  rcases hat5 with h | h
  · exact .inl (by rw [← h]; exact hq)
  · rw [hq] at h; injection h with h; exact .inr (by simp at h; omega)

/-- The plan behind a store of its moves. -/
theorem PSt.put {wS w w5 : World} {VW : Value} {M : List Kd} {us : List (Nd × Fo)} {F : Nat → Option (Nat × List Int)} {N : Nat} {mv mv' : Value} (h : PSt wS w VW M us F (fun q => N ≤ q) mv) (hN : wS.heap.size + 2 ≤ N) (hmv : ∀ q, mv.ownBlock = some q → N ≤ q) (k : MGrew (wS.heap.size + 1) w w5 mv mv') (hc : w5.cell? ⟨wS.heap.size + 1, 2, none⟩ = some mv) (hne : ∀ q, mv'.ownBlock = some q → N ≤ q)
    (h0 : w5.heap[wS.heap.size + 1]? = w.heap[wS.heap.size + 1]?) :
    PSt wS (w5.setCell ⟨wS.heap.size + 1, 2, none⟩ mv') VW M us F (fun q => N ≤ q) mv' ∧ MGrew (wS.heap.size + 1) w (w5.setCell ⟨wS.heap.size + 1, 2, none⟩ mv') mv mv' := by
  have hs := h.size
  have hks := k.size
  have hfar : ∀ q, q ≠ wS.heap.size + 1 → (w5.setCell ⟨wS.heap.size + 1, 2, none⟩ mv').heap[q]? = w5.heap[q]? := fun q hq => Below.heap_setCell _ _ _ _ hq
  have hnv : ∀ q, q < N → mv.ownBlock ≠ some q := fun q hq e => by have := hmv q e; omega
  have hblk : ∀ q, q < w.heap.size → q < N → q ≠ wS.heap.size + 1 → (w5.setCell ⟨wS.heap.size + 1, 2, none⟩ mv').heap[q]? = w.heap[q]? := fun q h1 h2 h3 => (hfar q h3).trans (k.block q h1 h3 (hnv q h2))
  have hc1 : ∀ j, j ≠ 2 → (w5.setCell ⟨wS.heap.size + 1, 2, none⟩ mv').cell? ⟨wS.heap.size + 1, j, none⟩ = w.cell? ⟨wS.heap.size + 1, j, none⟩ := fun j hj => by
    rw [World.cell?_setCell_other _ _ _ _ (by intro e; injection e with e1 e2; exact hj e2.symm)]
    exact World.cell?_of_block h0
  have hsz : (w5.setCell ⟨wS.heap.size + 1, 2, none⟩ mv').heap.size = w5.heap.size := size_setK _ _ _
  refine ⟨⟨?_, by rw [hsz]; omega, (hc1 0 (by decide)).trans h.p0, (hc1 1 (by decide)).trans h.p1, World.cell?_setCell_same _ _ _ hc, fun j => ?_, fun j => ?_, fun i hi => ?_, h.ok⟩, ?_⟩
  · exact h.below.trans ⟨k.os, k.tape, k.output, by rw [hsz]; exact hks, fun q hq => hblk q (by omega) (by omega) (by omega)⟩
  · rw [World.frozen?_setCell]
    exact (World.frozen?_of_block h0).trans (h.pf j)
  · exact (World.frozen?_of_block (a := ⟨wS.heap.size, j, none⟩) (hblk wS.heap.size (by omega) (by omega) (by omega))).trans (h.fz j)
  · exact (h.row i hi).keep (by rw [hsz]; exact hks) (hblk _ (by omega) (by omega) (by omega)) (fun q h1 h2 h3 => ⟨hblk q h2 (by omega) (by omega), h3⟩)
  · exact ⟨k.os, k.tape, k.output, by rw [hsz]; exact hks, fun q h1 h2 h3 => (hfar q h2).trans (k.block q h1 h2 h3), k.at'⟩

def mvK (num : Nat) : Mv := ⟨1, (num : Int), 0, ⟨#[]⟩⟩

/-- What adds moves leaves, in w'. -/
def AddM (wS w : World) (VW : Value) (M : List Kd) (us : List (Nd × Fo)) (F : Nat → Option (Nat × List Int)) (N : Nat) (mv : Value) (ms : List Mv) (w' : World) : Prop :=
  ∃ mv', PSt wS w' VW M us F (fun q => N ≤ q) mv' ∧ w'.ownsRow N 39 4 mv' ms.length (rowM ms) ∧ MGrew (wS.heap.size + 1) w w' mv mv'

set_option maxRecDepth 100000 in
set_option maxHeartbeats 2000000 in
theorem padd_any {wS w : World} {VW : Value} {M : List Kd} {us : List (Nd × Fo)} {F : Nat → Option (Nat × List Int)} {N : Nat} {mv : Value} (m : Mv) (ms : List Mv) (h : PSt wS w VW M us F (fun q => N ≤ q) mv) (hN : wS.heap.size + 2 ≤ N) (hNw : N ≤ w.heap.size) (hown : w.ownsRow N 39 4 mv ms.length (rowM ms)) (hl : ms.length ≤ 100000) :
    Calls Tryz.prog 45 #[.pointer (some ⟨wS.heap.size + 1, 0, none⟩), m.val] w fun e w' => e = .returned (.int .i64 (ms.length : Int)) ∧ AddM wS w VW M us F N mv (ms ++ [m]) w' := by
  obtain ⟨MA, mc, rfl⟩ := owns_val hown
  obtain ⟨i5, hi, hz0, hz1, hz2⟩ := info_get Tryz.infoMove
  have hba : Below w.heap.size w (w.alloc (.cells #[.int .i64 m.kind, .int .i64 m.a, .int .i64 m.b, .string m.s] 39)) := Below.alloc (Below.refl _ _) (Nat.le_refl _) _
  obtain ⟨x0, x1, x2, x3, x4⟩ := Box4.new w (.int .i64 m.kind) (.int .i64 m.a) (.int .i64 m.b) (.string m.s) 39
  have hown1 := owns_below hown hba
  have hvk := hown.lt
  have hs := h.size
  have d2 := h.p2
  have df := h.pf 2
  have h1 := h.belowW hba
  have e2 := h1.p2
  have ef := h1.pf 2
  have H1 : Hid (PSt wS _ VW M us F (fun q => N ≤ q) (.slice MA ms.length mc)) := h1
  have HO1 : Hid (World.ownsRow _ N 39 4 (.slice MA ms.length mc) ms.length (rowM ms)) := hown1
  have HBA : Hid (Below w.heap.size w _) := hba
  have hsz : w.heap.size < (w.alloc (.cells #[.int .i64 m.kind, .int .i64 m.a, .int .i64 m.b, .string m.s] 39)).heap.size := by simp
  have HVK : Hid (∀ q, (Value.slice MA ms.length mc).ownBlock = some q → N ≤ q) := fun q hq => (hvk q hq).1
  clear h h1 hown hown1 hba hvk d2 df
  go_enter Tryz.func45, Tryz.ntmps45
  go_wp2_with fail
  generalize w.alloc (.cells #[.int .i64 m.kind, .int .i64 m.a, .int .i64 m.b, .string m.s] 39) = w1 at *
  have hP2 : wS.heap.size + 1 < w1.heap.size := by omega
  go_region_law (refine step_append_any _ (by rfl) _ _ 29 (by rfl) N 39 i5 (.agg #[.int .i64 0, .int .i64 0, .int .i64 0, .string ⟨#[]⟩]) 4 40 Tryz.underlying29 hi hz0 hz1 hz2 rfl (by decide) (.slice MA ms.length mc) ms.length (rowM ms) (by rfl) ?_ (some ⟨w1.heap.size, 0, none⟩) 1 1 m.cells (by rfl) ?_ ?_ ?_ ?_ ?_; exact (World.ownsRow.drew HO1.out).alloc _; exact .inr ⟨_, rfl, rfl, World.news_of_block (t := 39) (fr := (0, 0)) (heap_alloc_new w1.drew _), by simp [Mv.cells, Value.oneCell']⟩; (unfold maxLen; omega); omega; (simp; omega); intro v5 w5 hown5 hgrow5 hat5; obtain ⟨g, cap5, rfl, f2, ff, H5⟩ := add_put HO1.out (by omega) (by omega) e2 ef hown5 hgrow5 hat5)
  all_goals
    have hput := PSt.put H1.out hN HVK.out H5.out.2.2.1 f2 (fun q hq => by simp [Value.ownBlock] at hq; rw [← hq]; exact H5.out.2.1) H5.out.2.2.2
    have hownW := ownsRow_setCell_below H5.out.1 (a := ⟨wS.heap.size + 1, 2, none⟩) (show wS.heap.size + 1 < N by omega) (.slice (some ⟨g, 0, none⟩) (ms.length + 1) cap5)
    have HW : Hid (_ ∧ _) := ⟨hput, hownW⟩
    have hc2 := hput.1.p2
    clear hput hownW H5 hown5 hgrow5 hat5 f2 ff
    generalize World.setCell _ _ _ = W at *
    go_wp2_with fail
    go_ret
    refine ⟨rfl, _, HW.out.1.1, ?_, HW.out.1.2.pre HBA.out⟩
    have := HW.out.2
    rw [rowM_append, List.length_append]
    exact this

theorem opsM_take (os : List Int) (i n : Nat) (h : i < os.length) : opsM (os.take (i + 1)) n = opsM (os.take i) n ++ [⟨os.getD i 0, ((n + i : Nat) : Int), 0, ⟨#[]⟩⟩] := by
  have e : os.take (i + 1) = os.take i ++ [os.getD i 0] := by rw [List.take_succ_eq_append_getElem h]; simp [List.getD, List.getElem?_eq_getElem h]
  rw [e, opsM_snoc, List.length_take, Nat.min_eq_left (by omega)]

def FolRel (wS w : World) (VW : Value) (M : List Kd) (us : List (Nd × Fo)) (F : Nat → Option (Nat × List Int)) (N : Nat) (mv : Value) (ms : List Mv) (num : Nat) (os : List Int) (lv iv : Value) (wr : World) : Prop :=
  ∃ i : Nat, iv = .int .i64 (i : Int) ∧ lv = .int .i64 ((ms.length + i : Nat) : Int) ∧ i ≤ os.length ∧ AddM wS w VW M us F N mv (ms ++ folM num (os.take i) ms.length) wr

set_option maxRecDepth 100000 in
set_option maxHeartbeats 2000000 in
theorem follow_any {wS w : World} {VW : Value} {M : List Kd} {us : List (Nd × Fo)} {F : Nat → Option (Nat × List Int)} {N : Nat} {mv ov : Value} (num : Nat) (os : List Int) (fb : Bool) (ms : List Mv) (h : PSt wS w VW M us F (fun q => N ≤ q) mv) (hN : wS.heap.size + 2 ≤ N) (hNw : N ≤ w.heap.size) (hown : w.ownsRow N 39 4 mv ms.length (rowM ms)) (hl : ms.length ≤ 90000) (hv : IntV w (wS.heap.size + 2) (fun q => N ≤ q) ov os) (hol : os.length ≤ 100) :
    Calls Tryz.prog 46 #[.pointer (some ⟨wS.heap.size + 1, 0, none⟩), .agg #[.bool fb, .int .i64 (num : Int), ov]] w fun e w' => e = .returned (.int .i64 ((ms.length + os.length : Nat) : Int)) ∧ AddM wS w VW M us F N mv (ms ++ folM num os ms.length) w' := by
  obtain ⟨OA, oc, rfl, hoa⟩ := hv
  have HOA : Hid (os = [] ∨ ∃ q oo, OA = some ⟨q, oo, none⟩ ∧ wS.heap.size + 2 ≤ q ∧ q < w.heap.size ∧ ¬ N ≤ q ∧ ∀ j, j < os.length → w.cell? ⟨q, oo + j, none⟩ = some (.int .i64 (os.getD j 0))) := hoa
  have hvk := hown.lt
  have HVK : Hid (∀ q, mv.ownBlock = some q → N ≤ q ∧ q < w.heap.size) := hvk
  have hba : Below w.heap.size w (w.alloc (.cells #[.bool fb, .int .i64 (num : Int), .slice OA os.length oc] 52)) := Below.alloc (Below.refl _ _) (Nat.le_refl _) _
  have h1 := h.belowW hba
  have hown1 := owns_below hown hba
  have k1 := padd_any (mvK num) ms h1 hN (by simp; omega) hown1 (by omega)
  have HBA : Hid (Below w.heap.size w _) := hba
  have HSW : Hid (wS.heap.size + 2 ≤ w.heap.size) := h.size
  clear hoa hvk h hown h1 hown1 hba
  go_enter Tryz.func46, Tryz.ntmps46
  go_wp2_with fail
  refine k1.mono ?_
  rintro e w1 ⟨rfl, hadd1⟩
  have HA1 : Hid (AddM wS w VW M us F N mv (ms ++ folM num (os.take 0) ms.length) w1) := by
    obtain ⟨mv1, hp1, ho1, hg1⟩ := hadd1
    exact ⟨mv1, hp1, ho1, hg1.pre HBA.out⟩
  have c2 : w1.cell? ⟨w.heap.size, 2, none⟩ = some (.slice OA os.length oc) := by
    obtain ⟨mv1, hp1, ho1, hg1⟩ := hadd1
    rw [World.cell?_of_block (a := ⟨w.heap.size, 2, none⟩) (hg1.block w.heap.size (by simp) (by have := HSW.out; omega) (fun e => by have := HVK.out _ e; omega))]
    simp [go_sem]
  have hsw : wS.heap.size + 2 ≤ w.heap.size := HSW.out
  clear hadd1 k1
  go_wp2_with fail
  go_loopw [5, 16] (fun lv iv wr => FolRel wS w VW M us F N mv ms num os lv iv wr) (fun _ iv _ => os.length - (intOf iv).toNat)
  case atStart => exact ⟨0, rfl, by simp, by omega, HA1.out⟩
  case round =>
    obtain ⟨i, rfl, rfl, hi, mv1, hp1, ho1, hg1⟩ := hrel
    by_cases hlt : i < os.length
    · have hlt' : (i : Int) < (os.length : Int) := by omega
      have hi0 : (0 : Int) ≤ (i : Int) := by omega
      obtain ⟨q, oo, rfl, hq1, hq2, hq3, hq4⟩ : ∃ q oo, OA = some ⟨q, oo, none⟩ ∧ wS.heap.size + 2 ≤ q ∧ q < w.heap.size ∧ ¬ N ≤ q ∧ ∀ j, j < os.length → w.cell? ⟨q, oo + j, none⟩ = some (.int .i64 (os.getD j 0)) := by
        rcases HOA.out with h | h
        · rw [h] at hlt; simp at hlt
        · exact h
      have hc : wr.cell? ⟨q, oo + i, none⟩ = some (.int .i64 (os.getD i 0)) := by
        rw [World.cell?_of_block (a := ⟨q, oo + i, none⟩) (hg1.block q hq2 (by omega) (fun e => by have := HVK.out _ e; omega))]
        exact hq4 i hlt
      have hqs : q < wr.heap.size := by have := hg1.size; omega
      have hml : (ms ++ folM num (os.take i) ms.length).length = ms.length + (i + 1) := by rw [List.length_append, folM_len, List.length_take, Nat.min_eq_left (by omega)]
      have k1 := padd_any (⟨os.getD i 0, ((ms.length + i : Nat) : Int), 0, ⟨#[]⟩⟩ : Mv) (ms ++ folM num (os.take i) ms.length) hp1 hN (by have := hg1.size; omega) ho1 (by rw [hml]; omega)
      have hE : Hid ((ms ++ folM num (os.take i) ms.length) ++ [(⟨os.getD i 0, ((ms.length + i : Nat) : Int), 0, ⟨#[]⟩⟩ : Mv)] = ms ++ folM num (os.take (i + 1)) ms.length) := by
        show _ = _
        rw [List.append_assoc, folM, folM, opsM_take os i ms.length hlt]; rfl
      rw [hE.out, hml] at k1
      have HG1 : Hid (MGrew (wS.heap.size + 1) w wr mv mv1) := hg1
      clear hp1 ho1 hg1 hq4 HA1 hml
      generalize os.getD i 0 = kk at *
      go_wp2_with fail
      refine k1.mono ?_
      rintro e w2 ⟨rfl, mv2, hp2, ho2, hg2⟩
      go_wp2_with fail
      go_roundw
      case rel => exact ⟨i + 1, by go_num, by first | rfl | (simp; done) | (simp; omega), by omega, mv2, hp2, ho2, HG1.out.trans hg2⟩
      case measure => simp [intOf]; omega
    · obtain rfl : i = os.length := by omega
      have hlt' : ¬ (os.length : Int) < (os.length : Int) := by omega
      rw [List.take_length] at ho1
      have HE : Hid (AddM wS w VW M us F N mv (ms ++ folM num os ms.length) wr) := ⟨mv1, hp1, ho1, hg1⟩
      clear hp1 ho1 hg1 HA1
      go_wp2_with fail
      go_ret
      exact ⟨rfl, HE.out⟩

end Go.Proofs.YtanpplgmdemlaaaGreatDoor
