import Derived.Test.YtfoeeocejcbmlaaGreatDoorUP
import Derived.Test.YtfoeeocejcbmlaaGreatDoorQL
namespace Go.Proofs.YtfoeeocejcbmlaaGreatDoor
open Go.RowKit
set_option linter.unusedVariables false
set_option linter.unusedSimpArgs false

def k11 : List Fd := [(⟨#[97]⟩, ⟨#[98]⟩)]
def k11b : List Fd := [(⟨#[99]⟩, ⟨#[100]⟩)]
theorem k11_par : prsF ⟨#[104, 116, 116, 112, 115, 58, 47, 47, 97, 115, 47, 112, 97, 114, 63, 97, 61, 98]⟩ = (0, ⟨#[97, 115]⟩, ⟨#[47, 112, 97, 114]⟩, k11) := by decide +kernel
theorem k11_no : prsF ⟨#[104, 116, 116, 112, 115, 58, 47, 47, 97, 115]⟩ = (3, ⟨#[]⟩, ⟨#[]⟩, []) := by decide +kernel
theorem k11_spl : splF ⟨#[47, 120, 63, 99, 61, 100]⟩ = (0, ⟨#[47, 120]⟩, k11b) := by decide +kernel
theorem k11_may : mayU (⟨#[97, 115]⟩, ⟨#[47, 112, 97, 114]⟩, k11) = true := by decide +kernel
theorem k11_pr : printS (⟨#[97, 115]⟩, ⟨#[47, 112, 97, 114]⟩, k11) = ⟨#[104, 116, 116, 112, 115, 58, 47, 47, 97, 115, 47, 112, 97, 114, 63, 97, 61, 98]⟩ := by decide +kernel
theorem k11_tg : targetS (⟨#[97, 115]⟩, ⟨#[47, 112, 97, 114]⟩, k11) = ⟨#[47, 112, 97, 114, 63, 97, 61, 98]⟩ := by decide +kernel
theorem known11_facts : ∃ L M : List Fd, prsF ⟨#[104, 116, 116, 112, 115, 58, 47, 47, 97, 115, 47, 112, 97, 114, 63, 97, 61, 98]⟩ = (0, ⟨#[97, 115]⟩, ⟨#[47, 112, 97, 114]⟩, L) ∧ splF ⟨#[47, 120, 63, 99, 61, 100]⟩ = (0, ⟨#[47, 120]⟩, M) ∧
    mayU (⟨#[97, 115]⟩, ⟨#[47, 112, 97, 114]⟩, L) = true ∧ printS (⟨#[97, 115]⟩, ⟨#[47, 112, 97, 114]⟩, L) = ⟨#[104, 116, 116, 112, 115, 58, 47, 47, 97, 115, 47, 112, 97, 114, 63, 97, 61, 98]⟩ ∧ targetS (⟨#[97, 115]⟩, ⟨#[47, 112, 97, 114]⟩, L) = ⟨#[47, 112, 97, 114, 63, 97, 61, 98]⟩ ∧
    L.length = 1 ∧ M.length = 1 ∧ sumF L ≤ 100 :=
  ⟨k11, k11b, k11_par, k11_spl, k11_may, k11_pr, k11_tg, rfl, rfl, by decide +kernel⟩

set_option maxRecDepth 100000 in
set_option maxHeartbeats 2000000 in
theorem known11_any (w : World) (ht : Tab16 w.heap.size w) :
    Calls Tryz.prog 5 #[] w fun e w' => e = .returned (.bool true) ∧ Below w.heap.size w w' := by
  obtain ⟨L, M, p1, p2, p3, p4, p5, p6, p7, p8⟩ := known11_facts
  have k1 := fun W hW => uparse_any ht ⟨#[104, 116, 116, 112, 115, 58, 47, 47, 97, 115, 47, 112, 97, 114, 63, 97, 61, 98]⟩ (by decide) W hW
  have k2 := fun W hW => uparse_any ht ⟨#[104, 116, 116, 112, 115, 58, 47, 47, 97, 115]⟩ (by decide) W hW
  have k3 := fun W hW => usplit_any ht ⟨#[47, 120, 63, 99, 61, 100]⟩ (by decide) W hW
  unfold ParseAt at k1 k2
  unfold SplitAt at k3
  rw [p1] at k1
  rw [k11_no] at k2
  rw [p2] at k3
  have hz1 : (⟨#[97, 115]⟩ : ByteArray).size ≤ 100000 := by decide
  have hz2 : (⟨#[47, 112, 97, 114]⟩ : ByteArray).size ≤ 100000 := by decide
  have k4 := fun v W hW hv => uprint_any ht (⟨#[97, 115]⟩, ⟨#[47, 112, 97, 114]⟩, L) v W hW hv (by rw [p6]; decide) (Nat.le_trans p8 (by decide)) hz1 hz2
  have k5 := fun v W hW hv => utgt_any ht (⟨#[97, 115]⟩, ⟨#[47, 112, 97, 114]⟩, L) v W hW hv (by rw [p6]; decide) (Nat.le_trans p8 (by decide)) hz1 hz2
  have k6 := fun v W hW hv => umay_any ht (⟨#[97, 115]⟩, ⟨#[47, 112, 97, 114]⟩, L) v W hW hv (by rw [p6]; decide) (Nat.le_trans p8 (by decide)) hz1 hz2
  rw [p4] at k4
  rw [p5] at k5
  rw [p3] at k6
  dsimp only at k1 k2 k3 k4 k5 k6
  clear p1 p2 p3 p4 p5 p8
  go_enter Tryz.func5, Tryz.ntmps5
  go_wp2_with fail
  refine (k1 _ (Below.refl _ _)).mono ?_
  rintro e w1 ⟨q1, rfl, o1, h1⟩
  obtain ⟨A1, cp1, rfl⟩ := slice_ofF o1
  rw [p6] at o1 ⊢
  have HR1 : Hid (OwnF w1 w.heap.size (.slice A1 1 cp1) L) := o1
  have HB1 : Hid (Below w.heap.size w w1) := h1
  clear o1 h1 k1
  go_wp2_with fail
  have x2 := BoxU.new w1 (.string ⟨#[97, 115]⟩) (.string ⟨#[47, 112, 97, 114]⟩) (.slice A1 1 cp1) 28
  have b2 := (Below.refl w1.heap.size w1).alloc (Nat.le_refl _) (.cells #[.string ⟨#[97, 115]⟩, .string ⟨#[47, 112, 97, 114]⟩, .slice A1 1 cp1] 28)
  generalize w1.alloc (.cells #[.string ⟨#[97, 115]⟩, .string ⟨#[47, 112, 97, 114]⟩, .slice A1 1 cp1] 28) = w2 at *
  have hb2 := HB1.out.trans (b2.mono HB1.out.size)
  refine (k2 w2 hb2).mono ?_
  rintro e w3 ⟨q3, rfl, o3, h3⟩
  obtain ⟨A3, cp3, rfl⟩ := slice_ofF o3
  clear k2
  go_wp2_with fail
  have b3 : Below w2.heap.size w2 (w3.alloc (.cells #[.string ⟨#[]⟩, .string ⟨#[]⟩, .slice A3 ([] : List Fd).length cp3] 28)) := h3.alloc h3.size _
  simp only [List.length_nil] at b3
  generalize w3.alloc _ = w4 at *
  have hb4 := hb2.trans (b3.mono hb2.size)
  refine (k3 w4 hb4).mono ?_
  rintro e w5 ⟨q5, rfl, o5, h5⟩
  obtain ⟨A5, cp5, rfl⟩ := slice_ofF o5
  rw [p7]
  have x5 := (x2.below b3).below h5
  have hb5 := hb4.trans (h5.mono hb4.size)
  have HO5 : Hid (OwnF w5 w.heap.size (.slice A1 1 cp1) L) := ((HR1.out.below b2).below b3).below h5
  have HX5 : Hid (BoxU w5 w1.heap.size (.string ⟨#[97, 115]⟩) (.string ⟨#[47, 112, 97, 114]⟩) (.slice A1 1 cp1)) := x5
  have HB5 : Hid (Below w.heap.size w w5) := hb5
  obtain ⟨l0, c0, c1, c2⟩ := x5
  have k4' := k4 (.slice A1 1 cp1) w5 hb5 HO5.out.row
  clear b2 b3 x2 h3 o3 o5 h5 hb2 hb4 k3 k4 HR1 HB1 hb5
  go_wp2_with fail
  refine k4'.mono ?_
  rintro e w6 ⟨rfl, h6⟩
  have x6 := HX5.out.below h6
  have hb6 := HB5.out.trans (h6.mono HB5.out.size)
  have HO6 : Hid (OwnF w6 w.heap.size (.slice A1 1 cp1) L) := HO5.out.below h6
  have HX6 : Hid (BoxU w6 w1.heap.size (.string ⟨#[97, 115]⟩) (.string ⟨#[47, 112, 97, 114]⟩) (.slice A1 1 cp1)) := x6
  have HB6 : Hid (Below w.heap.size w w6) := hb6
  obtain ⟨l6, d0, d1, d2⟩ := x6
  have k5' := k5 (.slice A1 1 cp1) w6 hb6 HO6.out.row
  clear h6 hb6 k5 k4' c0 c1 c2
  go_wp2_with fail
  refine k5'.mono ?_
  rintro e w7 ⟨rfl, h7⟩
  have x7 := HX6.out.below h7
  have hb7 := HB6.out.trans (h7.mono HB6.out.size)
  have HO7 : Hid (OwnF w7 w.heap.size (.slice A1 1 cp1) L) := HO6.out.below h7
  have HB7 : Hid (Below w.heap.size w w7) := hb7
  obtain ⟨l7, e0, e1, e2⟩ := x7
  have k6' := k6 (.slice A1 1 cp1) w7 hb7 HO7.out.row
  clear h7 hb7 k6 k5' d0 d1 d2
  go_wp2_with fail
  refine k6'.mono ?_
  rintro e w8 ⟨rfl, h8⟩
  have HB8 : Hid (Below w.heap.size w w8) := HB7.out.trans (h8.mono HB7.out.size)
  clear h8 k6' e0 e1 e2
  go_wp2_with fail
  go_ret
  exact ⟨rfl, HB8.out⟩

/-! An address of numbers. -/
def uHosts : List ByteArray := [⟨#[97, 115]⟩, ⟨#[99, 49]⟩, ⟨#[99, 50]⟩, ⟨#[114, 115]⟩, ⟨#[97, 116]⟩, ⟨#[97, 45, 49, 46, 98]⟩, ⟨#[48]⟩]
def uPaths : List ByteArray := [⟨#[47]⟩, ⟨#[47, 99, 98]⟩, ⟨#[47, 115, 116, 97, 114, 116]⟩, ⟨#[47, 97, 117, 116, 104, 111, 114, 105, 122, 101]⟩, ⟨#[47, 97, 47, 98, 47, 47]⟩, ⟨#[47, 126, 120, 95, 49, 46, 50, 45, 51]⟩]
def uriU (ns : List Int) : Ur :=
  (uHosts.getD (nextV ns 0 7).toNat ByteArray.empty, uPaths.getD (nextV ns (nextK ns 0 7) 6).toNat ByteArray.empty, fldF ns (nextV ns (nextK ns (nextK ns 0 7) 6) 6).toNat 0 [])

theorem uHosts_ok : ∀ x ∈ uHosts, isHost x = true ∧ x.size ≤ 5 := by decide +kernel
theorem uPaths_ok : ∀ x ∈ uPaths, isPath x = true ∧ x.size ≤ 10 := by decide +kernel
theorem uHost_ok (i : Nat) (hi : i < 7) : isHost (uHosts.getD i ByteArray.empty) = true ∧ (uHosts.getD i ByteArray.empty).size ≤ 5 :=
  uHosts_ok _ (by rw [List.getD_eq_getElem?_getD, List.getElem?_eq_getElem (show i < uHosts.length from hi)]; exact List.getElem_mem _)
theorem uPath_ok (i : Nat) (hi : i < 6) : isPath (uPaths.getD i ByteArray.empty) = true ∧ (uPaths.getD i ByteArray.empty).size ≤ 10 :=
  uPaths_ok _ (by rw [List.getD_eq_getElem?_getD, List.getElem?_eq_getElem (show i < uPaths.length from hi)]; exact List.getElem_mem _)

theorem uriU_small (ns : List Int) : (uriU ns).1.size ≤ 5 ∧ (uriU ns).2.1.size ≤ 10 ∧ (uriU ns).2.2.length ≤ 5 ∧ sumF (uriU ns).2.2 ≤ 90 ∧ isHost (uriU ns).1 = true ∧ isPath (uriU ns).2.1 = true ∧ Unl (uriU ns).2.2 := by
  have a := uHost_ok (nextV ns 0 7).toNat (by have := nextV_lo ns 0 7; have := nextV_hi ns 0 7 (by omega); omega)
  have b := uPath_ok (nextV ns (nextK ns 0 7) 6).toNat (by have := nextV_lo ns (nextK ns 0 7) 6; have := nextV_hi ns (nextK ns 0 7) 6 (by omega); omega)
  have c := fldF_ok ns (nextV ns (nextK ns (nextK ns 0 7) 6) 6).toNat 0 [] FOk.nil
  have d := fldF_len ns (nextV ns (nextK ns (nextK ns 0 7) 6) 6).toNat 0 []
  have e1 := nextV_lo ns (nextK ns (nextK ns 0 7) 6) 6
  have e2 := nextV_hi ns (nextK ns (nextK ns 0 7) 6) 6 (by omega)
  have f := FOk.sum c.2
  have d2 : (fldF ns (nextV ns (nextK ns (nextK ns 0 7) 6) 6).toNat 0 []).length ≤ 5 := by simp at d; omega
  exact ⟨a.2, b.2, d2, Nat.le_trans f (by omega), a.1, b.1, c.1⟩
theorem uriU_may (ns : List Int) : mayU (uriU ns) = true := by
  obtain ⟨h1, h2, h3, h4, h5, h6, h7⟩ := uriU_small ns
  have hm := uri_most (uriU ns)
  exact (mayU_is _).2 ⟨h5, h6, by omega, h7, by omega⟩

theorem uHosts_at (i : Nat) (hi : i < 7) : [Value.string ⟨#[97, 115]⟩, Value.string ⟨#[99, 49]⟩, Value.string ⟨#[99, 50]⟩, Value.string ⟨#[114, 115]⟩, Value.string ⟨#[97, 116]⟩, Value.string ⟨#[97, 45, 49, 46, 98]⟩, Value.string ⟨#[48]⟩][i]? = some (Value.string (uHosts[i]?.getD ByteArray.empty)) := by
  rcases (show i = 0 ∨ i = 1 ∨ i = 2 ∨ i = 3 ∨ i = 4 ∨ i = 5 ∨ i = 6 by omega) with rfl | rfl | rfl | rfl | rfl | rfl | rfl <;> rfl
theorem uPaths_at (i : Nat) (hi : i < 6) : [Value.string ⟨#[47]⟩, Value.string ⟨#[47, 99, 98]⟩, Value.string ⟨#[47, 115, 116, 97, 114, 116]⟩, Value.string ⟨#[47, 97, 117, 116, 104, 111, 114, 105, 122, 101]⟩, Value.string ⟨#[47, 97, 47, 98, 47, 47]⟩, Value.string ⟨#[47, 126, 120, 95, 49, 46, 50, 45, 51]⟩][i]? = some (Value.string (uPaths[i]?.getD ByteArray.empty)) := by
  rcases (show i = 0 ∨ i = 1 ∨ i = 2 ∨ i = 3 ∨ i = 4 ∨ i = 5 by omega) with rfl | rfl | rfl | rfl | rfl | rfl <;> rfl

set_option maxRecDepth 20000 in
set_option maxHeartbeats 4000000 in
theorem uri_any (ns : List Int) (LA : Option Addr) (cap B : Nat) (w : World) (hB : B ≤ w.heap.size) (hns : NumsAt w B ns LA) (hf : NumsFit ns) :
    Calls Tryz.prog 13 #[.slice LA ns.length cap] w fun e w' => ∃ q, e = .returned (.agg #[.string (uriU ns).1, .string (uriU ns).2.1, q]) ∧ OwnF w' w.heap.size q (uriU ns).2.2 ∧ Below w.heap.size w w' := by
  have hnl := hf.1
  have HU : Hid (uriU ns = (uHosts.getD (nextV ns 0 7).toNat ByteArray.empty, uPaths.getD (nextV ns (nextK ns 0 7) 6).toNat ByteArray.empty, fldF ns (nextV ns (nextK ns (nextK ns 0 7) 6) 6).toNat 0 [])) := rfl
  go_enter Tryz.func13, Tryz.ntmps13
  go_wp2_with fail
  have t1 := Tri3.new w w.heap.size (.string ⟨#[]⟩) (.string ⟨#[]⟩) (.slice none 0 0) 28 rfl
  have b1 : Below w.heap.size w (w.alloc (.cells #[.string ⟨#[]⟩, .string ⟨#[]⟩, .slice none 0 0] 28)) := (by repeat (first | exact Below.refl _ _ | assumption | refine below_drewN ?_ _ | refine Below.drew ?_ | refine Below.alloc ?_ (by simp <;> omega) _ | refine Below.setCell ?_ (by simp <;> omega) _))
  have z1 : (w.alloc (.cells #[.string ⟨#[]⟩, .string ⟨#[]⟩, .slice none 0 0] 28)).heap.size = w.heap.size + 1 := by simp
  generalize w.alloc (.cells #[.string ⟨#[]⟩, .string ⟨#[]⟩, .slice none 0 0] 28) = w1 at *
  have T2 : TapeAt (w1.alloc (.cells #[.slice LA ns.length cap, .int .i64 0] 42)) (w.heap.size + 1) LA ns.length cap 0 := by
    rw [← z1]; exact ⟨by simp, by simp [go_sem], by simp [go_sem], by simp [go_sem]⟩
  have b2 : Below w1.heap.size w1 (w1.alloc (.cells #[.slice LA ns.length cap, .int .i64 0] 42)) := (by repeat (first | exact Below.refl _ _ | assumption | refine below_drewN ?_ _ | refine Below.drew ?_ | refine Below.alloc ?_ (by simp <;> omega) _ | refine Below.setCell ?_ (by simp <;> omega) _))
  have z2 : (w1.alloc (.cells #[.slice LA ns.length cap, .int .i64 0] 42)).heap.size = w.heap.size + 1 + 1 := by simp [z1]
  generalize w1.alloc (.cells #[.slice LA ns.length cap, .int .i64 0] 42) = w2 at *
  have t2 := t1.below b2
  have hb2 := b1.trans (b2.mono (by omega))
  have hn2 := hns.below (hb2.mono hB)
  clear t1 b1 b2 z1
  have hal : Below w2.heap.size w2 (w2.alloc (.cells #[.string ⟨#[97, 115]⟩, .string ⟨#[99, 49]⟩, .string ⟨#[99, 50]⟩, .string ⟨#[114, 115]⟩, .string ⟨#[97, 116]⟩, .string ⟨#[97, 45, 49, 46, 98]⟩, .string ⟨#[48]⟩] 9)) := (by repeat (first | exact Below.refl _ _ | assumption | refine below_drewN ?_ _ | refine Below.drew ?_ | refine Below.alloc ?_ (by simp <;> omega) _ | refine Below.setCell ?_ (by simp <;> omega) _))
  have kp := pick_any (w2.alloc (.cells #[.string ⟨#[97, 115]⟩, .string ⟨#[99, 49]⟩, .string ⟨#[99, 50]⟩, .string ⟨#[114, 115]⟩, .string ⟨#[97, 116]⟩, .string ⟨#[97, 45, 49, 46, 98]⟩, .string ⟨#[48]⟩] 9)) (w.heap.size + 1) B LA ns cap 0 w2.heap.size uHosts 7 (T2.only hal) (by omega) (hn2.below (hal.mono (by omega))) hf (by omega) (by decide) (by decide) (by omega) (by simp) (fun i hi => by
    simp [go_sem]; exact uHosts_at i hi)
  have t3 := t2.below hal
  have hb3 := hb2.trans (hal.mono hb2.size)
  have hs3 := hal.size
  have hn3 := hn2.below (hal.mono (by omega))
  rw [z2] at kp
  generalize w2.alloc (.cells #[.string ⟨#[97, 115]⟩, .string ⟨#[99, 49]⟩, .string ⟨#[99, 50]⟩, .string ⟨#[114, 115]⟩, .string ⟨#[97, 116]⟩, .string ⟨#[97, 45, 49, 46, 98]⟩, .string ⟨#[48]⟩] 9) = w3 at *
  refine kp.mono ?_
  rintro e w4 ⟨rfl, ho4, T4⟩
  rw [show ((uHosts.length : Nat) : Int) = 7 from rfl] at T4 ⊢
  have t4 := t3.only ho4 (by omega)
  have hn4 := hn3.only ho4 (by omega) (by omega)
  have hb4 := hb3.trans (ho4.toBelow (by omega) hb3.size)
  have hk4 := nextK_le ns 0 7 (by omega)
  have hs4 := ho4.size
  generalize hx : uHosts.getD (nextV ns 0 7).toNat ByteArray.empty = x at *
  have HXX : Hid (uHosts.getD (nextV ns 0 7).toNat ByteArray.empty = x) := hx
  generalize hk : nextK ns 0 7 = k1 at *
  have HKK : Hid (nextK ns 0 7 = k1) := hk
  clear hx hk kp hal ho4 T2 t2 t3 hb2 hb3 hn2 hn3
  go_wp2_with fail
  have hal : Below w4.heap.size w4 (w4.alloc (.cells #[.string ⟨#[47]⟩, .string ⟨#[47, 99, 98]⟩, .string ⟨#[47, 115, 116, 97, 114, 116]⟩, .string ⟨#[47, 97, 117, 116, 104, 111, 114, 105, 122, 101]⟩, .string ⟨#[47, 97, 47, 98, 47, 47]⟩, .string ⟨#[47, 126, 120, 95, 49, 46, 50, 45, 51]⟩] 9)) := (by repeat (first | exact Below.refl _ _ | assumption | refine below_drewN ?_ _ | refine Below.drew ?_ | refine Below.alloc ?_ (by simp <;> omega) _ | refine Below.setCell ?_ (by simp <;> omega) _))
  have kp := pick_any (w4.alloc (.cells #[.string ⟨#[47]⟩, .string ⟨#[47, 99, 98]⟩, .string ⟨#[47, 115, 116, 97, 114, 116]⟩, .string ⟨#[47, 97, 117, 116, 104, 111, 114, 105, 122, 101]⟩, .string ⟨#[47, 97, 47, 98, 47, 47]⟩, .string ⟨#[47, 126, 120, 95, 49, 46, 50, 45, 51]⟩] 9)) (w.heap.size + 1) B LA ns cap k1 w4.heap.size uPaths 6 (T4.only hal) (by omega) (hn4.below (hal.mono (by omega))) hf hk4 (by decide) (by decide) (by omega) (by simp) (fun i hi => by
    simp [go_sem]; exact uPaths_at i hi)
  have t5 := t4.below hal
  have hb5 := hb4.trans (hal.mono hb4.size)
  have hs5 := hal.size
  have hn5 := hn4.below (hal.mono (by omega))
  generalize w4.alloc (.cells #[.string ⟨#[47]⟩, .string ⟨#[47, 99, 98]⟩, .string ⟨#[47, 115, 116, 97, 114, 116]⟩, .string ⟨#[47, 97, 117, 116, 104, 111, 114, 105, 122, 101]⟩, .string ⟨#[47, 97, 47, 98, 47, 47]⟩, .string ⟨#[47, 126, 120, 95, 49, 46, 50, 45, 51]⟩] 9) = w5 at *
  refine kp.mono ?_
  rintro e w6 ⟨rfl, ho6, T6⟩
  rw [show ((uPaths.length : Nat) : Int) = 6 from rfl] at T6 ⊢
  have t6 := t5.only ho6 (by omega)
  have hn6 := hn5.only ho6 (by omega) (by omega)
  have hb6 := hb5.trans (ho6.toBelow (by omega) hb5.size)
  have hk6 := nextK_le ns k1 6 hk4
  have hs6 := ho6.size
  generalize hy : uPaths.getD (nextV ns k1 6).toNat ByteArray.empty = y at *
  have HYY : Hid (uPaths.getD (nextV ns k1 6).toNat ByteArray.empty = y) := hy
  generalize hk : nextK ns k1 6 = k2 at *
  have HK2 : Hid (nextK ns k1 6 = k2) := hk
  clear hy hk kp hal ho6 T4 t4 t5 hb4 hb5 hn4 hn5
  go_wp2_with fail
  refine (next_any w6 (w.heap.size + 1) B LA ns cap k2 6 T6 (by omega) hn6 hf (by omega) (by omega) hk6).mono ?_
  rintro e w7 ⟨rfl, ho7, T7⟩
  have t7 := t6.only ho7 (by omega)
  have hn7 := hn6.only ho7 (by omega) (by omega)
  have hb7 := hb6.trans (ho7.toBelow (by omega) hb6.size)
  have hs7 := ho7.size
  have e1 := nextV_lo ns k2 6
  have e2 := nextV_hi ns k2 6 (by omega)
  obtain ⟨m, hm⟩ : ∃ m : Nat, nextV ns k2 6 = (m : Int) := ⟨(nextV ns k2 6).toNat, by omega⟩
  have hm2 : (nextV ns k2 6).toNat = m := by omega
  rw [hm] at e2 ⊢
  have kf := fields10_any ns LA cap B m (by omega) w7 (by omega) hn7 hf
  have HU2 : Hid (uriU ns = (x, y, fldF ns m 0 [])) := by show _ = _; rw [HU.out, hm2]
  clear HU HXX HKK HYY HK2 hm hm2 ho7 T6 T7 t6 hb6 hn6 e1
  generalize fldF ns m 0 [] = l at *
  go_wp2_with fail
  refine kf.mono ?_
  rintro e w8 ⟨v, rfl, ho, hb⟩
  obtain ⟨A8, cp8, rfl⟩ := slice_ofF ho
  obtain ⟨c0, c1, c2, g0, g1, g2, tl⟩ := t7.below hb
  have HB8 : Hid (Below w.heap.size w w8) := hb7.trans (hb.mono hb7.size)
  have HO8 : Hid (OwnF w8 (w.heap.size + 1) (.slice A8 l.length cp8) l) := ho.lower (by omega)
  clear kf hb7 hb ho t7 hn7
  go_wp2_with fail
  rw [HU2.out]
  refine bodyPost_ret (v := .agg #[.string x, .string y, .slice A8 l.length cp8]) (by simp [results, Tryz.results13, go_sem, c0, c1, c2]) rfl ⟨_, rfl, ?_, ?_⟩
  · exact OwnF.lower (OwnF.only HO8.out (tb := w.heap.size) ((((Only.refl w.heap.size w8).setCell (p := ⟨w.heap.size, 0, none⟩) (.inl rfl) _).setCell (p := ⟨w.heap.size, 1, none⟩) (.inl rfl) _).setCell (p := ⟨w.heap.size, 2, none⟩) (.inl rfl) _) (by omega)) (by omega)
  · exact ((HB8.out.setCell (p := ⟨w.heap.size, 0, none⟩) (Nat.le_refl _) _).setCell (p := ⟨w.heap.size, 1, none⟩) (Nat.le_refl _) _).setCell (p := ⟨w.heap.size, 2, none⟩) (Nat.le_refl _) _

end Go.Proofs.YtfoeeocejcbmlaaGreatDoor
