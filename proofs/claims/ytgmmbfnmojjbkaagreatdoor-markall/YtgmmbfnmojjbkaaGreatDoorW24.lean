import Derived.Test.YtgmmbfnmojjbkaaGreatDoorW10
namespace Go.Proofs.YtgmmbfnmojjbkaaGreatDoor
open Go.RowKit
set_option linter.unusedVariables false
set_option linter.unusedSimpArgs false

def signB (p q : Bool) : Int := if p then -1 else if q then 1 else 0

theorem sign_any (p q : Bool) (w : World) :
    Calls Tryz.prog 52 #[.bool p, .bool q] w fun e w' => e = .returned (.int .i64 (signB p q)) ∧ w' = w := by
  cases p <;> cases q <;>
  · go_enter Tryz.func52, Tryz.ntmps52
    go_wp2_with fail
    go_ret
    exact ⟨rfl, rfl⟩

theorem sign_cmp (x y : Int) (w : World) :
    Calls Tryz.prog 52 #[.bool (decide (x < y)), .bool (decide (y < x))] w fun e w' => e = .returned (.int .i64 (cmpI x y)) ∧ w' = w := by
  have h : signB (decide (x < y)) (decide (y < x)) = cmpI x y := by simp [signB, cmpI]
  rw [← h]; exact sign_any _ _ _

theorem sign_bytes : ∀ x y : List UInt8, signB (Op.bytesLess x y) (!Op.bytesLess x y && !(x == y)) = Lib.compareBytes x y
  | [], [] => by simp [Op.bytesLess, signB, Lib.compareBytes]
  | [], _ :: _ => by simp [Op.bytesLess, signB, Lib.compareBytes]
  | _ :: _, [] => by simp [Op.bytesLess, signB, Lib.compareBytes]
  | a :: x, b :: y => by
    have ih := sign_bytes x y
    rw [Lib.compareBytes, Op.bytesLess]
    by_cases h1 : a < b
    · simp [h1, signB]
    · by_cases h2 : b < a
      · have h3 : a ≠ b := by intro e; subst e; exact h1 h2
        simp [h1, h2, h3, signB]
      · have h3 : a = b := UInt8.le_antisymm (UInt8.not_lt.1 h2) (UInt8.not_lt.1 h1)
        subst h3
        simp [h1, signB] at ih ⊢
        exact ih

theorem sign_str (x y : ByteArray) (w : World) :
    Calls Tryz.prog 52 #[.bool (Op.bytesLess x.toList y.toList), .bool (!Op.bytesLess x.toList y.toList && !x.toList == y.toList)] w fun e w' => e = .returned (.int .i64 (cmpS x y)) ∧ w' = w := by
  have h : signB (Op.bytesLess x.toList y.toList) (!Op.bytesLess x.toList y.toList && !x.toList == y.toList) = cmpS x y := by rw [sign_bytes, ByteArray.toList_eq, ByteArray.toList_eq]; rfl
  rw [← h]; exact sign_any _ _ _

def RefOrd (a : Nd) (l : Fo) : Prop := ∀ (v u : Value) (b : Nd) (m : Fo) (B : Nat) (w : World), RepV w B a l v → RepV w B b m u → B ≤ w.heap.size →
    (flen l : Int) = kidsOf a.kind → (flen m : Int) = kidsOf b.kind → ArF l → ArF m →
    Calls Tryz.prog 35 #[v, u] w fun e w' => e = .returned (.int .i64 (ordT a l b m)) ∧ Below w.heap.size w w'

set_option maxRecDepth 100000 in
set_option maxHeartbeats 4000000 in
theorem refOrd_step (a : Nd) (l : Fo) (ih : AllF RefOrd l) : RefOrd a l := by
  rintro v u b m B w ⟨hf, A, cap, b0, o0, rfl, hn, hA, hr⟩ ⟨hg, A', cap', b0', o0', rfl, hn', hA', hr'⟩ hB k1 k2 ar1 ar2
  have HA : Hid (flen l = 0 ∨ A = some ⟨b0, o0, none⟩) := hA
  have HA' : Hid (flen m = 0 ∨ A' = some ⟨b0', o0', none⟩) := hA'
  have K1 : Hid ((flen l : Int) = kidsOf a.kind) := k1
  have K2 : Hid ((flen m : Int) = kidsOf b.kind) := k2
  clear hA hA' k1 k2
  go_enter Tryz.func35, Tryz.ntmps35
  go_wp2_with fail
  refine (sign_cmp a.kind b.kind _).mono ?_
  rintro e w' ⟨rfl, rfl⟩
  have hx1 : ordN a b = orI (cmpI a.kind b.kind) (orI (cmpI a.n b.n) (cmpS a.s b.s)) := rfl
  generalize cmpI a.kind b.kind = x1 at *
  have Hx1 : Hid (ordN a b = orI x1 (orI (cmpI a.n b.n) (cmpS a.s b.s))) := hx1
  clear hx1
  by_cases h1 : x1 = 0
  · subst h1
    go_wp2_with fail
    refine (sign_cmp a.n b.n _).mono ?_
    rintro e w' ⟨rfl, rfl⟩
    generalize cmpI a.n b.n = x2 at *
    by_cases h2 : x2 = 0
    · subst h2
      go_wp2_with fail
      refine (sign_str a.s b.s _).mono ?_
      rintro e w' ⟨rfl, rfl⟩
      generalize cmpS a.s b.s = x at *
      have Hx : Hid (ordN a b = x) := by show ordN a b = x; rw [Hx1.out]; simp [orI]
      clear Hx1
      go_wp2_with fail
      have hlen : Hid (x = 0 → flen m = flen l) := fun hx => by have h1 := K1.out; have h2 := K2.out; rw [ordN_kind a b (by rw [Hx.out, hx])] at h1; omega
      have HT : Hid (ordT a l b m = orI x (ordF l m)) := by show ordT a l b m = _; rw [ordT, Hx.out]
      go_loopw [5, 6] (fun cv iv wr => ∃ (i : Nat) (c : Int), cv = .int .i64 c ∧ iv = .int .i64 (i : Int) ∧ i ≤ flen l ∧ Below w.heap.size w wr ∧ w.heap.size + 1 < wr.heap.size ∧ wr.cell? ⟨w.heap.size, 3, none⟩ = some (.slice A (flen l) cap) ∧ wr.cell? ⟨w.heap.size + 1, 3, none⟩ = some (.slice A' (flen m) cap') ∧
          ((c ≠ 0 ∧ ordT a l b m = c) ∨ (c = 0 ∧ flen m = flen l ∧ ∃ g h : Fo, i + flen g = flen l ∧ flen h = flen g ∧ AllF RefOrd g ∧ ArF g ∧ ArF h ∧ RepF wr B g b0 (o0 + i * 4) ∧ RepF wr B h b0' (o0' + i * 4) ∧ ordT a l b m = ordF g h))) (fun _ iv _ => flen l - (intOf iv).toNat)
      case atStart =>
        refine ⟨0, x, rfl, rfl, Nat.zero_le _, (by repeat (first | exact Below.refl _ _ | assumption | refine below_drewN ?_ _ | refine Below.drew ?_ | refine Below.alloc ?_ (by simp <;> omega) _ | refine Below.setCell ?_ (by simp <;> omega) _)), by simp, by simp [go_sem], by simp [go_sem], ?_⟩
        by_cases hx : x = 0
        · refine .inr ⟨hx, hlen.out hx, l, m, by simp, hlen.out hx, ih, ar1, ar2, ?_, ?_, by rw [HT.out, hx, orI, if_pos rfl]⟩
          · rw [show o0 + 0 * 4 = o0 from by omega]
            exact RepF.keep (Nat.le_refl _) (fun b' o' hb' => Below.cell (B := w.heap.size) (by repeat (first | exact Below.refl _ _ | assumption | refine below_drewN ?_ _ | refine Below.drew ?_ | refine Below.alloc ?_ (by simp <;> omega) _ | refine Below.setCell ?_ (by simp <;> omega) _)) (by simp; omega)) hr
          · rw [show o0' + 0 * 4 = o0' from by omega]
            exact RepF.keep (Nat.le_refl _) (fun b' o' hb' => Below.cell (B := w.heap.size) (by repeat (first | exact Below.refl _ _ | assumption | refine below_drewN ?_ _ | refine Below.drew ?_ | refine Below.alloc ?_ (by simp <;> omega) _ | refine Below.setCell ?_ (by simp <;> omega) _)) (by simp; omega)) hr'
        · exact .inl ⟨hx, by rw [HT.out, orI, if_neg hx]⟩
      case round =>
        obtain ⟨i, c, rfl, rfl, hiN, hbl, hsz, hbx, hbx', hcase⟩ := hrel
        clear HT hlen
        rcases hcase with ⟨hc, hT⟩ | ⟨rfl, hlm, g, h, hi, hgh, hg1, ag, ah, rg, rh, hT⟩
        · have HTc : Hid (ordT a l b m = c) := hT
          clear hT
          have hc' : (c == 0) = false := by simp [hc]
          go_wp2_with fail
          all_goals go_ret
          all_goals exact ⟨ret_int HTc.out.symm, hbl⟩
        · have HTg : Hid (ordT a l b m = ordF g h) := hT
          have Hlm : Hid (flen m = flen l) := hlm
          clear hT hlm
          cases g with
          | nil =>
            cases h with
            | node => simp [flen] at hgh
            | nil =>
              simp only [flen] at hi
              have hlm := Hlm.out
              go_wp2_with fail
              refine (sign_any _ _ _).mono ?_
              rintro e w' ⟨rfl, rfl⟩
              go_wp2_with fail
              go_ret
              exact ⟨ret_int (by rw [HTg.out, ordF]; simp [signB]), hbl⟩
          | node c1 d1 a1 l1 r1 =>
            cases h with
            | nil => simp [flen] at hgh
            | node c2 d2 a2 l2 r2 =>
              obtain ⟨hb1, hf1, e0, e1, e2, ⟨A1, cap1, b2, o2, e3, hn1, hA1, hl1⟩, hr1⟩ := rg
              obtain ⟨hb1', hf1', e0', e1', e2', ⟨A2, cap2, b3, o3, e3', hn2, hA2, hl2⟩, hr2⟩ := rh
              obtain ⟨hw1, hgr⟩ := hg1
              obtain ⟨ka, al, arr⟩ := ag
              obtain ⟨kb, bl, brr⟩ := ah
              simp only [flen] at hi hgh
              have hi' : i < flen l := by omega
              have hi2 : i < flen m := by have := Hlm.out; omega
              obtain rfl : A = some ⟨b0, o0, none⟩ := by rcases HA.out with h | h; omega; exact h
              obtain rfl : A' = some ⟨b0', o0', none⟩ := by rcases HA'.out with h | h; omega; exact h
              have HA1 : Hid (flen l1 = 0 ∨ A1 = some ⟨b2, o2, none⟩) := hA1
              have HA2 : Hid (flen l2 = 0 ∨ A2 = some ⟨b3, o3, none⟩) := hA2
              have Ka : Hid ((flen l1 : Int) = kidsOf a1.kind) := ka
              have Kb : Hid ((flen l2 : Int) = kidsOf a2.kind) := kb
              clear hA1 hA2 ka kb
              have hzB : B ≤ wr.heap.size := by have := hbl.size; omega
              go_wp2_with fail
              go_region_held3 (fun w' => w'.cell? ⟨w.heap.size, 3, none⟩ = some (.slice (some ⟨b0, o0, none⟩) (flen l) cap) ∧ w'.cell? ⟨w.heap.size + 1, 3, none⟩ = some (.slice (some ⟨b0', o0', none⟩) (flen m) cap') ∧
                  w'.cell? ⟨b0, o0 + i * 4, none⟩ = some (.int .i64 a1.kind) ∧ w'.cell? ⟨b0, o0 + i * 4 + 1, none⟩ = some (.int .i64 a1.n) ∧ w'.cell? ⟨b0, o0 + i * 4 + 2, none⟩ = some (.string a1.s) ∧ w'.cell? ⟨b0, o0 + i * 4 + 3, none⟩ = some (.slice A1 (flen l1) cap1) ∧
                  w'.cell? ⟨b0', o0' + i * 4, none⟩ = some (.int .i64 a2.kind) ∧ w'.cell? ⟨b0', o0' + i * 4 + 1, none⟩ = some (.int .i64 a2.n) ∧ w'.cell? ⟨b0', o0' + i * 4 + 2, none⟩ = some (.string a2.s) ∧ w'.cell? ⟨b0', o0' + i * 4 + 3, none⟩ = some (.slice A2 (flen l2) cap2))
                (first | exact ⟨hbx, hbx', e0, e1, e2, e3, e0', e1', e2', e3'⟩ | (refine ⟨?_, ?_, ?_, ?_, ?_, ?_, ?_, ?_, ?_, ?_⟩ <;> (rw [ho2.cell (by simp [World.heap_size_drew'] <;> omega)]; first | exact hbx | exact hbx' | exact e0 | exact e1 | exact e2 | exact e3 | exact e0' | exact e1' | exact e2' | exact e3')))
                (first
                  | (go_at_call 35; refine (hw1 _ _ a2 l2 B _ ⟨hf1, A1, cap1, b2, o2, rfl, hn1, HA1.out, ?_⟩ ⟨hf1', A2, cap2, b3, o3, rfl, hn2, HA2.out, ?_⟩ (by simpa [World.heap_size_drew'] using hzB) Ka.out Kb.out al bl).mono ?_; exact (hl1.drew); exact (hl2.drew); rintro e w2 ⟨rfl, ho2⟩))
              generalize hy0 : ordT a1 l1 a2 l2 = y at *
              have Hy : Hid (ordT a1 l1 a2 l2 = y) := hy0
              clear hy0
              have ho3 : Below wr.heap.size wr w2 := (Below.drew (Below.refl _ _)).trans ho2
              go_wp2_with fail
              go_roundw
              case rel =>
                refine ⟨i + 1, y, rfl, by go_num, by omega, hbl.trans (ho3.mono (by omega)), by have := ho3.size; omega, ?_, ?_, ?_⟩
                · rw [ho3.cell (by simp; omega)]; exact hbx
                · rw [ho3.cell (by simp; omega)]; exact hbx'
                · by_cases hy : y = 0
                  · refine .inr ⟨hy, Hlm.out, r1, r2, by omega, by omega, hgr, arr, brr, ?_, ?_, ?_⟩
                    · rw [show o0 + (i + 1) * 4 = o0 + i * 4 + 4 from by omega]
                      exact RepF.keep (Nat.le_refl _) (fun b' o' hb' => ho3.cell (by simp; omega)) hr1
                    · rw [show o0' + (i + 1) * 4 = o0' + i * 4 + 4 from by omega]
                      exact RepF.keep (Nat.le_refl _) (fun b' o' hb' => ho3.cell (by simp; omega)) hr2
                    · rw [HTg.out, ordF_node, Hy.out, orI, if_pos hy]
                  · exact .inl ⟨hy, by rw [HTg.out, ordF_node, Hy.out, orI, if_neg hy]⟩
              case measure => simp [intOf]; omega
    · generalize cmpS a.s b.s = x3 at *
      have Hx : Hid (ordN a b = x2) := by show ordN a b = x2; rw [Hx1.out]; simp [orI, h2]
      clear Hx1
      have h2' : (x2 == 0) = false := by simp [h2]
      go_wp2_with fail
      clear h2'
      obtain ⟨x, rfl⟩ : ∃ x : Int, x = x2 := ⟨_, rfl⟩
      have hlen : Hid (x = 0 → flen m = flen l) := fun hx => by have h1 := K1.out; have h2 := K2.out; rw [ordN_kind a b (by rw [Hx.out, hx])] at h1; omega
      have HT : Hid (ordT a l b m = orI x (ordF l m)) := by show ordT a l b m = _; rw [ordT, Hx.out]
      go_loopw [5, 6] (fun cv iv wr => ∃ (i : Nat) (c : Int), cv = .int .i64 c ∧ iv = .int .i64 (i : Int) ∧ i ≤ flen l ∧ Below w.heap.size w wr ∧ w.heap.size + 1 < wr.heap.size ∧ wr.cell? ⟨w.heap.size, 3, none⟩ = some (.slice A (flen l) cap) ∧ wr.cell? ⟨w.heap.size + 1, 3, none⟩ = some (.slice A' (flen m) cap') ∧
          ((c ≠ 0 ∧ ordT a l b m = c) ∨ (c = 0 ∧ flen m = flen l ∧ ∃ g h : Fo, i + flen g = flen l ∧ flen h = flen g ∧ AllF RefOrd g ∧ ArF g ∧ ArF h ∧ RepF wr B g b0 (o0 + i * 4) ∧ RepF wr B h b0' (o0' + i * 4) ∧ ordT a l b m = ordF g h))) (fun _ iv _ => flen l - (intOf iv).toNat)
      case atStart =>
        refine ⟨0, x, rfl, rfl, Nat.zero_le _, (by repeat (first | exact Below.refl _ _ | assumption | refine below_drewN ?_ _ | refine Below.drew ?_ | refine Below.alloc ?_ (by simp <;> omega) _ | refine Below.setCell ?_ (by simp <;> omega) _)), by simp, by simp [go_sem], by simp [go_sem], ?_⟩
        by_cases hx : x = 0
        · refine .inr ⟨hx, hlen.out hx, l, m, by simp, hlen.out hx, ih, ar1, ar2, ?_, ?_, by rw [HT.out, hx, orI, if_pos rfl]⟩
          · rw [show o0 + 0 * 4 = o0 from by omega]
            exact RepF.keep (Nat.le_refl _) (fun b' o' hb' => Below.cell (B := w.heap.size) (by repeat (first | exact Below.refl _ _ | assumption | refine below_drewN ?_ _ | refine Below.drew ?_ | refine Below.alloc ?_ (by simp <;> omega) _ | refine Below.setCell ?_ (by simp <;> omega) _)) (by simp; omega)) hr
          · rw [show o0' + 0 * 4 = o0' from by omega]
            exact RepF.keep (Nat.le_refl _) (fun b' o' hb' => Below.cell (B := w.heap.size) (by repeat (first | exact Below.refl _ _ | assumption | refine below_drewN ?_ _ | refine Below.drew ?_ | refine Below.alloc ?_ (by simp <;> omega) _ | refine Below.setCell ?_ (by simp <;> omega) _)) (by simp; omega)) hr'
        · exact .inl ⟨hx, by rw [HT.out, orI, if_neg hx]⟩
      case round =>
        obtain ⟨i, c, rfl, rfl, hiN, hbl, hsz, hbx, hbx', hcase⟩ := hrel
        clear HT hlen
        rcases hcase with ⟨hc, hT⟩ | ⟨rfl, hlm, g, h, hi, hgh, hg1, ag, ah, rg, rh, hT⟩
        · have HTc : Hid (ordT a l b m = c) := hT
          clear hT
          have hc' : (c == 0) = false := by simp [hc]
          go_wp2_with fail
          all_goals go_ret
          all_goals exact ⟨ret_int HTc.out.symm, hbl⟩
        · have HTg : Hid (ordT a l b m = ordF g h) := hT
          have Hlm : Hid (flen m = flen l) := hlm
          clear hT hlm
          cases g with
          | nil =>
            cases h with
            | node => simp [flen] at hgh
            | nil =>
              simp only [flen] at hi
              have hlm := Hlm.out
              go_wp2_with fail
              refine (sign_any _ _ _).mono ?_
              rintro e w' ⟨rfl, rfl⟩
              go_wp2_with fail
              go_ret
              exact ⟨ret_int (by rw [HTg.out, ordF]; simp [signB]), hbl⟩
          | node c1 d1 a1 l1 r1 =>
            cases h with
            | nil => simp [flen] at hgh
            | node c2 d2 a2 l2 r2 =>
              obtain ⟨hb1, hf1, e0, e1, e2, ⟨A1, cap1, b2, o2, e3, hn1, hA1, hl1⟩, hr1⟩ := rg
              obtain ⟨hb1', hf1', e0', e1', e2', ⟨A2, cap2, b3, o3, e3', hn2, hA2, hl2⟩, hr2⟩ := rh
              obtain ⟨hw1, hgr⟩ := hg1
              obtain ⟨ka, al, arr⟩ := ag
              obtain ⟨kb, bl, brr⟩ := ah
              simp only [flen] at hi hgh
              have hi' : i < flen l := by omega
              have hi2 : i < flen m := by have := Hlm.out; omega
              obtain rfl : A = some ⟨b0, o0, none⟩ := by rcases HA.out with h | h; omega; exact h
              obtain rfl : A' = some ⟨b0', o0', none⟩ := by rcases HA'.out with h | h; omega; exact h
              have HA1 : Hid (flen l1 = 0 ∨ A1 = some ⟨b2, o2, none⟩) := hA1
              have HA2 : Hid (flen l2 = 0 ∨ A2 = some ⟨b3, o3, none⟩) := hA2
              have Ka : Hid ((flen l1 : Int) = kidsOf a1.kind) := ka
              have Kb : Hid ((flen l2 : Int) = kidsOf a2.kind) := kb
              clear hA1 hA2 ka kb
              have hzB : B ≤ wr.heap.size := by have := hbl.size; omega
              go_wp2_with fail
              go_region_held3 (fun w' => w'.cell? ⟨w.heap.size, 3, none⟩ = some (.slice (some ⟨b0, o0, none⟩) (flen l) cap) ∧ w'.cell? ⟨w.heap.size + 1, 3, none⟩ = some (.slice (some ⟨b0', o0', none⟩) (flen m) cap') ∧
                  w'.cell? ⟨b0, o0 + i * 4, none⟩ = some (.int .i64 a1.kind) ∧ w'.cell? ⟨b0, o0 + i * 4 + 1, none⟩ = some (.int .i64 a1.n) ∧ w'.cell? ⟨b0, o0 + i * 4 + 2, none⟩ = some (.string a1.s) ∧ w'.cell? ⟨b0, o0 + i * 4 + 3, none⟩ = some (.slice A1 (flen l1) cap1) ∧
                  w'.cell? ⟨b0', o0' + i * 4, none⟩ = some (.int .i64 a2.kind) ∧ w'.cell? ⟨b0', o0' + i * 4 + 1, none⟩ = some (.int .i64 a2.n) ∧ w'.cell? ⟨b0', o0' + i * 4 + 2, none⟩ = some (.string a2.s) ∧ w'.cell? ⟨b0', o0' + i * 4 + 3, none⟩ = some (.slice A2 (flen l2) cap2))
                (first | exact ⟨hbx, hbx', e0, e1, e2, e3, e0', e1', e2', e3'⟩ | (refine ⟨?_, ?_, ?_, ?_, ?_, ?_, ?_, ?_, ?_, ?_⟩ <;> (rw [ho2.cell (by simp [World.heap_size_drew'] <;> omega)]; first | exact hbx | exact hbx' | exact e0 | exact e1 | exact e2 | exact e3 | exact e0' | exact e1' | exact e2' | exact e3')))
                (first
                  | (go_at_call 35; refine (hw1 _ _ a2 l2 B _ ⟨hf1, A1, cap1, b2, o2, rfl, hn1, HA1.out, ?_⟩ ⟨hf1', A2, cap2, b3, o3, rfl, hn2, HA2.out, ?_⟩ (by simpa [World.heap_size_drew'] using hzB) Ka.out Kb.out al bl).mono ?_; exact (hl1.drew); exact (hl2.drew); rintro e w2 ⟨rfl, ho2⟩))
              generalize hy0 : ordT a1 l1 a2 l2 = y at *
              have Hy : Hid (ordT a1 l1 a2 l2 = y) := hy0
              clear hy0
              have ho3 : Below wr.heap.size wr w2 := (Below.drew (Below.refl _ _)).trans ho2
              go_wp2_with fail
              go_roundw
              case rel =>
                refine ⟨i + 1, y, rfl, by go_num, by omega, hbl.trans (ho3.mono (by omega)), by have := ho3.size; omega, ?_, ?_, ?_⟩
                · rw [ho3.cell (by simp; omega)]; exact hbx
                · rw [ho3.cell (by simp; omega)]; exact hbx'
                · by_cases hy : y = 0
                  · refine .inr ⟨hy, Hlm.out, r1, r2, by omega, by omega, hgr, arr, brr, ?_, ?_, ?_⟩
                    · rw [show o0 + (i + 1) * 4 = o0 + i * 4 + 4 from by omega]
                      exact RepF.keep (Nat.le_refl _) (fun b' o' hb' => ho3.cell (by simp; omega)) hr1
                    · rw [show o0' + (i + 1) * 4 = o0' + i * 4 + 4 from by omega]
                      exact RepF.keep (Nat.le_refl _) (fun b' o' hb' => ho3.cell (by simp; omega)) hr2
                    · rw [HTg.out, ordF_node, Hy.out, orI, if_pos hy]
                  · exact .inl ⟨hy, by rw [HTg.out, ordF_node, Hy.out, orI, if_neg hy]⟩
              case measure => simp [intOf]; omega
  · have Hx : Hid (ordN a b = x1) := by show ordN a b = x1; rw [Hx1.out]; simp [orI, h1]
    clear Hx1
    have h1' : (x1 == 0) = false := by simp [h1]
    go_wp2_with fail
    clear h1'
    obtain ⟨x, rfl⟩ : ∃ x : Int, x = x1 := ⟨_, rfl⟩
    · have hlen : Hid (x = 0 → flen m = flen l) := fun hx => by have h1 := K1.out; have h2 := K2.out; rw [ordN_kind a b (by rw [Hx.out, hx])] at h1; omega
      have HT : Hid (ordT a l b m = orI x (ordF l m)) := by show ordT a l b m = _; rw [ordT, Hx.out]
      go_loopw [5, 6] (fun cv iv wr => ∃ (i : Nat) (c : Int), cv = .int .i64 c ∧ iv = .int .i64 (i : Int) ∧ i ≤ flen l ∧ Below w.heap.size w wr ∧ w.heap.size + 1 < wr.heap.size ∧ wr.cell? ⟨w.heap.size, 3, none⟩ = some (.slice A (flen l) cap) ∧ wr.cell? ⟨w.heap.size + 1, 3, none⟩ = some (.slice A' (flen m) cap') ∧
          ((c ≠ 0 ∧ ordT a l b m = c) ∨ (c = 0 ∧ flen m = flen l ∧ ∃ g h : Fo, i + flen g = flen l ∧ flen h = flen g ∧ AllF RefOrd g ∧ ArF g ∧ ArF h ∧ RepF wr B g b0 (o0 + i * 4) ∧ RepF wr B h b0' (o0' + i * 4) ∧ ordT a l b m = ordF g h))) (fun _ iv _ => flen l - (intOf iv).toNat)
      case atStart =>
        refine ⟨0, x, rfl, rfl, Nat.zero_le _, (by repeat (first | exact Below.refl _ _ | assumption | refine below_drewN ?_ _ | refine Below.drew ?_ | refine Below.alloc ?_ (by simp <;> omega) _ | refine Below.setCell ?_ (by simp <;> omega) _)), by simp, by simp [go_sem], by simp [go_sem], ?_⟩
        by_cases hx : x = 0
        · refine .inr ⟨hx, hlen.out hx, l, m, by simp, hlen.out hx, ih, ar1, ar2, ?_, ?_, by rw [HT.out, hx, orI, if_pos rfl]⟩
          · rw [show o0 + 0 * 4 = o0 from by omega]
            exact RepF.keep (Nat.le_refl _) (fun b' o' hb' => Below.cell (B := w.heap.size) (by repeat (first | exact Below.refl _ _ | assumption | refine below_drewN ?_ _ | refine Below.drew ?_ | refine Below.alloc ?_ (by simp <;> omega) _ | refine Below.setCell ?_ (by simp <;> omega) _)) (by simp; omega)) hr
          · rw [show o0' + 0 * 4 = o0' from by omega]
            exact RepF.keep (Nat.le_refl _) (fun b' o' hb' => Below.cell (B := w.heap.size) (by repeat (first | exact Below.refl _ _ | assumption | refine below_drewN ?_ _ | refine Below.drew ?_ | refine Below.alloc ?_ (by simp <;> omega) _ | refine Below.setCell ?_ (by simp <;> omega) _)) (by simp; omega)) hr'
        · exact .inl ⟨hx, by rw [HT.out, orI, if_neg hx]⟩
      case round =>
        obtain ⟨i, c, rfl, rfl, hiN, hbl, hsz, hbx, hbx', hcase⟩ := hrel
        clear HT hlen
        rcases hcase with ⟨hc, hT⟩ | ⟨rfl, hlm, g, h, hi, hgh, hg1, ag, ah, rg, rh, hT⟩
        · have HTc : Hid (ordT a l b m = c) := hT
          clear hT
          have hc' : (c == 0) = false := by simp [hc]
          go_wp2_with fail
          all_goals go_ret
          all_goals exact ⟨ret_int HTc.out.symm, hbl⟩
        · have HTg : Hid (ordT a l b m = ordF g h) := hT
          have Hlm : Hid (flen m = flen l) := hlm
          clear hT hlm
          cases g with
          | nil =>
            cases h with
            | node => simp [flen] at hgh
            | nil =>
              simp only [flen] at hi
              have hlm := Hlm.out
              go_wp2_with fail
              refine (sign_any _ _ _).mono ?_
              rintro e w' ⟨rfl, rfl⟩
              go_wp2_with fail
              go_ret
              exact ⟨ret_int (by rw [HTg.out, ordF]; simp [signB]), hbl⟩
          | node c1 d1 a1 l1 r1 =>
            cases h with
            | nil => simp [flen] at hgh
            | node c2 d2 a2 l2 r2 =>
              obtain ⟨hb1, hf1, e0, e1, e2, ⟨A1, cap1, b2, o2, e3, hn1, hA1, hl1⟩, hr1⟩ := rg
              obtain ⟨hb1', hf1', e0', e1', e2', ⟨A2, cap2, b3, o3, e3', hn2, hA2, hl2⟩, hr2⟩ := rh
              obtain ⟨hw1, hgr⟩ := hg1
              obtain ⟨ka, al, arr⟩ := ag
              obtain ⟨kb, bl, brr⟩ := ah
              simp only [flen] at hi hgh
              have hi' : i < flen l := by omega
              have hi2 : i < flen m := by have := Hlm.out; omega
              obtain rfl : A = some ⟨b0, o0, none⟩ := by rcases HA.out with h | h; omega; exact h
              obtain rfl : A' = some ⟨b0', o0', none⟩ := by rcases HA'.out with h | h; omega; exact h
              have HA1 : Hid (flen l1 = 0 ∨ A1 = some ⟨b2, o2, none⟩) := hA1
              have HA2 : Hid (flen l2 = 0 ∨ A2 = some ⟨b3, o3, none⟩) := hA2
              have Ka : Hid ((flen l1 : Int) = kidsOf a1.kind) := ka
              have Kb : Hid ((flen l2 : Int) = kidsOf a2.kind) := kb
              clear hA1 hA2 ka kb
              have hzB : B ≤ wr.heap.size := by have := hbl.size; omega
              go_wp2_with fail
              go_region_held3 (fun w' => w'.cell? ⟨w.heap.size, 3, none⟩ = some (.slice (some ⟨b0, o0, none⟩) (flen l) cap) ∧ w'.cell? ⟨w.heap.size + 1, 3, none⟩ = some (.slice (some ⟨b0', o0', none⟩) (flen m) cap') ∧
                  w'.cell? ⟨b0, o0 + i * 4, none⟩ = some (.int .i64 a1.kind) ∧ w'.cell? ⟨b0, o0 + i * 4 + 1, none⟩ = some (.int .i64 a1.n) ∧ w'.cell? ⟨b0, o0 + i * 4 + 2, none⟩ = some (.string a1.s) ∧ w'.cell? ⟨b0, o0 + i * 4 + 3, none⟩ = some (.slice A1 (flen l1) cap1) ∧
                  w'.cell? ⟨b0', o0' + i * 4, none⟩ = some (.int .i64 a2.kind) ∧ w'.cell? ⟨b0', o0' + i * 4 + 1, none⟩ = some (.int .i64 a2.n) ∧ w'.cell? ⟨b0', o0' + i * 4 + 2, none⟩ = some (.string a2.s) ∧ w'.cell? ⟨b0', o0' + i * 4 + 3, none⟩ = some (.slice A2 (flen l2) cap2))
                (first | exact ⟨hbx, hbx', e0, e1, e2, e3, e0', e1', e2', e3'⟩ | (refine ⟨?_, ?_, ?_, ?_, ?_, ?_, ?_, ?_, ?_, ?_⟩ <;> (rw [ho2.cell (by simp [World.heap_size_drew'] <;> omega)]; first | exact hbx | exact hbx' | exact e0 | exact e1 | exact e2 | exact e3 | exact e0' | exact e1' | exact e2' | exact e3')))
                (first
                  | (go_at_call 35; refine (hw1 _ _ a2 l2 B _ ⟨hf1, A1, cap1, b2, o2, rfl, hn1, HA1.out, ?_⟩ ⟨hf1', A2, cap2, b3, o3, rfl, hn2, HA2.out, ?_⟩ (by simpa [World.heap_size_drew'] using hzB) Ka.out Kb.out al bl).mono ?_; exact (hl1.drew); exact (hl2.drew); rintro e w2 ⟨rfl, ho2⟩))
              generalize hy0 : ordT a1 l1 a2 l2 = y at *
              have Hy : Hid (ordT a1 l1 a2 l2 = y) := hy0
              clear hy0
              have ho3 : Below wr.heap.size wr w2 := (Below.drew (Below.refl _ _)).trans ho2
              go_wp2_with fail
              go_roundw
              case rel =>
                refine ⟨i + 1, y, rfl, by go_num, by omega, hbl.trans (ho3.mono (by omega)), by have := ho3.size; omega, ?_, ?_, ?_⟩
                · rw [ho3.cell (by simp; omega)]; exact hbx
                · rw [ho3.cell (by simp; omega)]; exact hbx'
                · by_cases hy : y = 0
                  · refine .inr ⟨hy, Hlm.out, r1, r2, by omega, by omega, hgr, arr, brr, ?_, ?_, ?_⟩
                    · rw [show o0 + (i + 1) * 4 = o0 + i * 4 + 4 from by omega]
                      exact RepF.keep (Nat.le_refl _) (fun b' o' hb' => ho3.cell (by simp; omega)) hr1
                    · rw [show o0' + (i + 1) * 4 = o0' + i * 4 + 4 from by omega]
                      exact RepF.keep (Nat.le_refl _) (fun b' o' hb' => ho3.cell (by simp; omega)) hr2
                    · rw [HTg.out, ordF_node, Hy.out, orI, if_pos hy]
                  · exact .inl ⟨hy, by rw [HTg.out, ordF_node, Hy.out, orI, if_neg hy]⟩
              case measure => simp [intOf]; omega

theorem refOrd_all : ∀ f : Fo, AllF RefOrd f
  | .nil => trivial
  | .node _ _ a l r => ⟨refOrd_step a l (refOrd_all l), refOrd_all r⟩

theorem refOrd_any (a : Nd) (l : Fo) : RefOrd a l := refOrd_step a l (refOrd_all l)

end Go.Proofs.YtgmmbfnmojjbkaaGreatDoor
