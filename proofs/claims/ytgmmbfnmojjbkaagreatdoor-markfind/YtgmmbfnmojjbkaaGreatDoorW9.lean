import Derived.Test.YtgmmbfnmojjbkaaGreatDoorW8
namespace Go.Proofs.YtgmmbfnmojjbkaaGreatDoor
open Go.RowKit
set_option linter.unusedVariables false
set_option linter.unusedSimpArgs false

/-- By Kind, then by N, then by S. -/
def ordN (a b : Nd) : Int := orI (cmpI a.kind b.kind) (orI (cmpI a.n b.n) (cmpS a.s b.s))

/-- Rows of terms, one by one; a shorter one that is a front stands ahead. -/
def ordF : Fo → Fo → Int
  | .nil, .nil => 0
  | .nil, .node .. => -1
  | .node .., .nil => 1
  | .node _ _ a l r, .node _ _ b m s => orI (ordN a b) (orI (ordF l m) (ordF r s))

def ordT (a : Nd) (l : Fo) (b : Nd) (m : Fo) : Int := orI (ordN a b) (ordF l m)

theorem ordF_node (b1 o1 b2 o2 : Nat) (a : Nd) (l r : Fo) (b : Nd) (m s : Fo) : ordF (.node b1 o1 a l r) (.node b2 o2 b m s) = orI (ordT a l b m) (ordF r s) := by
  rw [ordF, ordT]; unfold orI; split <;> simp_all

/-- Each node has as many kids as its kind says. -/
def ArF : Fo → Prop
  | .nil => True
  | .node _ _ a l r => (flen l : Int) = kidsOf a.kind ∧ ArF l ∧ ArF r

theorem orI_range (x y : Int) (hx : -1 ≤ x ∧ x ≤ 1) (hy : -1 ≤ y ∧ y ≤ 1) : -1 ≤ orI x y ∧ orI x y ≤ 1 := by unfold orI; split <;> omega
theorem cmpI_range (x y : Int) : -1 ≤ cmpI x y ∧ cmpI x y ≤ 1 := by
  unfold cmpI; split
  · omega
  · split <;> omega
theorem ordN_range (a b : Nd) : -1 ≤ ordN a b ∧ ordN a b ≤ 1 := orI_range _ _ (cmpI_range _ _) (orI_range _ _ (cmpI_range _ _) (cmpS_small _ _))
theorem ordF_range : ∀ f g : Fo, -1 ≤ ordF f g ∧ ordF f g ≤ 1
  | .nil, .nil => by decide
  | .nil, .node .. => by simp [ordF]
  | .node .., .nil => by simp [ordF]
  | .node _ _ a l r, .node _ _ b m s => by rw [ordF]; exact orI_range _ _ (ordN_range _ _) (orI_range _ _ (ordF_range l m) (ordF_range r s))

theorem ordN_kind (a b : Nd) (h : ordN a b = 0) : a.kind = b.kind := by
  unfold ordN at h
  have h1 : cmpI a.kind b.kind = 0 := by
    unfold orI at h; split at h
    · assumption
    · exact h
  unfold cmpI at h1; split at h1
  · omega
  · split at h1 <;> omega

def OrdOk (a : Nd) (l : Fo) : Prop := ∀ (v u : Value) (b : Nd) (m : Fo) (B : Nat) (w : World), RepV w B a l v → RepV w B b m u → B ≤ w.heap.size →
    (flen l : Int) = kidsOf a.kind → (flen m : Int) = kidsOf b.kind → ArF l → ArF m →
    Calls Tryz.prog 76 #[v, u] w fun e w' => e = .returned (.int .i64 (ordT a l b m)) ∧ Below w.heap.size w w'

def OrdOkD (a : Nd) (l : Fo) : Prop := ∀ (v u : Value) (b : Nd) (m : Fo) (B : Nat) (w : World), RepV w B a l v → RepV w B b m u → B ≤ w.heap.size →
    (flen l : Int) = kidsOf a.kind → (flen m : Int) = kidsOf b.kind → ArF l → ArF m →
    Calls Tryz.prog 76 #[v, u] w fun e w' => e = .returned (.int .i64 (ordT a l b m)) ∧ Below w.heap.size w w' ∧ w.drawn ≤ w'.drawn

set_option maxRecDepth 100000 in
set_option maxHeartbeats 4000000 in
theorem ordD_step (a : Nd) (l : Fo) (ih : AllF OrdOkD l) : OrdOkD a l := by
  rintro v u b m B w ⟨hf, A, cap, b0, o0, rfl, hn, hA, hr⟩ ⟨hg, A', cap', b0', o0', rfl, hn', hA', hr'⟩ hB k1 k2 ar1 ar2
  have HA : Hid (flen l = 0 ∨ A = some ⟨b0, o0, none⟩) := hA
  have HA' : Hid (flen m = 0 ∨ A' = some ⟨b0', o0', none⟩) := hA'
  have K1 : Hid ((flen l : Int) = kidsOf a.kind) := k1
  have K2 : Hid ((flen m : Int) = kidsOf b.kind) := k2
  clear hA hA' k1 k2
  go_enter Tryz.func76, Tryz.ntmps76
  go_wp2_with fail
  go_region_held3 (fun w' => Box4 w' w.heap.size (.int .i64 a.kind) (.int .i64 a.n) (.string a.s) (.slice A (flen l) cap) ∧ Box4 w' (w.heap.size + 1) (.int .i64 b.kind) (.int .i64 b.n) (.string b.s) (.slice A' (flen m) cap'))
    (first | exact ⟨((Box4.new _ _ _ _ _ _).alloc _).drew, by have h := (Box4.new (w.alloc (.cells #[.int .i64 a.kind, .int .i64 a.n, .string a.s, .slice A (flen l) cap] 24)) (.int .i64 b.kind) (.int .i64 b.n) (.string b.s) (.slice A' (flen m) cap') 24).drew; simpa using h⟩ | assumption | exact ⟨Box4.alloc (And.left (by assumption)) _, Box4.alloc (And.right (by assumption)) _⟩)
    (first
      | (go_at_call 90; refine (compare_any _ _ _).mono ?_; rintro e w' ⟨rfl, rfl⟩)
      | (go_at_call 91; refine (strCompare_any _ _ _).mono ?_; rintro e w' ⟨rfl, rfl⟩)
      | (go_at_call 89; refine (or3_any (cmpI a.kind b.kind) (cmpI a.n b.n) (cmpS a.s b.s) _ _ _ ?_ ?_ ?_).mono ?_; (simp [go_sem]); (simp [go_sem]); (simp [go_sem]); rintro e w' ⟨rfl, rfl⟩))
  have hx0 : ordN a b = orI (cmpI a.kind b.kind) (orI (cmpI a.n b.n) (cmpS a.s b.s)) := rfl
  generalize orI (cmpI a.kind b.kind) (orI (cmpI a.n b.n) (cmpS a.s b.s)) = x at *
  have Hx : Hid (ordN a b = x) := hx0
  clear hx0
  by_cases hx : x = 0
  · subst hx
    have hlen : flen m = flen l := by have h1 := K1.out; have h2 := K2.out; rw [ordN_kind a b Hx.out] at h1; omega
    have HT : Hid (ordT a l b m = ordF l m) := by show ordT a l b m = _; rw [ordT, Hx.out, orI, if_pos rfl]
    have Hlen : Hid (flen m = flen l) := hlen
    clear hlen
    go_wp2_with fail
    go_loopw [31] (fun iv wr => ∃ (i : Nat) (g h : Fo), iv = .int .i64 i ∧ i + flen g = flen l ∧ flen h = flen g ∧ AllF OrdOkD g ∧ ArF g ∧ ArF h ∧ RepF wr B g b0 (o0 + i * 4) ∧ RepF wr B h b0' (o0' + i * 4) ∧ ordF l m = ordF g h ∧ w.drawn ≤ wr.drawn ∧
        Below w.heap.size w wr ∧ w.heap.size + 1 < wr.heap.size ∧ wr.cell? ⟨w.heap.size, 3, none⟩ = some (.slice A (flen l) cap) ∧ wr.cell? ⟨w.heap.size + 1, 3, none⟩ = some (.slice A' (flen m) cap')) (fun iv _ => flen l - (intOf iv).toNat)
    case atStart =>
      refine ⟨0, l, m, rfl, by simp, Hlen.out, ih, ar1, ar2, ?_, ?_, rfl, Nat.le_succ _, (by repeat (first | exact Below.refl _ _ | assumption | refine below_drewN ?_ _ | refine Below.drew ?_ | refine Below.alloc ?_ (by simp <;> omega) _ | refine Below.setCell ?_ (by simp <;> omega) _)), by simp, by simp [go_sem], by simp [go_sem]⟩
      · rw [show o0 + 0 * 4 = o0 from by omega]
        exact RepF.keep (Nat.le_refl _) (fun b' o' hb' => Below.cell (B := w.heap.size) (by repeat (first | exact Below.refl _ _ | assumption | refine below_drewN ?_ _ | refine Below.drew ?_ | refine Below.alloc ?_ (by simp <;> omega) _ | refine Below.setCell ?_ (by simp <;> omega) _)) (by simp; omega)) hr
      · rw [show o0' + 0 * 4 = o0' from by omega]
        exact RepF.keep (Nat.le_refl _) (fun b' o' hb' => Below.cell (B := w.heap.size) (by repeat (first | exact Below.refl _ _ | assumption | refine below_drewN ?_ _ | refine Below.drew ?_ | refine Below.alloc ?_ (by simp <;> omega) _ | refine Below.setCell ?_ (by simp <;> omega) _)) (by simp; omega)) hr'
    case round =>
      obtain ⟨i, g, h, rfl, hi, hgh, hg1, ag, ah, rg, rh, hT, hdr, hbl, hsz, hbx, hbx'⟩ := hrel
      have HTg : Hid (ordF l m = ordF g h) := hT
      clear hT
      cases g with
      | nil =>
        cases h with
        | node => simp [flen] at hgh
        | nil =>
          simp only [flen] at hi
          go_wp2_with fail
          go_ret
          exact ⟨ret_int (by rw [HT.out, HTg.out, ordF]), hbl, hdr⟩
      | node c1 d1 a1 l1 r1 =>
        cases h with
        | nil => simp [flen] at hgh
        | node c2 d2 a2 l2 r2 =>
          obtain ⟨hb1, hf1, e0, e1, e2, ⟨A1, cap1, b2, o2, e3, hn1, hA1, hl1⟩, hr1⟩ := rg
          obtain ⟨hb1', hf1', e0', e1', e2', ⟨A2, cap2, b3, o3, e3', hn2, hA2, hl2⟩, hr2⟩ := rh
          obtain ⟨hw1, hgr⟩ := hg1
          obtain ⟨ka, al, arr⟩ := ag
          obtain ⟨kb, bl, brr⟩ := ah
          simp only [flen] at hi hgh
          have hi' : i < flen l := by omega
          have hi2 : i < flen m := by have := Hlen.out; omega
          obtain rfl : A = some ⟨b0, o0, none⟩ := by rcases HA.out with h | h; omega; exact h
          obtain rfl : A' = some ⟨b0', o0', none⟩ := by rcases HA'.out with h | h; omega; exact h
          have HA1 : Hid (flen l1 = 0 ∨ A1 = some ⟨b2, o2, none⟩) := hA1
          have HA2 : Hid (flen l2 = 0 ∨ A2 = some ⟨b3, o3, none⟩) := hA2
          have Ka : Hid ((flen l1 : Int) = kidsOf a1.kind) := ka
          have Kb : Hid ((flen l2 : Int) = kidsOf a2.kind) := kb
          clear hA1 hA2 ka kb
          have hzB : B ≤ wr.heap.size := by have := hbl.size; omega
          go_wp2_with fail
          go_region_held3 (fun w' => w'.cell? ⟨w.heap.size, 3, none⟩ = some (.slice (some ⟨b0, o0, none⟩) (flen l) cap) ∧ w'.cell? ⟨w.heap.size + 1, 3, none⟩ = some (.slice (some ⟨b0', o0', none⟩) (flen m) cap') ∧
              w'.cell? ⟨b0, o0 + i * 4, none⟩ = some (.int .i64 a1.kind) ∧ w'.cell? ⟨b0, o0 + i * 4 + 1, none⟩ = some (.int .i64 a1.n) ∧ w'.cell? ⟨b0, o0 + i * 4 + 2, none⟩ = some (.string a1.s) ∧ w'.cell? ⟨b0, o0 + i * 4 + 3, none⟩ = some (.slice A1 (flen l1) cap1) ∧
              w'.cell? ⟨b0', o0' + i * 4, none⟩ = some (.int .i64 a2.kind) ∧ w'.cell? ⟨b0', o0' + i * 4 + 1, none⟩ = some (.int .i64 a2.n) ∧ w'.cell? ⟨b0', o0' + i * 4 + 2, none⟩ = some (.string a2.s) ∧ w'.cell? ⟨b0', o0' + i * 4 + 3, none⟩ = some (.slice A2 (flen l2) cap2))
            (first | exact ⟨hbx, hbx', e0, e1, e2, e3, e0', e1', e2', e3'⟩ | (refine ⟨?_, ?_, ?_, ?_, ?_, ?_, ?_, ?_, ?_, ?_⟩ <;> (rw [ho2.cell (by simp [World.heap_size_drew'] <;> omega)]; first | exact hbx | exact hbx' | exact e0 | exact e1 | exact e2 | exact e3 | exact e0' | exact e1' | exact e2' | exact e3')))
            (first
              | (go_at_call 76; refine (hw1 _ _ a2 l2 B _ ⟨hf1, A1, cap1, b2, o2, rfl, hn1, HA1.out, ?_⟩ ⟨hf1', A2, cap2, b3, o3, rfl, hn2, HA2.out, ?_⟩ (by simpa [World.heap_size_drew'] using hzB) Ka.out Kb.out al bl).mono ?_; exact (hl1.drew); exact (hl2.drew); rintro e w2 ⟨rfl, ho2, hd2⟩))
          have hrg := ordF_range l1 l2
          generalize hy0 : ordT a1 l1 a2 l2 = y at *
          have Hy : Hid (ordT a1 l1 a2 l2 = y) := hy0
          clear hy0
          have hd3 : w.drawn ≤ w2.drawn := Nat.le_trans (Nat.le_trans hdr (Nat.le_succ _)) hd2
          have ho3 : Below wr.heap.size wr w2 := (Below.drew (Below.refl _ _)).trans ho2
          by_cases hy : y = 0
          · subst hy
            go_wp2_with fail
            go_roundw
            case rel =>
              refine ⟨i + 1, r1, r2, by go_num, by omega, by omega, hgr, arr, brr, ?_, ?_, ?_, hd3, hbl.trans (ho3.mono (by omega)), by have := ho3.size; omega, ?_, ?_⟩
              · rw [show o0 + (i + 1) * 4 = o0 + i * 4 + 4 from by omega]
                exact RepF.keep (Nat.le_refl _) (fun b' o' hb' => ho3.cell (by simp; omega)) hr1
              · rw [show o0' + (i + 1) * 4 = o0' + i * 4 + 4 from by omega]
                exact RepF.keep (Nat.le_refl _) (fun b' o' hb' => ho3.cell (by simp; omega)) hr2
              · rw [HTg.out, ordF_node, Hy.out, orI, if_pos rfl]
              · rw [ho3.cell (by simp; omega)]; exact hbx
              · rw [ho3.cell (by simp; omega)]; exact hbx'
            case measure => simp [intOf]; omega
          · have hy' : (y != 0) = true := by simp [hy]
            go_wp2_with fail
            go_ret
            exact ⟨ret_int (by rw [HT.out, HTg.out, ordF_node, Hy.out, orI, if_neg hy]), hbl.trans (ho3.mono (by omega)), hd3⟩
  · have hx' : (x != 0) = true := by simp [hx]
    have HT : Hid (ordT a l b m = x) := by show ordT a l b m = _; rw [ordT, Hx.out, orI, if_neg hx]
    go_wp2_with fail
    go_ret
    exact ⟨ret_int HT.out.symm, (by repeat (first | exact Below.refl _ _ | assumption | refine below_drewN ?_ _ | refine Below.drew ?_ | refine Below.alloc ?_ (by simp <;> omega) _ | refine Below.setCell ?_ (by simp <;> omega) _)), Nat.le_succ _⟩

theorem ordD_all : ∀ f : Fo, AllF OrdOkD f
  | .nil => trivial
  | .node _ _ a l r => ⟨ordD_step a l (ordD_all l), ordD_all r⟩

theorem ordD_any (a : Nd) (l : Fo) : OrdOkD a l := ordD_step a l (ordD_all l)

theorem ord_any (a : Nd) (l : Fo) : OrdOk a l := fun v u b m B w h1 h2 h3 h4 h5 h6 h7 => (ordD_any a l v u b m B w h1 h2 h3 h4 h5 h6 h7).mono fun _ _ ⟨he, hb, _⟩ => ⟨he, hb⟩

end Go.Proofs.YtgmmbfnmojjbkaaGreatDoor
