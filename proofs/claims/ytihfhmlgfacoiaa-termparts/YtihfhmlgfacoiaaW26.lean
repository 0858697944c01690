import Derived.Test.YtihfhmlgfacoiaaW25
import Derived.Test.YtihfhmlgfacoiaaW11
namespace Go.Proofs.Ytihfhmlgfacoiaa
open Go.RowKit
set_option linter.unusedVariables false
set_option linter.unusedSimpArgs false

def RefSize (a : Nd) (l : Fo) : Prop := ∀ (v : Value) (B : Nat) (w : World), RepV w B a l v → B ≤ w.heap.size → 1 + sizeF l ≤ 1000 →
    Calls Try.prog 17 #[v] w fun e w' => e = .returned (.int .i64 (1 + sizeF l)) ∧ Below w.heap.size w w'

set_option maxHeartbeats 1000000 in
theorem refSize_step (a : Nd) (l : Fo) (ih : AllF RefSize l) : RefSize a l := by
  rintro v B w ⟨hf, A, cap, b, o, rfl, hn, hA, hr⟩ hB hz
  have HA : Hid (flen l = 0 ∨ A = some ⟨b, o, none⟩) := hA
  clear hA
  go_enter Try.func17, Try.ntmps17
  go_wp2_with fail
  go_loopw [3, 4] (fun nv iv wr => ∃ (i : Nat) (g : Fo) (c : Int), nv = .int .i64 c ∧ iv = .int .i64 (i : Int) ∧ i + flen g = flen l ∧ AllF RefSize g ∧ RepF wr B g b (o + i * 4) ∧ c + sizeF g = 1 + sizeF l ∧ 1 ≤ c ∧ sizeF g ≤ sizeF l ∧
        Below w.heap.size w wr ∧ w.heap.size < wr.heap.size ∧ wr.cell? ⟨w.heap.size, 3, none⟩ = some (.slice A (flen l) cap)) (fun _ iv _ => flen l - (intOf iv).toNat)
  case atStart =>
    refine ⟨0, l, 1, rfl, rfl, by simp, ih, ?_, by omega, by omega, Nat.le_refl _, (by repeat (first | exact Below.refl _ _ | assumption | refine below_drewN ?_ _ | refine Below.drew ?_ | refine Below.alloc ?_ (by simp <;> omega) _ | refine Below.setCell ?_ (by simp <;> omega) _)), by simp, by simp [go_sem]⟩
    rw [show o + 0 * 4 = o from by omega]
    exact hr.below (Below.mono (by repeat (first | exact Below.refl _ _ | assumption | refine below_drewN ?_ _ | refine Below.drew ?_ | refine Below.alloc ?_ (by simp <;> omega) _ | refine Below.setCell ?_ (by simp <;> omega) _)) hB)
  case round =>
    obtain ⟨i, g, c, rfl, rfl, hi, hg, hrg, hc, hc1, hsg, hbl, hsz, hbx⟩ := hrel
    have Hc : Hid (c + (sizeF g : Int) = 1 + (sizeF l : Int)) := hc
    cases g with
    | nil =>
      simp only [flen, sizeF] at hi hc
      clear hc
      go_wp2_with fail
      go_ret
      exact ⟨ret_int (by have := Hc.out; simp [sizeF] at this; omega), hbl⟩
    | node c1 d1 a1 l1 r1 =>
      obtain ⟨hb1, hf1, e0, e1, e2, ⟨A1, cap1, b2, o2, e3, hn1, hA1, hl1⟩, hr1⟩ := hrg
      obtain ⟨hw1, hgr⟩ := hg
      simp only [flen, sizeF] at hi hsg hc
      have hi' : i < flen l := by omega
      obtain rfl : A = some ⟨b, o, none⟩ := by rcases HA.out with h | h; omega; exact h
      have HA1 : Hid (flen l1 = 0 ∨ A1 = some ⟨b2, o2, none⟩) := hA1
      clear hA1
      have hzB : B ≤ wr.heap.size := by have := hbl.size; omega
      clear hc
      go_wp2_with fail
      refine (hw1 _ B _ ⟨hf1, A1, cap1, b2, o2, rfl, hn1, HA1.out, hl1⟩ hzB (by omega)).mono ?_
      rintro e w2 ⟨rfl, ho2⟩
      have hc2 := Hc.out
      simp only [sizeF] at hc2
      have ew : IntKind.i64.wrap (c + (1 + (sizeF l1 : Int))) = c + (1 + (sizeF l1 : Int)) := wrap_in _ (by omega) (by omega)
      clear hc2
      go_wp2_with fail
      go_roundw
      case rel =>
        have hc2 := Hc.out
        simp only [sizeF] at hc2
        refine ⟨i + 1, r1, c + (1 + (sizeF l1 : Int)), rfl, by go_num, by omega, hgr, ?_, by omega, by omega, by omega, hbl.trans (ho2.mono (by omega)), by have := ho2.size; omega, ?_⟩
        · rw [show o + (i + 1) * 4 = o + i * 4 + 4 from by omega]
          exact RepF.keep (Nat.le_refl _) (fun b' o' hb' => ho2.cell (by simp; omega)) hr1
        · rw [ho2.cell (by simp; omega)]; exact hbx
      case measure => simp [intOf]; omega

theorem refSize_all : ∀ f : Fo, AllF RefSize f
  | .nil => trivial
  | .node _ _ a l r => ⟨refSize_step a l (refSize_all l), refSize_all r⟩
theorem refSize_any (a : Nd) (l : Fo) : RefSize a l := refSize_step a l (refSize_all l)

def RefHas (x : Nd) (m : Fo) (a : Nd) (l : Fo) : Prop := ∀ (v u : Value) (B : Nat) (w : World), RepV w B a l v → RepV w B x m u → B ≤ w.heap.size → (flen l : Int) = kidsOf a.kind → (flen m : Int) = kidsOf x.kind → ArF l → ArF m →
    Calls Try.prog 23 #[v, u] w fun e w' => e = .returned (.bool (!missT x m a l)) ∧ Below w.heap.size w w'

set_option maxRecDepth 100000 in
set_option maxHeartbeats 4000000 in
theorem refHas_step (x : Nd) (m : Fo) (a : Nd) (l : Fo) (ih : AllF (RefHas x m) l) : RefHas x m a l := by
  rintro v u B w ⟨hf, A, cap, b, o, rfl, hn, hA, hr⟩ ⟨hg, A', cap', b', o', rfl, hn', hA', hr'⟩ hB k1 k2 r1 r2
  have HA : Hid (flen l = 0 ∨ A = some ⟨b, o, none⟩) := hA
  have HA' : Hid (flen m = 0 ∨ A' = some ⟨b', o', none⟩) := hA'
  have K1 : Hid ((flen l : Int) = kidsOf a.kind) := k1
  have K2 : Hid ((flen m : Int) = kidsOf x.kind) := k2
  clear hA hA' k1 k2
  go_enter Try.func23, Try.ntmps23
  go_wp2_with fail
  refine (refSame_any a l x m _ _ B _ ⟨hf, A, cap, b, o, rfl, hn, HA.out, hr.two hB _ _⟩ ⟨hg, A', cap', b', o', rfl, hn', HA'.out, hr'.two hB _ _⟩ (by simp; omega) K1.out K2.out r1 r2).mono ?_
  rintro e w1 ⟨rfl, ho1⟩
  have hx1 : Box4 w1 w.heap.size (.int .i64 a.kind) (.int .i64 a.n) (.string a.s) (.slice A (flen l) cap) := ((Box4.new w _ _ _ _ _).alloc _).below ho1
  have hy1 : Box4 w1 (w.heap.size + 1) (.int .i64 x.kind) (.int .i64 x.n) (.string x.s) (.slice A' (flen m) cap') := by
    have h := Box4.new (w.alloc (.cells #[.int .i64 a.kind, .int .i64 a.n, .string a.s, .slice A (flen l) cap] 24)) (.int .i64 x.kind) (.int .i64 x.n) (.string x.s) (.slice A' (flen m) cap') 24
    exact Box4.below (by simpa using h) ho1
  have hb1 : Below w.heap.size w w1 := Below.trans (b := (w.alloc _).alloc _) (by repeat (first | exact Below.refl _ _ | assumption | refine below_drewN ?_ _ | refine Below.drew ?_ | refine Below.alloc ?_ (by simp <;> omega) _ | refine Below.setCell ?_ (by simp <;> omega) _)) (ho1.mono (by simp; omega))
  have hm0 : missT x m a l = ((ordT a l x m != 0) && missF x m l) := rfl
  have Hm : Hid (missT x m a l = ((ordT a l x m != 0) && missF x m l)) := hm0
  clear hm0
  cases hq : (ordT a l x m == 0)
  · have HT : Hid (missT x m a l = missF x m l) := by show missT x m a l = _; rw [Hm.out, bne, hq]; rfl
    clear Hm
    have hs1 := ho1.size
    simp only [World.heap_size_alloc'] at hs1
    go_wp2_with fail
    go_loopw [5] (fun iv wr => ∃ (i : Nat) (g : Fo), iv = .int .i64 (i : Int) ∧ i + flen g = flen l ∧ AllF (RefHas x m) g ∧ ArF g ∧ RepF wr B g b (o + i * 4) ∧ RepF wr B m b' o' ∧ missF x m l = missF x m g ∧ Below w.heap.size w wr ∧
        Box4 wr w.heap.size (.int .i64 a.kind) (.int .i64 a.n) (.string a.s) (.slice A (flen l) cap) ∧ Box4 wr (w.heap.size + 1) (.int .i64 x.kind) (.int .i64 x.n) (.string x.s) (.slice A' (flen m) cap')) (fun iv _ => flen l - (intOf iv).toNat)
    case atStart =>
      refine ⟨0, l, rfl, by simp, ih, r1, ?_, hr'.below (hb1.mono hB), rfl, hb1, hx1, hy1⟩
      rw [show o + 0 * 4 = o from by omega]
      exact hr.below (hb1.mono hB)
    case round =>
      obtain ⟨i, g, rfl, hi, hg1, ag, hrg, hrm, hT, hbl, hx, hy⟩ := hrel
      have HTg : Hid (missF x m l = missF x m g) := hT
      clear hT hx1 hy1
      have hx' := hx
      have hy' := hy
      obtain ⟨x0, x1, x2, x3, x4⟩ := hx
      obtain ⟨y0, y1, y2, y3, y4⟩ := hy
      cases g with
      | nil =>
        simp only [flen] at hi
        go_wp2_with fail
        go_ret
        exact ⟨ret_bool (by rw [HT.out, HTg.out, missF]; rfl), hbl⟩
      | node c1 d1 a1 l1 r1' =>
        obtain ⟨hb1', hf1, e0, e1, e2, ⟨A1, cap1, b2, o2, e3, hn1, hA1, hl1⟩, hr1⟩ := hrg
        obtain ⟨hw1, hgr⟩ := hg1
        obtain ⟨ka, al, arr⟩ := ag
        simp only [flen] at hi
        have hi' : i < flen l := by omega
        obtain rfl : A = some ⟨b, o, none⟩ := by rcases HA.out with h | h; omega; exact h
        have HA1 : Hid (flen l1 = 0 ∨ A1 = some ⟨b2, o2, none⟩) := hA1
        have Ka : Hid ((flen l1 : Int) = kidsOf a1.kind) := ka
        clear hA1 ka
        have hzB : B ≤ wr.heap.size := by have := hbl.size; omega
        go_wp2_with fail
        go_region_held3 (fun w' => w'.cell? ⟨w.heap.size, 3, none⟩ = some (.slice (some ⟨b, o, none⟩) (flen l) cap) ∧ Box4 w' (w.heap.size + 1) (.int .i64 x.kind) (.int .i64 x.n) (.string x.s) (.slice A' (flen m) cap') ∧
            w'.cell? ⟨b, o + i * 4, none⟩ = some (.int .i64 a1.kind) ∧ w'.cell? ⟨b, o + i * 4 + 1, none⟩ = some (.int .i64 a1.n) ∧ w'.cell? ⟨b, o + i * 4 + 2, none⟩ = some (.string a1.s) ∧ w'.cell? ⟨b, o + i * 4 + 3, none⟩ = some (.slice A1 (flen l1) cap1))
          (first | exact ⟨x4, hy', e0, e1, e2, e3⟩ | exact ⟨by rw [ho2.cell (by simp [World.heap_size_drew'] <;> omega)]; exact x4, hy'.drew.below ho2, by rw [ho2.cell (by simp [World.heap_size_drew'] <;> omega)]; exact e0, by rw [ho2.cell (by simp [World.heap_size_drew'] <;> omega)]; exact e1, by rw [ho2.cell (by simp [World.heap_size_drew'] <;> omega)]; exact e2, by rw [ho2.cell (by simp [World.heap_size_drew'] <;> omega)]; exact e3⟩)
          (first
            | (go_at_call 23; refine (hw1 _ _ B _ ⟨hf1, A1, cap1, b2, o2, rfl, hn1, HA1.out, ?_⟩ ⟨hg, A', cap', b', o', rfl, hn', HA'.out, ?_⟩ (by simpa [World.heap_size_drew'] using hzB) Ka.out K2.out al r2).mono ?_; exact (hl1.drew); exact (hrm.drew); rintro e w2 ⟨rfl, ho2⟩))
        have ho3 : Below wr.heap.size wr w2 := (Below.drew (Below.refl _ _)).trans ho2
        cases hm1 : missT x m a1 l1
        · go_wp2_with fail
          go_ret
          exact ⟨ret_bool (by rw [HT.out, HTg.out, missF_node, hm1]; rfl), hbl.trans (ho3.mono hbl.size)⟩
        · go_wp2_with fail
          go_roundw
          case rel =>
            refine ⟨i + 1, r1', by go_num, by omega, hgr, arr, ?_, hrm.below (ho3.mono hzB), ?_, hbl.trans (ho3.mono hbl.size), hx'.below ho3, hy'.below ho3⟩
            · rw [show o + (i + 1) * 4 = o + i * 4 + 4 from by omega]
              exact hr1.below (ho3.mono hzB)
            · rw [HTg.out, missF_node, hm1]; rfl
          case measure => simp [intOf]; omega
  · go_wp2_with fail
    go_ret
    exact ⟨ret_bool (by rw [Hm.out, bne, hq]; rfl), hb1⟩

theorem refHas_all (x : Nd) (m : Fo) : ∀ f : Fo, AllF (RefHas x m) f
  | .nil => trivial
  | .node _ _ a l r => ⟨refHas_step x m a l (refHas_all x m l), refHas_all x m r⟩
theorem refHas_any (x : Nd) (m : Fo) (a : Nd) (l : Fo) : RefHas x m a l := refHas_step x m a l (refHas_all x m l)

end Go.Proofs.Ytihfhmlgfacoiaa
