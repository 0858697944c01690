import Derived.Test.YtbjneijgbikcpaaDoorW25
import Derived.Test.YtbjneijgbikcpaaDoorH1
namespace Go.Proofs.YtbjneijgbikcpaaDoor
open Go.RowKit
set_option linter.unusedVariables false
set_option linter.unusedSimpArgs false

def RefHas (x : Nd) (m : Fo) (a : Nd) (l : Fo) : Prop := ∀ (v u : Value) (B : Nat) (w : World), RepV w B a l v → RepV w B x m u → B ≤ w.heap.size → (flen l : Int) = kidsOf a.kind → (flen m : Int) = kidsOf x.kind → ArF l → ArF m →
    Calls Tryd.prog 7 #[v, u] w fun e w' => e = .returned (.bool (!missT x m a l)) ∧ Below w.heap.size w w'

set_option maxRecDepth 100000 in
set_option maxHeartbeats 4000000 in
theorem refHas_step (x : Nd) (m : Fo) (a : Nd) (l : Fo) (ih : AllF (RefHas x m) l) : RefHas x m a l := by
  rintro v u B w ⟨hf, A, cap, b, o, rfl, hn, hA, hr⟩ ⟨hg, A', cap', b', o', rfl, hn', hA', hr'⟩ hB k1 k2 r1 r2
  have HA : Hid (flen l = 0 ∨ A = some ⟨b, o, none⟩) := hA
  have HA' : Hid (flen m = 0 ∨ A' = some ⟨b', o', none⟩) := hA'
  have K1 : Hid ((flen l : Int) = kidsOf a.kind) := k1
  have K2 : Hid ((flen m : Int) = kidsOf x.kind) := k2
  clear hA hA' k1 k2
  go_enter Tryd.func7, Tryd.ntmps7
  go_wp2_with fail
  refine (refSame_any a l x m _ _ B _ ⟨hf, A, cap, b, o, rfl, hn, HA.out, hr.two hB _ _⟩ ⟨hg, A', cap', b', o', rfl, hn', HA'.out, hr'.two hB _ _⟩ (by simp; omega) K1.out K2.out r1 r2).mono ?_
  rintro e w1 ⟨rfl, ho1⟩
  have hx1 : Box4 w1 w.heap.size (.int .i64 a.kind) (.int .i64 a.n) (.string a.s) (.slice A (flen l) cap) := ((Box4.new w _ _ _ _ _).alloc _).below ho1
  have hy1 : Box4 w1 (w.heap.size + 1) (.int .i64 x.kind) (.int .i64 x.n) (.string x.s) (.slice A' (flen m) cap') := by
    have h := Box4.new (w.alloc (.cells #[.int .i64 a.kind, .int .i64 a.n, .string a.s, .slice A (flen l) cap] 26)) (.int .i64 x.kind) (.int .i64 x.n) (.string x.s) (.slice A' (flen m) cap') 26
    exact Box4.below (by simpa using h) ho1
  have hb1 : Below w.heap.size w w1 := Below.trans (b := (w.alloc _).alloc _) (by repeat (first | exact Below.refl _ _ | assumption | refine below_drewN ?_ _ | refine Below.drew ?_ | refine Below.alloc ?_ (by simp <;> omega) _ | refine Below.setCell ?_ (by simp <;> omega) _)) (ho1.mono (by simp; omega))
  have hm0 : missT x m a l = ((ordT a l x m != 0) && missF x m l) := rfl
  have Hm : Hid (missT x m a l = ((ordT a l x m != 0) && missF x m l)) := hm0
  clear hm0
  cases hq : (ordT a l x m == 0)
  · have HT : Hid (missT x m a l = missF x m l) := by show missT x m a l = _; rw [Hm.out, bne, hq]; rfl
    clear Hm
    have hs1 := ho1.size
    simp only [World.heap_size_alloc'] at hs1
    go_wp2_with fail
    go_loopw [5] (fun iv wr => ∃ (i : Nat) (g : Fo), iv = .int .i64 (i : Int) ∧ i + flen g = flen l ∧ AllF (RefHas x m) g ∧ ArF g ∧ RepF wr B g b (o + i * 4) ∧ RepF wr B m b' o' ∧ missF x m l = missF x m g ∧ Below w.heap.size w wr ∧
        Box4 wr w.heap.size (.int .i64 a.kind) (.int .i64 a.n) (.string a.s) (.slice A (flen l) cap) ∧ Box4 wr (w.heap.size + 1) (.int .i64 x.kind) (.int .i64 x.n) (.string x.s) (.slice A' (flen m) cap')) (fun iv _ => flen l - (intOf iv).toNat)
    case atStart =>
      refine ⟨0, l, rfl, by simp, ih, r1, ?_, hr'.below (hb1.mono hB), rfl, hb1, hx1, hy1⟩
      rw [show o + 0 * 4 = o from by omega]
      exact hr.below (hb1.mono hB)
    case round =>
      obtain ⟨i, g, rfl, hi, hg1, ag, hrg, hrm, hT, hbl, hx, hy⟩ := hrel
      have HTg : Hid (missF x m l = missF x m g) := hT
      clear hT hx1 hy1
      have hx' := hx
      have hy' := hy
      obtain ⟨x0, x1, x2, x3, x4⟩ := hx
      obtain ⟨y0, y1, y2, y3, y4⟩ := hy
      cases g with
      | nil =>
        simp only [flen] at hi
        go_wp2_with fail
        go_ret
        exact ⟨ret_bool (by rw [HT.out, HTg.out, missF]; rfl), hbl⟩
      | node c1 d1 a1 l1 r1' =>
        obtain ⟨hb1', hf1, e0, e1, e2, ⟨A1, cap1, b2, o2, e3, hn1, hA1, hl1⟩, hr1⟩ := hrg
        obtain ⟨hw1, hgr⟩ := hg1
        obtain ⟨ka, al, arr⟩ := ag
        simp only [flen] at hi
        have hi' : i < flen l := by omega
        obtain rfl : A = some ⟨b, o, none⟩ := by rcases HA.out with h | h; omega; exact h
        have HA1 : Hid (flen l1 = 0 ∨ A1 = some ⟨b2, o2, none⟩) := hA1
        have Ka : Hid ((flen l1 : Int) = kidsOf a1.kind) := ka
        clear hA1 ka
        have hzB : B ≤ wr.heap.size := by have := hbl.size; omega
        go_wp2_with fail
        go_region_held3 (fun w' => w'.cell? ⟨w.heap.size, 3, none⟩ = some (.slice (some ⟨b, o, none⟩) (flen l) cap) ∧ Box4 w' (w.heap.size + 1) (.int .i64 x.kind) (.int .i64 x.n) (.string x.s) (.slice A' (flen m) cap') ∧
            w'.cell? ⟨b, o + i * 4, none⟩ = some (.int .i64 a1.kind) ∧ w'.cell? ⟨b, o + i * 4 + 1, none⟩ = some (.int .i64 a1.n) ∧ w'.cell? ⟨b, o + i * 4 + 2, none⟩ = some (.string a1.s) ∧ w'.cell? ⟨b, o + i * 4 + 3, none⟩ = some (.slice A1 (flen l1) cap1))
          (first | exact ⟨x4, hy', e0, e1, e2, e3⟩ | exact ⟨by rw [ho2.cell (by simp [World.heap_size_drew'] <;> omega)]; exact x4, hy'.drew.below ho2, by rw [ho2.cell (by simp [World.heap_size_drew'] <;> omega)]; exact e0, by rw [ho2.cell (by simp [World.heap_size_drew'] <;> omega)]; exact e1, by rw [ho2.cell (by simp [World.heap_size_drew'] <;> omega)]; exact e2, by rw [ho2.cell (by simp [World.heap_size_drew'] <;> omega)]; exact e3⟩)
          (first
            | (go_at_call 7; refine (hw1 _ _ B _ ⟨hf1, A1, cap1, b2, o2, rfl, hn1, HA1.out, ?_⟩ ⟨hg, A', cap', b', o', rfl, hn', HA'.out, ?_⟩ (by simpa [World.heap_size_drew'] using hzB) Ka.out K2.out al r2).mono ?_; exact (hl1.drew); exact (hrm.drew); rintro e w2 ⟨rfl, ho2⟩))
        have ho3 : Below wr.heap.size wr w2 := (Below.drew (Below.refl _ _)).trans ho2
        cases hm1 : missT x m a1 l1
        · go_wp2_with fail
          go_ret
          exact ⟨ret_bool (by rw [HT.out, HTg.out, missF_node, hm1]; rfl), hbl.trans (ho3.mono hbl.size)⟩
        · go_wp2_with fail
          go_roundw
          case rel =>
            refine ⟨i + 1, r1', by go_num, by omega, hgr, arr, ?_, hrm.below (ho3.mono hzB), ?_, hbl.trans (ho3.mono hbl.size), hx'.below ho3, hy'.below ho3⟩
            · rw [show o + (i + 1) * 4 = o + i * 4 + 4 from by omega]
              exact hr1.below (ho3.mono hzB)
            · rw [HTg.out, missF_node, hm1]; rfl
          case measure => simp [intOf]; omega
  · go_wp2_with fail
    go_ret
    exact ⟨ret_bool (by rw [Hm.out, bne, hq]; rfl), hb1⟩

theorem refHas_all (x : Nd) (m : Fo) : ∀ f : Fo, AllF (RefHas x m) f
  | .nil => trivial
  | .node _ _ a l r => ⟨refHas_step x m a l (refHas_all x m l), refHas_all x m r⟩
theorem refHas_any (x : Nd) (m : Fo) (a : Nd) (l : Fo) : RefHas x m a l := refHas_step x m a l (refHas_all x m l)

end Go.Proofs.YtbjneijgbikcpaaDoor
