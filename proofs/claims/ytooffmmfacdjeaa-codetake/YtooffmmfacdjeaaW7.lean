import Derived.Test.YtooffmmfacdjeaaW2
namespace Go.Proofs.Ytooffmmfacdjeaa
open Go.RowKit
set_option linter.unusedVariables false
set_option linter.unusedSimpArgs false

/-- How many nodes. -/
def sizeF : Fo → Nat
  | .nil => 0
  | .node _ _ a l r => 1 + sizeF l + sizeF r

theorem mayF_size : ∀ (f : Fo) (deep c : Int), (mayF f deep c).1 = true → (mayF f deep c).2 = c + sizeF f
  | .nil, _, _, _ => by simp [mayF, sizeF]
  | .node b o a l r, deep, c, h => by
    rw [mayF] at h ⊢
    by_cases hm : mayB a (flen l) deep c = true
    · rw [if_pos hm] at h ⊢
      by_cases hl : (mayF l (deep + 1) (c + 1)).1 = true
      · rw [if_pos hl] at h ⊢
        rw [mayF_size r _ _ h, mayF_size l _ _ hl, sizeF]; omega
      · rw [if_neg hl] at h; simp at h
    · rw [if_neg hm] at h; simp at h

theorem may_size (a : Nd) (l : Fo) (h : may a l = true) : 1 + sizeF l ≤ 64 := by
  have h1 := mayT_le a l 1 0 (by omega) h
  unfold may at h
  rw [mayT_node a l 1 0 0 0] at h h1
  rw [mayF_size _ _ _ h, sizeF, sizeF] at h1; omega

set_option maxHeartbeats 1000000 in
theorem size1_any (v : Value) (a : Nd) (A : Option Addr) (len cap : Nat) (deep c : Int) (pb : Nat) (w : World)
    (hv : v = .agg #[.int .i64 a.kind, .int .i64 a.n, .string a.s, .slice A len cap])
    (hc : w.cell? ⟨pb, 0, none⟩ = some (.int .i64 c)) (hz : w.frozen? ⟨pb, 0, none⟩ = false) (h0 : 0 ≤ c) (h1 : c ≤ 100000) (hpb : pb < w.heap.size) :
    Calls Try.prog 42 #[v, .int .i64 deep, .pointer (some ⟨pb, 0, none⟩)] w fun e w' =>
      e = .returned (.bool true) ∧ Only pb w w' ∧ w'.cell? ⟨pb, 0, none⟩ = some (.int .i64 (c + 1)) ∧ w'.frozen? ⟨pb, 0, none⟩ = false := by
  subst hv
  go_enter Try.func42, Try.ntmps42
  go_wp2_with fail
  go_ret
  exact ⟨rfl, (by repeat (first | exact Only.refl _ _ | assumption | refine Only.below ?_ (by assumption) | refine Only.drewN ?_ _ | refine Only.drew ?_ | refine Only.alloc ?_ _ | refine Only.setCell ?_ (by simp) _)), by simp [go_sem, hc, hz, hpb], by simp [go_sem, hz, hpb]⟩

def WalkSize (a : Nd) (l : Fo) : Prop := ∀ (v : Value) (B : Nat) (deep c : Int) (pb : Nat) (w : World), RepV w B a l v → B ≤ pb → pb < w.heap.size → 0 ≤ c → c + (1 + sizeF l) ≤ 1000 → 0 ≤ deep → deep + (1 + sizeF l) ≤ 2000 →
    w.cell? ⟨pb, 0, none⟩ = some (.int .i64 c) → w.frozen? ⟨pb, 0, none⟩ = false →
    Calls Try.prog 39 #[v, .int .i64 deep, .func (.func 42) #[] #[.pointer (some ⟨pb, 0, none⟩)]] w fun e w' =>
      e = .returned (.bool true) ∧ Only pb w w' ∧ w'.cell? ⟨pb, 0, none⟩ = some (.int .i64 (c + (1 + sizeF l))) ∧ w'.frozen? ⟨pb, 0, none⟩ = false

set_option maxHeartbeats 1000000 in
theorem walkSize_step (a : Nd) (l : Fo) (ih : AllF WalkSize l) : WalkSize a l := by
  rintro v B deep c pb w ⟨hf, A, cap, b, o, rfl, hn, hA, hr⟩ hB hpb h0 h1 hd0 hd1 hc hz
  go_enter Try.func39, Try.ntmps39
  go_wp2_with fail
  refine (size1_any _ a A (flen l) cap deep c pb _ rfl (by simp [go_sem, hc, hpb]) (by simp [go_sem, hz, hpb]) h0 (by omega) (by simp; omega)).mono ?_
  rintro e w1 ⟨rfl, ho, hc1, hz1⟩
  have hbx : w1.cell? ⟨w.heap.size, 3, none⟩ = some (.slice A (flen l) cap) := by rw [ho.cell (by simp) (by simp; omega)]; simp [go_sem]
  have HA : Hid (flen l = 0 ∨ A = some ⟨b, o, none⟩) := hA
  clear hA
  go_wp2_with fail
  go_loopw [16] (fun iv wr => ∃ (i : Nat) (g : Fo) (ci : Int), iv = .int .i64 i ∧ i + flen g = flen l ∧ AllF WalkSize g ∧ RepF wr B g b (o + i * 4) ∧ ci + sizeF g = c + (1 + sizeF l) ∧ 0 ≤ ci ∧ sizeF g ≤ sizeF l ∧
        Only pb w wr ∧ w.heap.size < wr.heap.size ∧ wr.cell? ⟨w.heap.size, 3, none⟩ = some (.slice A (flen l) cap) ∧ wr.cell? ⟨pb, 0, none⟩ = some (.int .i64 ci) ∧ wr.frozen? ⟨pb, 0, none⟩ = false) (fun iv _ => flen l - (intOf iv).toNat)
  case atStart =>
    refine ⟨0, l, c + 1, rfl, by simp, ih, ?_, by omega, by omega, Nat.le_refl _, (Only.alloc (Only.refl _ _) _).trans ho, ?_, hbx, hc1, hz1⟩
    · rw [show o + 0 * 4 = o from by omega]
      exact RepF.keep (Nat.le_refl _) (fun b' o' hb' => by rw [ho.cell (by simp; omega) (by simp; omega)]; exact World.cell?_alloc_past _ _ _ (by omega)) hr
    · have := ho.size; simp at this; omega
  case round =>
    obtain ⟨i, g, ci, rfl, hi, hg, hrg, hsg, hci0, hsl, how, hsz, hbx1, hcw, hzw⟩ := hrel
    have Hsg : Hid (ci + sizeF g = c + (1 + sizeF l)) := hsg
    clear hsg hbx hc1 hz1 ho hr
    cases g with
    | nil =>
      simp only [flen] at hi
      go_wp2_with fail
      go_ret
      exact ⟨rfl, how, by rw [hcw]; have := Hsg.out; simp only [sizeF] at this; rw [← this]; simp, hzw⟩
    | node b1 o1 a1 l1 r1 =>
      obtain ⟨hb1, hf1, e0, e1, e2, ⟨A1, cap1, b2, o2, e3, hn1, hA1, hl1⟩, hr1⟩ := hrg
      obtain ⟨hw1, hgr⟩ := hg
      simp only [flen] at hi
      simp only [sizeF] at hsl
      have hs1 : ci + (1 + sizeF l1 + sizeF r1 : Nat) = c + (1 + sizeF l) := Hsg.out
      have Hs1 : Hid (ci + (1 + sizeF l1 + sizeF r1 : Nat) = c + (1 + sizeF l)) := hs1
      have hle : ci + (1 + sizeF l1) ≤ 1000 := by omega
      clear hs1
      obtain rfl : A = some ⟨b, o, none⟩ := by rcases HA.out with h | h; omega; exact h
      have HA1 : Hid (flen l1 = 0 ∨ A1 = some ⟨b2, o2, none⟩) := hA1
      clear hA1
      go_wp2_with fail
      refine (hw1 _ B (deep + 1) ci pb wr ⟨hf1, A1, cap1, b2, o2, rfl, hn1, HA1.out, hl1⟩ hB (by have := how.size; omega) hci0 hle (by omega) (by omega) hcw hzw).mono ?_
      rintro e w2 ⟨rfl, ho2, hc2, hz2⟩
      go_wp2_with fail
      go_roundw
      case rel =>
        refine ⟨i + 1, r1, ci + (1 + sizeF l1), by go_num, by omega, hgr, ?_, by have := Hs1.out; omega, by omega, by omega, how.trans ho2, by have := ho2.size; omega, ?_, hc2, hz2⟩
        · rw [show o + (i + 1) * 4 = o + i * 4 + 4 from by omega]
          exact RepF.keep (Nat.le_refl _) (fun b' o' hb' => ho2.cell (by have := how.size; simp; omega) (by simp; omega)) hr1
        · rw [ho2.cell (by simp; omega) (by simp; omega)]; exact hbx1
      case measure => simp [intOf]; omega

theorem walkSize_all : ∀ f : Fo, AllF WalkSize f
  | .nil => trivial
  | .node _ _ a l r => ⟨walkSize_step a l (walkSize_all l), walkSize_all r⟩


set_option maxHeartbeats 1000000 in
theorem size_any (a : Nd) (l : Fo) (v : Value) (B : Nat) (w : World) (hB : B ≤ w.heap.size) (hr : RepV w B a l v) (hm : may a l = true) :
    Calls Try.prog 20 #[v] w fun e w' => e = .returned (.int .i64 (1 + sizeF l)) ∧ Below w.heap.size w w' := by
  obtain ⟨hf, A, cap, b, o, rfl, hn, hA, hl⟩ := hr
  have HA : Hid (flen l = 0 ∨ A = some ⟨b, o, none⟩) := hA
  have Hm : Hid (may a l = true) := hm
  have hms := may_size a l hm
  clear hA
  go_enter Try.func20, Try.ntmps20
  go_wp2_with fail
  refine (may_any a l _ _ ⟨hf, A, cap, b, o, rfl, hn, HA.out, ?_⟩).mono ?_
  · exact RepF.keep (by simp; omega) (fun b' o' hb' => World.cell?_alloc_past _ _ _ (by omega)) hl
  rintro e w1 ⟨rfl, ho⟩
  have hbx : Box4 w1 w.heap.size (.int .i64 a.kind) (.int .i64 a.n) (.string a.s) (.slice A (flen l) cap) := (Box4.new w _ _ _ _ _).below ho
  obtain ⟨hb0, hb1, hb2, hb3, hb4⟩ := hbx
  go_wp2_with fail
  refine (walkSize_step a l (walkSize_all l) _ B 1 0 w1.heap.size _ ⟨hf, A, cap, b, o, rfl, hn, HA.out, ?_⟩ (by omega) (by simp) (by omega) (by omega) (by omega) (by omega) (by simp [go_sem]) (by simp [go_sem])).mono ?_
  · exact RepF.keep (Nat.le_refl _) (fun b' o' hb' => by rw [World.cell?_alloc_past _ _ _ (by omega), ho.cell (by simp; omega)]; exact World.cell?_alloc_past _ _ _ (by omega)) hl
  rintro e w2 ⟨rfl, ho2, hc2, hz2⟩
  go_wp2_with fail
  go_ret
  refine ⟨ret_int (by simp), Below.trans (Below.trans (by repeat (first | exact Below.refl _ _ | assumption | refine below_drewN ?_ _ | refine Below.drew ?_ | refine Below.alloc ?_ (by simp <;> omega) _ | refine Below.setCell ?_ (by simp <;> omega) _)) (ho.mono (by simp))) (Below.trans (Below.alloc (Below.refl _ _) (by omega) _) (ho2.toBelow (by omega) (by simp; omega)))⟩

end Go.Proofs.Ytooffmmfacdjeaa
