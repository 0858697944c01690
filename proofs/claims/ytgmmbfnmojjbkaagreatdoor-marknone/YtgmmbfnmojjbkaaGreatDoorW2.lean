import Derived.Test.YtgmmbfnmojjbkaaGreatDoorW1
namespace Go.Proofs.YtgmmbfnmojjbkaaGreatDoor
open Go.RowKit
set_option linter.unusedVariables false
set_option linter.unusedSimpArgs false

/-- May's closure at one node. -/
def mayB (a : Nd) (len : Nat) (deep c : Int) : Bool := decide (c + 1 ≤ 64) && (decide (deep ≤ 16) && formedB a.kind a.n a.s len)

set_option maxHeartbeats 1000000 in
theorem may1_any (a : Nd) (A : Option Addr) (len cap : Nat) (deep c : Int) (pb : Nat) (w : World) (hf : a.Fit) (hl : len ≤ 9223372036854775807)
    (hc : w.cell? ⟨pb, 0, none⟩ = some (.int .i64 c)) (hz : w.frozen? ⟨pb, 0, none⟩ = false) (h0 : 0 ≤ c) (h1 : c ≤ 1000) (hpb : pb < w.heap.size) :
    Calls Tryz.prog 71 #[.agg #[.int .i64 a.kind, .int .i64 a.n, .string a.s, .slice A len cap], .int .i64 deep, .pointer (some ⟨pb, 0, none⟩)] w fun e w' =>
      e = .returned (.bool (mayB a len deep c)) ∧ Only pb w w' ∧ w'.cell? ⟨pb, 0, none⟩ = some (.int .i64 (c + 1)) ∧ w'.frozen? ⟨pb, 0, none⟩ = false := by
  by_cases h2 : c + 1 ≤ 64
  · by_cases h3 : deep ≤ 16
    · go_enter Tryz.func71, Tryz.ntmps71
      go_wp2_with fail
      refine (formed_any a.kind a.n a.s A len cap _ hl hf.2.2.2.2).mono ?_
      rintro e w1 ⟨rfl, hb⟩
      go_wp2_with fail
      go_ret
      have hc1 := hb.cell (p := ⟨pb, 0, none⟩) (by simp; omega)
      have hz1 := hb.frozen (p := ⟨pb, 0, none⟩) (by simp; omega)
      refine ⟨ret_bool (by simp [mayB, h2, h3]), ?_, ?_, ?_⟩
      · exact (by repeat (first | exact Only.refl _ _ | assumption | refine Only.below ?_ (by assumption) | refine Only.drewN ?_ _ | refine Only.drew ?_ | refine Only.alloc ?_ _ | refine Only.setCell ?_ (by simp) _))
      · rw [hc1]; simp [go_sem, hc, hz, hpb]
      · rw [hz1]; simp [go_sem, hz, hpb]
    · have h3' : decide (deep ≤ 16) = false := by simpa using h3
      go_enter Tryz.func71, Tryz.ntmps71
      go_wp2_with fail
      go_ret
      exact ⟨ret_bool (by unfold mayB; rw [h3']; simp), (by repeat (first | exact Only.refl _ _ | assumption | refine Only.below ?_ (by assumption) | refine Only.drewN ?_ _ | refine Only.drew ?_ | refine Only.alloc ?_ _ | refine Only.setCell ?_ (by simp) _)), by simp [go_sem, hc, hz, hpb], by simp [go_sem, hz, hpb]⟩
  · have h2' : decide (c + 1 ≤ 64) = false := by simpa using h2
    go_enter Tryz.func71, Tryz.ntmps71
    go_wp2_with fail
    go_ret
    exact ⟨ret_bool (by unfold mayB; rw [h2']; simp), (by repeat (first | exact Only.refl _ _ | assumption | refine Only.below ?_ (by assumption) | refine Only.drewN ?_ _ | refine Only.drew ?_ | refine Only.alloc ?_ _ | refine Only.setCell ?_ (by simp) _)), by simp [go_sem, hc, hz, hpb], by simp [go_sem, hz, hpb]⟩

/-- May's walk over a row of terms: did no node fail, and how many nodes were met. -/
def mayF : Fo → Int → Int → Bool × Int
  | .nil, _, c => (true, c)
  | .node _ _ a l r, deep, c =>
    if mayB a (flen l) deep c then (if (mayF l (deep + 1) (c + 1)).1 then mayF r deep (mayF l (deep + 1) (c + 1)).2 else (false, (mayF l (deep + 1) (c + 1)).2)) else (false, c + 1)

/-- One term. -/
def mayT (a : Nd) (l : Fo) (deep c : Int) : Bool × Int :=
  if mayB a (flen l) deep c then mayF l (deep + 1) (c + 1) else (false, c + 1)

theorem mayF_node (b o : Nat) (a : Nd) (l r : Fo) (deep c : Int) : mayF (.node b o a l r) deep c = if (mayT a l deep c).1 then mayF r deep (mayT a l deep c).2 else (false, (mayT a l deep c).2) := by
  simp only [mayF, mayT]
  split <;> simp

theorem mayF_ge : ∀ (f : Fo) (deep c : Int), c ≤ (mayF f deep c).2
  | .nil, _, _ => Int.le_refl _
  | .node b o a l r, deep, c => by
    have h1 := mayF_ge l (deep + 1) (c + 1)
    have h2 := mayF_ge r deep (mayF l (deep + 1) (c + 1)).2
    rw [mayF]; split
    · split
      · omega
      · simp; omega
    · simp; omega

theorem mayF_le : ∀ (f : Fo) (deep c : Int), c ≤ 64 → (mayF f deep c).1 = true → (mayF f deep c).2 ≤ 64
  | .nil, _, _, h, _ => h
  | .node b o a l r, deep, c, h, ht => by
    rw [mayF] at ht ⊢
    by_cases hm : mayB a (flen l) deep c = true
    · rw [if_pos hm] at ht ⊢
      have hc : c + 1 ≤ 64 := by simp only [mayB, Bool.and_eq_true, decide_eq_true_eq] at hm; exact hm.1
      by_cases hl : (mayF l (deep + 1) (c + 1)).1 = true
      · rw [if_pos hl] at ht ⊢
        exact mayF_le r deep _ (mayF_le l _ _ hc hl) ht
      · rw [if_neg hl] at ht; simp at ht
    · rw [if_neg hm] at ht; simp at ht

theorem mayT_node (a : Nd) (l : Fo) (deep c : Int) (b o : Nat) : mayT a l deep c = mayF (.node b o a l .nil) deep c := by
  rw [mayF_node]
  cases h : (mayT a l deep c).1
  · rw [if_neg (by simp)]; exact Prod.ext h rfl
  · rw [if_pos rfl]; exact Prod.ext h rfl

theorem mayT_ge (a : Nd) (l : Fo) (deep c : Int) : c ≤ (mayT a l deep c).2 := by rw [mayT_node a l deep c 0 0]; exact mayF_ge _ _ _
theorem mayT_le (a : Nd) (l : Fo) (deep c : Int) (h : c ≤ 64) (ht : (mayT a l deep c).1 = true) : (mayT a l deep c).2 ≤ 64 := by rw [mayT_node a l deep c 0 0] at *; exact mayF_le _ _ _ h ht

def AllF (Q : Nd → Fo → Prop) : Fo → Prop
  | .nil => True
  | .node _ _ a l r => Q a l ∧ AllF Q r

def WalkMay (a : Nd) (l : Fo) : Prop := ∀ (v : Value) (B : Nat) (deep c : Int) (pb : Nat) (w : World), RepV w B a l v → B ≤ pb → pb < w.heap.size → 0 ≤ c → c ≤ 64 → 0 ≤ deep → deep ≤ 17 →
    w.cell? ⟨pb, 0, none⟩ = some (.int .i64 c) → w.frozen? ⟨pb, 0, none⟩ = false →
    Calls Tryz.prog 70 #[v, .int .i64 deep, .func (.func 71) #[] #[.pointer (some ⟨pb, 0, none⟩)]] w fun e w' =>
      e = .returned (.bool (mayT a l deep c).1) ∧ Only pb w w' ∧ w'.cell? ⟨pb, 0, none⟩ = some (.int .i64 (mayT a l deep c).2) ∧ w'.frozen? ⟨pb, 0, none⟩ = false

set_option maxHeartbeats 1000000 in
theorem walkMay_step (a : Nd) (l : Fo) (ih : AllF WalkMay l) : WalkMay a l := by
  rintro v B deep c pb w ⟨hf, A, cap, b, o, rfl, hn, hA, hr⟩ hB hpb h0 h1 hd0 hd1 hc hz
  go_enter Tryz.func70, Tryz.ntmps70
  go_wp2_with fail
  refine (may1_any a A (flen l) cap deep c pb _ hf hn.1 (by simp [go_sem, hc, hpb]) (by simp [go_sem, hz, hpb]) h0 (by omega) (by simp; omega)).mono ?_
  rintro e w1 ⟨rfl, ho, hc1, hz1⟩
  have hbx : w1.cell? ⟨w.heap.size, 3, none⟩ = some (.slice A (flen l) cap) := by rw [ho.cell (by simp) (by simp; omega)]; simp [go_sem]
  cases hm : mayB a (flen l) deep c
  · go_wp2_with fail
    go_ret
    exact ⟨ret_bool (by simp [mayT, hm]), (Only.alloc (Only.refl _ _) _).trans ho, by rw [hc1]; simp [mayT, hm], hz1⟩
  · have HT : Hid (mayT a l deep c = mayF l (deep + 1) (c + 1)) := by show mayT a l deep c = _; rw [mayT, if_pos hm]
    go_wp2_with fail
    go_loopw [16] (fun iv wr => ∃ (i : Nat) (g : Fo) (ci : Int), iv = .int .i64 i ∧ i + flen g = flen l ∧ AllF WalkMay g ∧ RepF wr B g b (o + i * 4) ∧ mayF l (deep + 1) (c + 1) = mayF g (deep + 1) ci ∧ 0 ≤ ci ∧ ci ≤ 64 ∧
        Only pb w wr ∧ w.heap.size < wr.heap.size ∧ wr.cell? ⟨w.heap.size, 3, none⟩ = some (.slice A (flen l) cap) ∧ wr.cell? ⟨pb, 0, none⟩ = some (.int .i64 ci) ∧ wr.frozen? ⟨pb, 0, none⟩ = false) (fun iv _ => flen l - (intOf iv).toNat)
    case atStart =>
      refine ⟨0, l, c + 1, rfl, by simp, ih, ?_, rfl, by omega, ?_, (Only.alloc (Only.refl _ _) _).trans ho, ?_, hbx, hc1, hz1⟩
      · rw [show o + 0 * 4 = o from by omega]
        exact RepF.keep (Nat.le_refl _) (fun b' o' hb' => by rw [ho.cell (by simp; omega) (by simp; omega)]; exact World.cell?_alloc_past _ _ _ (by omega)) hr
      · have := hm; simp only [mayB, Bool.and_eq_true, decide_eq_true_eq] at this; omega
      · have := ho.size; simp at this; omega
    case round =>
      obtain ⟨i, g, ci, rfl, hi, hg, hrg, hmf, hci0, hci1, how, hsz, hbx1, hcw, hzw⟩ := hrel
      have Hmf : Hid (mayF l (deep + 1) (c + 1) = mayF g (deep + 1) ci) := hmf
      clear hmf hbx hc1 hz1 ho hr
      cases g with
      | nil => 
        simp only [flen] at hi
        go_wp2_with fail
        go_ret
        exact ⟨ret_bool (by rw [HT.out, Hmf.out, mayF]), how, by rw [hcw, HT.out, Hmf.out, mayF], hzw⟩
      | node b1 o1 a1 l1 r1 =>
        obtain ⟨hb1, hf1, e0, e1, e2, ⟨A1, cap1, b2, o2, e3, hn1, hA1, hl1⟩, hr1⟩ := hrg
        obtain ⟨hw1, hgr⟩ := hg
        simp only [flen] at hi
        obtain rfl : A = some ⟨b, o, none⟩ := by rcases hA with h | h; omega; exact h
        have HA1 : Hid (flen l1 = 0 ∨ A1 = some ⟨b2, o2, none⟩) := hA1
        clear hA1 hA
        have hd2 : deep ≤ 16 := by have := hm; simp only [mayB, Bool.and_eq_true, decide_eq_true_eq] at this; omega
        go_wp2_with fail
        refine (hw1 _ B (deep + 1) ci pb wr ⟨hf1, A1, cap1, b2, o2, rfl, hn1, HA1.out, hl1⟩ hB (by have := how.size; omega) hci0 hci1 (by omega) (by omega) hcw hzw).mono ?_
        rintro e w2 ⟨rfl, ho2, hc2, hz2⟩
        have hge := mayT_ge a1 l1 (deep + 1) ci
        cases hm1 : (mayT a1 l1 (deep + 1) ci).1
        · go_wp2_with fail
          go_ret
          exact ⟨ret_bool (by rw [HT.out, Hmf.out, mayF_node, if_neg (by simp [hm1])]), how.trans ho2, by rw [hc2, HT.out, Hmf.out, mayF_node, if_neg (by simp [hm1])], hz2⟩
        · have hle := mayT_le a1 l1 (deep + 1) ci hci1 hm1
          go_wp2_with fail
          go_roundw
          case rel =>
            refine ⟨i + 1, r1, (mayT a1 l1 (deep + 1) ci).2, by go_num, by omega, hgr, ?_, ?_, by omega, hle, how.trans ho2, by have := ho2.size; omega, ?_, hc2, hz2⟩
            · rw [show o + (i + 1) * 4 = o + i * 4 + 4 from by omega]
              exact RepF.keep (Nat.le_refl _) (fun b' o' hb' => ho2.cell (by have := how.size; simp; omega) (by simp; omega)) hr1
            · rw [Hmf.out, mayF_node, if_pos hm1]
            · rw [ho2.cell (by simp; omega) (by simp; omega)]; exact hbx1
          case measure => simp [intOf]; omega

theorem walkMay_all : ∀ f : Fo, AllF WalkMay f
  | .nil => trivial
  | .node _ _ a l r => ⟨walkMay_step a l (walkMay_all l), walkMay_all r⟩

theorem walkMay_any (a : Nd) (l : Fo) : WalkMay a l := walkMay_step a l (walkMay_all l)

/-- term.May. -/
def may (a : Nd) (l : Fo) : Bool := (mayT a l 1 0).1

set_option maxHeartbeats 1000000 in
theorem may_any (a : Nd) (l : Fo) (v : Value) (w : World) (hr : RepV w w.heap.size a l v) :
    Calls Tryz.prog 53 #[v] w fun e w' => e = .returned (.bool (may a l)) ∧ Below w.heap.size w w' := by
  obtain ⟨hf, A, cap, b, o, rfl, hn, hA, hl⟩ := hr
  have HA : Hid (flen l = 0 ∨ A = some ⟨b, o, none⟩) := hA
  clear hA
  go_enter Tryz.func53, Tryz.ntmps53
  go_wp2_with fail
  refine (walkMay_any a l _ w.heap.size 1 0 (w.heap.size + 1) _ ⟨hf, A, cap, b, o, rfl, hn, HA.out, ?_⟩ (by omega) (by simp) (by omega) (by omega) (by omega) (by omega) (by simp [go_sem]) (by simp [go_sem])).mono ?_
  · exact RepF.keep (Nat.le_refl _) (fun b' o' hb' => by simp [go_sem, hb', Nat.lt_succ_of_lt hb']) hl
  rintro e w1 ⟨rfl, ho, hc1, hz1⟩
  go_wp2_with fail
  go_ret
  refine ⟨rfl, Below.trans (by repeat (first | exact Below.refl _ _ | assumption | refine below_drewN ?_ _ | refine Below.drew ?_ | refine Below.alloc ?_ (by simp <;> omega) _ | refine Below.setCell ?_ (by simp <;> omega) _)) (ho.toBelow (by omega) (by simp; omega))⟩

end Go.Proofs.YtgmmbfnmojjbkaaGreatDoor
