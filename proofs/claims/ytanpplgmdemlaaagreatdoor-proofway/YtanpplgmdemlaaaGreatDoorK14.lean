import Derived.Test.YtanpplgmdemlaaaGreatDoorWZ
import Derived.Test.YtanpplgmdemlaaaGreatDoorKQ
namespace Go.Proofs.YtanpplgmdemlaaaGreatDoor
open Go.RowKit
set_option linter.unusedVariables false
set_option linter.unusedSimpArgs false

/-- Whether a term is among some. -/
def amongB (ks : List Kd) (a : Nd) (l : Fo) : Bool := ks.any fun k => ordT k.a k.l a l == 0

theorem among_true {ks : List Kd} {a : Nd} {l : Fo} {n : Nat} (hn : n < ks.length) (h : ordT (ks.getD n kd0).a (ks.getD n kd0).l a l = 0) : amongB ks a l = true := by
  unfold amongB
  rw [List.any_eq_true]
  exact ⟨_, getD_mem hn, beq_iff_eq.2 h⟩
theorem among_false {ks : List Kd} {a : Nd} {l : Fo} (h : ∀ j, j < ks.length → ordT (ks.getD j kd0).a (ks.getD j kd0).l a l ≠ 0) : amongB ks a l = false := by
  unfold amongB
  rw [List.any_eq_false]
  intro k hk
  obtain ⟨j, hj, rfl⟩ := List.getElem_of_mem hk
  have := h j hj
  rw [show ks.getD j kd0 = ks[j] from by simp [List.getD, List.getElem?_eq_getElem hj]] at this
  simpa using this
theorem among_iff (ks : List Kd) (a : Nd) (l : Fo) : amongB ks a l = true ↔ InL (tms ks) (nm (a, l)) := by
  unfold amongB
  rw [List.any_eq_true]
  constructor
  · rintro ⟨k, hk, e⟩
    exact ⟨(k.a, k.l), List.mem_map_of_mem hk, nm_iff.2 (by simpa using e)⟩
  · rintro ⟨x, hx, e⟩
    rw [tms, List.mem_map] at hx
    obtain ⟨k, hk, rfl⟩ := hx
    exact ⟨k, hk, by simpa using nm_iff.1 e⟩

def AmRel (w : World) (ks : List Kd) (a : Nd) (l : Fo) (iv : Value) (wr : World) : Prop :=
  ∃ n : Nat, iv = .int .i64 (n : Int) ∧ n ≤ ks.length ∧ (∀ j, j < n → ordT (ks.getD j kd0).a (ks.getD j kd0).l a l ≠ 0) ∧ Below w.heap.size w wr

set_option maxRecDepth 20000 in
set_option maxHeartbeats 2000000 in
theorem among_any (ks : List Kd) (vo : Value) (a : Nd) (l : Fo) (v : Value) (B : Nat) (w : World) (h : SlT w vo ks) (hl : ks.length ≤ 1000) (hv : RepV w B a l v) (hB : B ≤ w.heap.size) (k1 : (flen l : Int) = kidsOf a.kind) (r1 : ArF l) :
    Calls Tryz.prog 48 #[vo, v] w fun e w' => e = .returned (.bool (amongB ks a l)) ∧ Below w.heap.size w w' := by
  obtain ⟨A, c, rfl, hA⟩ := h.len
  have HA : Hid (ks.length = 0 ∨ ∃ g, A = some ⟨g, 0, none⟩ ∧ RowT w g ks) := hA
  have HV : Hid (RepV w B a l v) := hv
  obtain ⟨hf, A', cap', b', o', rfl, hn', hA', hr'⟩ := hv
  have K1 : Hid ((flen l : Int) = kidsOf a.kind) := k1
  clear hA h hA' hr' k1
  go_enter Tryz.func48, Tryz.ntmps48
  go_wp2_with fail
  obtain ⟨W, hW⟩ : ∃ W : World, W = w.alloc (.cells #[.int .i64 a.kind, .int .i64 a.n, .string a.s, .slice A' (flen l) cap'] 27) := ⟨_, rfl⟩
  have hbx : Box4 W w.heap.size (.int .i64 a.kind) (.int .i64 a.n) (.string a.s) (.slice A' (flen l) cap') := by rw [hW]; exact Box4.new w _ _ _ _ _
  have hbA : Below w.heap.size w W := by rw [hW]; exact Below.alloc (Below.refl _ _) (Nat.le_refl _) _
  rw [← hW]
  clear hW
  have HBX : Hid (Box4 W w.heap.size (.int .i64 a.kind) (.int .i64 a.n) (.string a.s) (.slice A' (flen l) cap')) := hbx
  clear hbx
  go_loopw [5] (fun iv wr => AmRel W ks a l iv wr) (fun iv _ => ks.length - (intOf iv).toNat)
  case atStart => exact ⟨0, rfl, by omega, fun j hj => by omega, Below.refl _ _⟩
  case round =>
    obtain ⟨n, rfl, hn, hno, hbl⟩ := hrel
    have HNO : Hid (∀ j, j < n → ordT (ks.getD j kd0).a (ks.getD j kd0).l a l ≠ 0) := hno
    have hsW := hbA.size
    clear hno
    by_cases hlt : n < ks.length
    · obtain ⟨g, rfl, hrow⟩ : ∃ g, A = some ⟨g, 0, none⟩ ∧ RowT w g ks := by rcases HA.out with h | h; omega; exact h
      have e1 := fun (W' : World) (hW : Below W.heap.size W W') => (hrow.below (hbA.trans (hW.mono hsW))).at n hlt
      have c1 : ∀ W', Below W.heap.size W W' → Calls Tryz.prog 13 #[(ks.getD n kd0).val, .agg #[.int .i64 a.kind, .int .i64 a.n, .string a.s, .slice A' (flen l) cap']] W' fun e w' => e = .returned (.bool (ordT (ks.getD n kd0).a (ks.getD n kd0).l a l == 0)) ∧ Below W.heap.size W w' :=
        fun W' hW => by
          have hb := hbA.trans (hW.mono hsW)
          have hok := (hrow.below hb).ok n hlt
          refine (refSame_any _ _ a l _ _ W'.heap.size W' (Kd.rep hok.1) (RepV.keep (by have := hb.size; omega) (fun b o hb' => (hb.mono hB).cell hb') HV.out) (Nat.le_refl _) hok.2.1 K1.out hok.2.2 r1).mono ?_
          exact fun e w' h => ⟨h.1, hW.trans (h.2.mono hW.size)⟩
      have HY : Hid (ordT (ks.getD n kd0).a (ks.getD n kd0).l a l = ordT (ks.getD n kd0).a (ks.getD n kd0).l a l) := rfl
      generalize hx0 : ks.getD n kd0 = x at *
      have HX : Hid (ks.getD n kd0 = x) := hx0
      obtain ⟨y, hy⟩ : ∃ y : Int, ordT x.a x.l a l = y := ⟨_, rfl⟩
      have HYY : Hid (ordT x.a x.l a l = y) := hy
      rw [hy] at c1
      have E1 : Hid _ := e1
      have C1 : Hid _ := c1
      clear e1 c1 hrow hx0 hy HY
      have hni : (n : Int) < (ks.length : Int) := by omega
      go_wp2_with fail
      go_region_held3 (fun w' => (w'.cell? ⟨g, n * 4, none⟩ = some (.int .i64 x.a.kind) ∧ w'.cell? ⟨g, n * 4 + 1, none⟩ = some (.int .i64 x.a.n) ∧ w'.cell? ⟨g, n * 4 + 2, none⟩ = some (.string x.a.s) ∧ w'.cell? ⟨g, n * 4 + 3, none⟩ = some (.slice x.A (flen x.l) x.cap)) ∧ Box4 w' w.heap.size (.int .i64 a.kind) (.int .i64 a.n) (.string a.s) (.slice A' (flen l) cap') ∧ Below W.heap.size W w')
        (first | exact ⟨E1.out _ hbl.drew, HBX.out.below hbl.drew, hbl.drew⟩ | exact ⟨E1.out _ ho1, HBX.out.below ho1, ho1⟩)
        (first
          | (go_at_call 13; refine (C1.out _ ?_).mono ?_; exact (And.right (And.right (by assumption))); rintro e w1 ⟨rfl, ho1⟩))
      by_cases hy : y = 0
      · have hy' : (y == 0) = true := by simp [hy]
        go_wp2_with fail
        go_ret
        refine ⟨ret_bool (among_true hlt (n := n) ?_).symm, hbA.trans (ho1.mono hsW)⟩
        rw [HX.out, HYY.out]; exact hy
      · have hy' : (y == 0) = false := by simp [hy]
        go_wp2_with fail
        go_roundw
        case rel =>
          refine ⟨n + 1, by go_num, hlt, fun j hj => ?_, ho1⟩
          rcases Nat.lt_or_ge j n with h | h
          · exact HNO.out j h
          · obtain rfl : j = n := by omega
            rw [HX.out, HYY.out]; exact hy
        case measure => simp [intOf]; omega
    · obtain rfl : n = ks.length := by omega
      have hni : decide ((ks.length : Int) < (ks.length : Int)) = false := by simp
      go_wp2_with fail
      go_ret
      exact ⟨ret_bool (among_false HNO.out).symm, hbA.trans (hbl.mono hsW)⟩

def MadeOk (ks : List Kd) (vo : Value) (a : Nd) (l : Fo) : Prop := ∀ (v : Value) (B : Nat) (w : World), SlT w vo ks → RepV w B a l v → B ≤ w.heap.size → (flen l : Int) = kidsOf a.kind → ArF l →
    Calls Tryz.prog 23 #[vo, v] w fun e w' => e = .returned (.bool (canT (amongB ks) a l)) ∧ Below w.heap.size w w'

def MadeRel (w : World) (B : Nat) (ks : List Kd) (vo : Value) (l : Fo) (b o : Nat) (iv : Value) (wr : World) : Prop :=
  ∃ (i : Nat) (g : Fo), iv = .int .i64 (i : Int) ∧ i + flen g = flen l ∧ AllF (MadeOk ks vo) g ∧ ArF g ∧ RepF wr B g b (o + i * 4) ∧ Below w.heap.size w wr ∧ canF (amongB ks) l = canF (amongB ks) g

set_option maxRecDepth 100000 in
set_option maxHeartbeats 4000000 in
theorem made_step (ks : List Kd) (vo : Value) (hl : ks.length ≤ 1000) (a : Nd) (l : Fo) (ih : AllF (MadeOk ks vo) l) : MadeOk ks vo a l := by
  rintro v B w hsl ⟨hf, A, cap, b, o, rfl, hn, hA, hr⟩ hB k1 r1
  obtain ⟨OA, oc, rfl, _⟩ := hsl.len
  have HA : Hid (flen l = 0 ∨ A = some ⟨b, o, none⟩) := hA
  have HR : Hid (RepF w B l b o) := hr
  have HSL : Hid (SlT w (.slice OA ks.length oc) ks) := hsl
  have K1 : Hid ((flen l : Int) = kidsOf a.kind) := k1
  clear hA hr hsl k1
  have hbA : Below w.heap.size w (w.alloc (.cells #[.int .i64 a.kind, .int .i64 a.n, .string a.s, .slice A (flen l) cap] 27)) := Below.alloc (Below.refl _ _) (Nat.le_refl _) _
  go_enter Tryz.func23, Tryz.ntmps23
  by_cases h1 : a.kind = 1
  · have k1 : (a.kind == 1) = true := by simp [h1]
    have HC : Hid (canT (amongB ks) a l = true) := by show canT (amongB ks) a l = true; rw [canT, k1]; rfl
    clear h1
    go_wp2_with fail
    go_ret
    exact ⟨ret_bool HC.out.symm, hbA⟩
  · have k1 : (a.kind == 1) = false := by simp [h1]
    go_wp2_with fail
    refine (among_any ks _ a l _ B _ (HSL.out.below hbA) hl ⟨hf, A, cap, b, o, rfl, hn, HA.out, HR.out.below (hbA.mono hB)⟩ (by simp; omega) K1.out r1).mono ?_
    rintro e w1 ⟨rfl, hb1⟩
    have hbw : Below w.heap.size w w1 := hbA.trans (hb1.mono (by simp))
    obtain ⟨x0, x1, x2, x3, x4⟩ : Box4 w1 w.heap.size (.int .i64 a.kind) (.int .i64 a.n) (.string a.s) (.slice A (flen l) cap) := (Box4.new w _ _ _ _ _).below hb1
    obtain ⟨bb, hbb⟩ : ∃ bb : Bool, amongB ks a l = bb := ⟨_, rfl⟩
    have HBB : Hid (amongB ks a l = bb) := hbb
    rw [hbb]
    clear hbb
    cases bb with
    | true =>
      have HC : Hid (canT (amongB ks) a l = true) := by show canT (amongB ks) a l = true; rw [canT, HBB.out]; simp
      go_wp2_with fail
      go_ret
      exact ⟨ret_bool HC.out.symm, hbw⟩
    | false =>
      by_cases h2 : a.kind = 2
      · have k2 : (a.kind == 2) = true := by simp [h2]
        have HC : Hid (canT (amongB ks) a l = false) := by show canT (amongB ks) a l = false; rw [canT, HBB.out, k1, k2]; rfl
        go_wp2_with fail
        go_ret
        exact ⟨ret_bool HC.out.symm, hbw⟩
      · have k2 : (a.kind == 2) = false := by simp [h2]
        have HC : Hid (canT (amongB ks) a l = canF (amongB ks) l) := by show canT (amongB ks) a l = _; rw [canT, HBB.out, k1, k2]; simp
        clear h1 h2
        go_wp2_with fail
        go_loopw [5] (fun iv wr => MadeRel w1 B ks (.slice OA ks.length oc) l b o iv wr) (fun iv _ => flen l - (intOf iv).toNat)
        case atStart => exact ⟨0, l, rfl, by simp, ih, r1, by rw [show o + 0 * 4 = o from by omega]; exact HR.out.below (hbw.mono hB), Below.refl _ _, rfl⟩
        case round =>
          obtain ⟨i, g, rfl, hi, hg1, hdg, hrg, hbl, hcf⟩ := hrel
          have HCF : Hid (canF (amongB ks) l = canF (amongB ks) g) := hcf
          have hszr := hbl.size
          have hs1 := hbw.size
          have y4 : wr.cell? ⟨w.heap.size, 3, none⟩ = some (.slice A (flen l) cap) := by rw [hbl.cell (by simpa using x0)]; exact x4
          clear hcf x1 x2 x3 x4
          cases g with
          | nil =>
            simp only [flen] at hi
            go_wp2_with fail
            go_ret
            exact ⟨ret_bool (by rw [HC.out, HCF.out, canF]), hbw.trans (hbl.mono hs1)⟩
          | node b1 o1 a1 l1 q1 =>
            obtain ⟨hb1', hf1, e0, e1, e2, ⟨A1, cap1, b2, o2, e3, hn1, hA1, hl1⟩, hr1⟩ := hrg
            obtain ⟨hw1, hgr1⟩ := hg1
            obtain ⟨ka, al, arr⟩ := hdg
            simp only [flen] at hi
            obtain rfl : A = some ⟨b, o, none⟩ := by rcases HA.out with h | h; omega; exact h
            have HA1 : Hid (flen l1 = 0 ∨ A1 = some ⟨b2, o2, none⟩) := hA1
            have Ka : Hid ((flen l1 : Int) = kidsOf a1.kind) := ka
            clear hA1 ka
            go_wp2_with fail
            refine (hw1 _ B _ (HSL.out.below (hbw.trans (hbl.mono hs1))) ⟨hf1, A1, cap1, b2, o2, rfl, hn1, HA1.out, hl1⟩ (by omega) Ka.out al).mono ?_
            rintro e w8 ⟨rfl, hB8⟩
            have hr2 : RepF w8 B q1 b (o + i * 4 + 4) := RepF.keep (Nat.le_refl _) (fun q j hq => hB8.cell (by simp; omega)) hr1
            have HCN : Hid (canF (amongB ks) l = (canT (amongB ks) a1 l1 && canF (amongB ks) q1)) := by show canF (amongB ks) l = _; rw [HCF.out, canF_node]
            clear e0 e1 e2 e3 y4
            obtain ⟨cc, hcc⟩ : ∃ cc : Bool, canT (amongB ks) a1 l1 = cc := ⟨_, rfl⟩
            have HCC : Hid (canT (amongB ks) a1 l1 = cc) := hcc
            rw [hcc]
            clear hcc
            cases cc with
            | false =>
              go_wp2_with fail
              go_ret
              exact ⟨ret_bool (by rw [HC.out, HCN.out, HCC.out]; rfl), hbw.trans ((hbl.trans (hB8.mono hszr)).mono hs1)⟩
            | true =>
              go_wp2_with fail
              go_roundw
              case rel =>
                exact ⟨i + 1, q1, by go_num, by omega, hgr1, arr, by rw [show o + (i + 1) * 4 = o + i * 4 + 4 from by omega]; exact hr2, hbl.trans (hB8.mono hszr), by rw [HCN.out, HCC.out]; rfl⟩
              case measure => simp [intOf]; omega

theorem made_all (ks : List Kd) (vo : Value) (hl : ks.length ≤ 1000) : ∀ f : Fo, AllF (MadeOk ks vo) f
  | .nil => trivial
  | .node _ _ a l r => ⟨made_step ks vo hl a l (made_all ks vo hl l), made_all ks vo hl r⟩

end Go.Proofs.YtanpplgmdemlaaaGreatDoor
