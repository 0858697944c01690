import Derived.Test.YtnogkmhiedmhoaaD3
namespace Go.Proofs.Ytnogkmhiedmhoaa
open Go.RowKit
set_option linter.unusedVariables false
set_option linter.unusedSimpArgs false

/-- A block of three cells that may be written. -/
abbrev Own3 (w : World) (q : Nat) (v0 v1 v2 : Value) : Prop := Box3 w q v0 v1 v2 ∧ ∀ j, w.frozen? ⟨q, j, none⟩ = false

theorem Own3.below {w w' : World} {q : Nat} {v0 v1 v2 : Value} (h : Own3 w q v0 v1 v2) (hb : Below w.heap.size w w') : Own3 w' q v0 v1 v2 :=
  ⟨h.1.below hb, fun j => by rw [hb.frozen h.1.1]; exact h.2 j⟩

theorem Own3.alloc {w : World} {q : Nat} {v0 v1 v2 : Value} (h : Own3 w q v0 v1 v2) (o : Obj) : Own3 (w.alloc o) q v0 v1 v2 := h.below (Below.alloc (Below.refl _ _) (Nat.le_refl _) _)

theorem Own3.set {w : World} {q : Nat} {v0 v1 v2 : Value} (h : Own3 w q v0 v1 v2) (u0 u1 u2 : Value) : Own3 (((w.setCell ⟨q, 0, none⟩ u0).setCell ⟨q, 1, none⟩ u1).setCell ⟨q, 2, none⟩ u2) q u0 u1 u2 := by
  obtain ⟨⟨h0, h1, h2, h3⟩, hz⟩ := h
  refine ⟨⟨by simp [World.setCell]; exact h0, by simp [go_sem, h1], by simp [go_sem, h2], by simp [go_sem, h3]⟩, fun j => ?_⟩
  simp only [World.frozen?_setCell]; exact hz j

theorem Box3.set {w : World} {q m : Nat} {v0 v1 v2 : Value} (h : Box3 w m v0 v1 v2) (hm : m ≠ q) (u0 u1 u2 : Value) : Box3 (((w.setCell ⟨q, 0, none⟩ u0).setCell ⟨q, 1, none⟩ u1).setCell ⟨q, 2, none⟩ u2) m v0 v1 v2 := by
  obtain ⟨h0, h1, h2, h3⟩ := h
  have e : ∀ j i : Nat, (⟨m, j, none⟩ : Addr) ≠ ⟨q, i, none⟩ := fun j i e => hm (by injection e)
  refine ⟨by simp [World.setCell]; exact h0, ?_, ?_, ?_⟩ <;> (rw [World.cell?_setCell_other _ _ _ _ (e _ _).symm, World.cell?_setCell_other _ _ _ _ (e _ _).symm, World.cell?_setCell_other _ _ _ _ (e _ _).symm]; assumption)

/-- What stands ahead of a round of the loop. -/
def OnceRel (w : World) (q n : Nat) (lv cv iv : Value) (wr : World) : Prop := ∃ (k : Nat) (N C T L K : Int), lv = .int .i64 L ∧ cv = .int .i64 K ∧ iv = .int .i64 k ∧ k ≤ n ∧ (0 ≤ L ∧ L < N ∧ N ≤ 1 + k) ∧ (0 ≤ K ∧ K < C ∧ C ≤ 1 + k) ∧ 0 ≤ T ∧ T ≤ 1099511627776 ∧ Below w.heap.size w wr ∧ Own3 wr q (.int .i64 N) (.int .i64 C) (.int .i64 T)

theorem until_top_le (t b : Int) (h1 : 0 ≤ t) (h2 : t ≤ 1099511627776) : t ≤ untilI t b ∧ untilI t b ≤ 1099511627776 := by unfold untilI; omega

set_option maxRecDepth 20000 in
set_option maxHeartbeats 4000000 in
theorem drawOnce_any (ns : List Int) (LA : Option Addr) (cap B : Nat) (w : World) (hB : B ≤ w.heap.size) (hns : NumsAt w B ns LA) (hf : NumsFit ns) :
    Calls Try.prog 4 #[.slice LA ns.length cap] w fun e w' => e = .returned (.bool true) ∧ Below w.heap.size w w' := by
  have hfl := hf.1
  by_cases hbig : (ns.length : Int) > 200
  · go_enter Try.func4, Try.ntmps4
    go_wp2_with fail
    refine (known5_any _).mono ?_
    rintro e w1 ⟨rfl, ho1⟩
    go_wp2_with fail
    go_ret
    exact ⟨rfl, ho1⟩
  go_enter Try.func4, Try.ntmps4
  go_wp2_with fail
  refine (known5_any _).mono ?_
  rintro e w1 ⟨rfl, ho1⟩
  go_wp2_with fail
  refine (new_any _).mono ?_
  rintro e w2 ⟨rfl, ho2⟩
  have hb2 : Below w.heap.size w w2 := ho1.trans (ho2.mono ho1.size)
  have hq := hb2.size
  clear ho1 ho2
  go_wp2_with fail
  go_loopw [4, 5, 6] (fun lv cv iv wr => OnceRel w w2.heap.size ns.length lv cv iv wr) (fun _ _ iv _ => ns.length - (intOf iv).toNat)
  case atStart =>
    exact ⟨0, 1, 1, 0, 0, 0, rfl, rfl, rfl, by omega, by omega, by omega, by omega, by omega, hb2.alloc hq _, ⟨by simp, by simp [go_sem], by simp [go_sem], by simp [go_sem]⟩, fun j => by simp [go_sem]⟩
  case round =>
    generalize w2.heap.size = q at *
    clear hb2
    obtain ⟨k, N, C, T, L, K, rfl, rfl, rfl, hk, hL, hK, t1, t2, hbr, own⟩ := hrel
    by_cases hlk : (k : Int) < (ns.length : Int)
    · obtain ⟨lb, lo, rfl, hlb, hcells⟩ : ∃ lb lo, LA = some ⟨lb, lo, none⟩ ∧ lb < B ∧ ∀ i, i < ns.length → w.cell? ⟨lb, lo + i, none⟩ = some (.int .i64 (ns.getD i 0)) := by
        rcases hns with h | h
        · rw [h] at hlk; simp at hlk; omega
        · exact h
      have hfx := hf.2 k
      have hx0 := hcells k (by omega)
      have hx : Hid (∀ W, Below w.heap.size w W → W.cell? ⟨lb, lo + k, none⟩ = some (.int .i64 (ns.getD k 0))) := fun W hW => by rw [hW.cell (by simp; omega)]; exact hx0
      clear hcells hx0
      generalize ns.getD k 0 = x at *
      have hlq : lb < q := by omega
      have hlr : lb < wr.heap.size := by have := hbr.size; omega
      have hk0 : (0 : Int) ≤ (k : Int) := by omega
      obtain ⟨v, hv, v1, v2⟩ : ∃ v, x % 100 = v ∧ 0 ≤ v ∧ v < 100 := ⟨_, rfl, by omega, by omega⟩
      have k100 : Hid (∀ w : World, Calls Try.prog 7 #[.int .i64 x, .int .i64 100] w fun e w' => e = .returned (.int .i64 v) ∧ w' = w) := fun w => by
        have h := within5_any x 100 w (by omega) (by omega) hfx.1 hfx.2
        rwa [hv] at h
      clear hv
      have hxr := hx.out wr hbr
      obtain ⟨⟨x0, x1, x2, x3⟩, xz⟩ := own
      have hqr : q < wr.heap.size := x0
      have own : Hid (Own3 wr q (.int .i64 N) (.int .i64 C) (.int .i64 T)) := ⟨⟨x0, x1, x2, x3⟩, xz⟩
      clear xz hns
      obtain h3 | h3 | h3 : x % 3 = 0 ∨ x % 3 = 1 ∨ x % 3 = 2 := by omega
      · have k3 : Hid (∀ w : World, Calls Try.prog 7 #[.int .i64 x, .int .i64 3] w fun e w' => e = .returned (.int .i64 0) ∧ w' = w) := fun w => by
          have h := within5_any x 3 w (by omega) (by omega) hfx.1 hfx.2
          rwa [h3] at h
        clear h3
        go_wp2_with fail
        refine (k3.out _).mono ?_
        rintro e wy ⟨rfl, rfl⟩
        go_wp2_with fail
        refine (nonce_lo N C T _ (by omega) (by omega)).mono ?_
        rintro e w4 ⟨rfl, ho4⟩
        have o4 := (own.out.alloc (.cells #[.int .i64 N, .int .i64 C, .int .i64 T] 25)).below ho4
        have p4 : Box3 w4 wr.heap.size (.int .i64 N) (.int .i64 C) (.int .i64 T) := Box3.below ⟨by simp, by simp [go_sem], by simp [go_sem], by simp [go_sem]⟩ ho4
        have hb4 : Below w.heap.size w w4 := Below.trans (hbr.alloc hbr.size _) (ho4.mono (by have := hbr.size; simp; omega))
        clear x0 x1 x2 x3 ho4 hxr
        obtain ⟨⟨x0, x1, x2, x3⟩, xz⟩ := o4
        have o4 : Hid (Own3 w4 q (.int .i64 N) (.int .i64 C) (.int .i64 T)) := ⟨⟨x0, x1, x2, x3⟩, xz⟩
        have f0 := xz 0
        have f1 := xz 1
        have f2 := xz 2
        clear xz
        go_wp2_with fail
        go_region
        have own3 := ((o4.out.set (.int .i64 (N + 1)) (.int .i64 (C)) (.int .i64 (T))).alloc (.cells #[.int .i64 (N + 1), .int .i64 (C), .int .i64 (T)] 25)).below (Below.drew (Below.refl _ _))
        have was3 := ((p4.set (q := q) (by omega) (.int .i64 (N + 1)) (.int .i64 (C)) (.int .i64 (T))).below (Below.alloc (Below.refl _ _) (Nat.le_refl _) (.cells #[.int .i64 (N + 1), .int .i64 (C), .int .i64 (T)] 25))).below (Below.drew (Below.refl _ _))
        have hb3 := Below.drew (Below.alloc (Below.set3 hb4 (q := q) (by omega) (.int .i64 (N + 1)) (.int .i64 (C)) (.int .i64 (T))) (by have := hb4.size; simp [World.setCell]; omega) (.cells #[.int .i64 (N + 1), .int .i64 (C), .int .i64 (T)] 25))
        clear x0 x1 x2 x3 f0 f1 f2 o4 p4 hb4 own hqr hlr
        generalize hw3 : World.drew _ = w3 at own3 was3 hb3 ⊢
        have hU := until_top_le T v (by omega) (by omega)
        have kU : Hid (∀ w : World, Calls Try.prog 14 #[.int .i64 T, .int .i64 v] w fun e w' => e = .returned (.int .i64 (untilI T v)) ∧ w' = w) := fun w => until_any T v w (by omega) (by omega) (by omega) (by omega)
        generalize untilI T v = U at *
        clear hw3
        obtain ⟨⟨s0, s1, s2, s3⟩, sz⟩ := own3
        have own3 : Hid (Own3 w3 q (.int .i64 (N + 1)) (.int .i64 C) (.int .i64 T)) := ⟨⟨s0, s1, s2, s3⟩, sz⟩
        obtain ⟨y0, y1, y2, y3⟩ := was3
        have hx3 := hx.out w3 hb3
        clear sz
        go_wp2_with fail
        go_quiet (first | (go_at_call 7; exact Calls.quiet_of_same (k100.out _)) | (go_at_call 14; exact Calls.quiet_of_same (kU.out _)))
        by_cases hTU : T < U
        · go_wp2_with fail
          refine (live_any U U _).mono ?_
          rintro e wz ⟨rfl, rfl⟩
          go_wp2_with fail
          refine (live_any T U _).mono ?_
          rintro e wz ⟨rfl, rfl⟩
          go_wp2_with fail
          go_roundw
          case rel => exact ⟨k + 1, (N + 1), C, T, _, _, rfl, rfl, by go_num, by omega, by omega, by omega, by omega, by omega, Below.trans hb3 (Below.mono (by exact (by repeat (first | exact Below.refl _ _ | assumption | refine below_drewN ?_ _ | refine Below.drew ?_ | refine Below.alloc ?_ (by simp <;> omega) _ | refine Below.setCell ?_ (by simp <;> omega) _))) hb3.size), Own3.below own3.out (by exact (by repeat (first | exact Below.refl _ _ | assumption | refine below_drewN ?_ _ | refine Below.drew ?_ | refine Below.alloc ?_ (by simp <;> omega) _ | refine Below.setCell ?_ (by simp <;> omega) _)))⟩
          case measure => simp [intOf]; omega
        · go_wp2_with fail
          refine (live_any U U _).mono ?_
          rintro e wz ⟨rfl, rfl⟩
          go_wp2_with fail
          go_roundw
          case rel => exact ⟨k + 1, (N + 1), C, T, _, _, rfl, rfl, by go_num, by omega, by omega, by omega, by omega, by omega, Below.trans hb3 (Below.mono (by exact (by repeat (first | exact Below.refl _ _ | assumption | refine below_drewN ?_ _ | refine Below.drew ?_ | refine Below.alloc ?_ (by simp <;> omega) _ | refine Below.setCell ?_ (by simp <;> omega) _))) hb3.size), Own3.below own3.out (by exact (by repeat (first | exact Below.refl _ _ | assumption | refine below_drewN ?_ _ | refine Below.drew ?_ | refine Below.alloc ?_ (by simp <;> omega) _ | refine Below.setCell ?_ (by simp <;> omega) _)))⟩
          case measure => simp [intOf]; omega
      · have k3 : Hid (∀ w : World, Calls Try.prog 7 #[.int .i64 x, .int .i64 3] w fun e w' => e = .returned (.int .i64 1) ∧ w' = w) := fun w => by
          have h := within5_any x 3 w (by omega) (by omega) hfx.1 hfx.2
          rwa [h3] at h
        clear h3
        go_wp2_with fail
        refine (k3.out _).mono ?_
        rintro e wy ⟨rfl, rfl⟩
        go_wp2_with fail
        refine (conn_lo N C T _ (by omega) (by omega)).mono ?_
        rintro e w4 ⟨rfl, ho4⟩
        have o4 := (own.out.alloc (.cells #[.int .i64 N, .int .i64 C, .int .i64 T] 25)).below ho4
        have p4 : Box3 w4 wr.heap.size (.int .i64 N) (.int .i64 C) (.int .i64 T) := Box3.below ⟨by simp, by simp [go_sem], by simp [go_sem], by simp [go_sem]⟩ ho4
        have hb4 : Below w.heap.size w w4 := Below.trans (hbr.alloc hbr.size _) (ho4.mono (by have := hbr.size; simp; omega))
        clear x0 x1 x2 x3 ho4 hxr
        obtain ⟨⟨x0, x1, x2, x3⟩, xz⟩ := o4
        have o4 : Hid (Own3 w4 q (.int .i64 N) (.int .i64 C) (.int .i64 T)) := ⟨⟨x0, x1, x2, x3⟩, xz⟩
        have f0 := xz 0
        have f1 := xz 1
        have f2 := xz 2
        clear xz
        go_wp2_with fail
        go_region
        have own3 := ((o4.out.set (.int .i64 (N)) (.int .i64 (C + 1)) (.int .i64 (T))).alloc (.cells #[.int .i64 (N), .int .i64 (C + 1), .int .i64 (T)] 25)).below (Below.drew (Below.refl _ _))
        have was3 := ((p4.set (q := q) (by omega) (.int .i64 (N)) (.int .i64 (C + 1)) (.int .i64 (T))).below (Below.alloc (Below.refl _ _) (Nat.le_refl _) (.cells #[.int .i64 (N), .int .i64 (C + 1), .int .i64 (T)] 25))).below (Below.drew (Below.refl _ _))
        have hb3 := Below.drew (Below.alloc (Below.set3 hb4 (q := q) (by omega) (.int .i64 (N)) (.int .i64 (C + 1)) (.int .i64 (T))) (by have := hb4.size; simp [World.setCell]; omega) (.cells #[.int .i64 (N), .int .i64 (C + 1), .int .i64 (T)] 25))
        clear x0 x1 x2 x3 f0 f1 f2 o4 p4 hb4 own hqr hlr
        generalize hw3 : World.drew _ = w3 at own3 was3 hb3 ⊢
        have hU := until_top_le T v (by omega) (by omega)
        have kU : Hid (∀ w : World, Calls Try.prog 14 #[.int .i64 T, .int .i64 v] w fun e w' => e = .returned (.int .i64 (untilI T v)) ∧ w' = w) := fun w => until_any T v w (by omega) (by omega) (by omega) (by omega)
        generalize untilI T v = U at *
        clear hw3
        obtain ⟨⟨s0, s1, s2, s3⟩, sz⟩ := own3
        have own3 : Hid (Own3 w3 q (.int .i64 N) (.int .i64 (C + 1)) (.int .i64 T)) := ⟨⟨s0, s1, s2, s3⟩, sz⟩
        obtain ⟨y0, y1, y2, y3⟩ := was3
        have hx3 := hx.out w3 hb3
        clear sz
        go_wp2_with fail
        go_quiet (first | (go_at_call 7; exact Calls.quiet_of_same (k100.out _)) | (go_at_call 14; exact Calls.quiet_of_same (kU.out _)))
        by_cases hTU : T < U
        · go_wp2_with fail
          refine (live_any U U _).mono ?_
          rintro e wz ⟨rfl, rfl⟩
          go_wp2_with fail
          refine (live_any T U _).mono ?_
          rintro e wz ⟨rfl, rfl⟩
          go_wp2_with fail
          go_roundw
          case rel => exact ⟨k + 1, N, (C + 1), T, _, _, rfl, rfl, by go_num, by omega, by omega, by omega, by omega, by omega, Below.trans hb3 (Below.mono (by exact (by repeat (first | exact Below.refl _ _ | assumption | refine below_drewN ?_ _ | refine Below.drew ?_ | refine Below.alloc ?_ (by simp <;> omega) _ | refine Below.setCell ?_ (by simp <;> omega) _))) hb3.size), Own3.below own3.out (by exact (by repeat (first | exact Below.refl _ _ | assumption | refine below_drewN ?_ _ | refine Below.drew ?_ | refine Below.alloc ?_ (by simp <;> omega) _ | refine Below.setCell ?_ (by simp <;> omega) _)))⟩
          case measure => simp [intOf]; omega
        · go_wp2_with fail
          refine (live_any U U _).mono ?_
          rintro e wz ⟨rfl, rfl⟩
          go_wp2_with fail
          go_roundw
          case rel => exact ⟨k + 1, N, (C + 1), T, _, _, rfl, rfl, by go_num, by omega, by omega, by omega, by omega, by omega, Below.trans hb3 (Below.mono (by exact (by repeat (first | exact Below.refl _ _ | assumption | refine below_drewN ?_ _ | refine Below.drew ?_ | refine Below.alloc ?_ (by simp <;> omega) _ | refine Below.setCell ?_ (by simp <;> omega) _))) hb3.size), Own3.below own3.out (by exact (by repeat (first | exact Below.refl _ _ | assumption | refine below_drewN ?_ _ | refine Below.drew ?_ | refine Below.alloc ?_ (by simp <;> omega) _ | refine Below.setCell ?_ (by simp <;> omega) _)))⟩
          case measure => simp [intOf]; omega
      · have k3 : Hid (∀ w : World, Calls Try.prog 7 #[.int .i64 x, .int .i64 3] w fun e w' => e = .returned (.int .i64 2) ∧ w' = w) := fun w => by
          have h := within5_any x 3 w (by omega) (by omega) hfx.1 hfx.2
          rwa [h3] at h
        clear h3
        go_wp2_with fail
        refine (k3.out _).mono ?_
        rintro e wy ⟨rfl, rfl⟩
        go_wp2_with fail
        obtain ⟨T', hT'⟩ : ∃ T', untilI T x = T' := ⟨_, rfl⟩
        have hT2 := until_top_le T x t1 t2
        rw [hT'] at hT2
        have kT : Hid (∀ w : World, Calls Try.prog 12 #[(.agg #[.int .i64 (N), .int .i64 (C), .int .i64 (T)]), .int .i64 x] w fun e w' => e = .returned (.agg #[.int .i64 (N), .int .i64 (C), .int .i64 (T')]) ∧ Below w.heap.size w w') := fun w => by
          have h := tick_any N C T x w t1 t2 hfx.1 hfx.2
          rwa [hT'] at h
        clear hT'
        have hxa : (wr.alloc (.cells #[.int .i64 N, .int .i64 C, .int .i64 T] 25)).cell? ⟨lb, lo + k, none⟩ = some (.int .i64 x) := hx.out _ (hbr.alloc hbr.size _)
        have f0 := own.out.2 0
        have f1 := own.out.2 1
        have f2 := own.out.2 2
        go_wp2_with fail
        go_region_with (go_at_call 12; refine (kT.out _).mono ?_; rintro e w4 ⟨rfl, ho4⟩; have ho5 : Below (wr.alloc (.cells #[.int .i64 N, .int .i64 C, .int .i64 T] 25)).heap.size (wr.alloc (.cells #[.int .i64 N, .int .i64 C, .int .i64 T] 25)) w4 := Below.trans (by first | exact Below.refl _ _ | exact Below.drew (Below.refl _ _)) (ho4.mono (by simp)); obtain ⟨⟨z0, z1, z2, z3⟩, zz⟩ := (own.out.alloc (.cells #[.int .i64 N, .int .i64 C, .int .i64 T] 25)).below ho5; have g0 := zz 0; have g1 := zz 1; have g2 := zz 2)
        all_goals
          have o4 : Own3 w4 q (.int .i64 N) (.int .i64 C) (.int .i64 T) := ⟨⟨z0, z1, z2, z3⟩, zz⟩
          have p4 : Box3 w4 wr.heap.size (.int .i64 N) (.int .i64 C) (.int .i64 T) := Box3.below ⟨by simp, by simp [go_sem], by simp [go_sem], by simp [go_sem]⟩ ho5
          have hb4 : Below w.heap.size w w4 := Below.trans (hbr.alloc hbr.size _) (ho5.mono (by have := hbr.size; simp; omega))
          have own3 := o4.set (.int .i64 (N)) (.int .i64 (C)) (.int .i64 (T'))
          have was3 := p4.set (q := q) (by omega) (.int .i64 (N)) (.int .i64 (C)) (.int .i64 (T'))
          have hb3 := Below.set3 hb4 (q := q) (by omega) (.int .i64 (N)) (.int .i64 (C)) (.int .i64 (T'))
          clear x0 x1 x2 x3 f0 f1 f2 g0 g1 g2 z0 z1 z2 z3 zz ho4 ho5 o4 p4 hb4 own hqr hlr hxa kT k3 hxr
          generalize hw3 : World.setCell _ _ _ = w3 at own3 was3 hb3 ⊢
          have hU := until_top_le T' v (by omega) (by omega)
          have kU : Hid (∀ w : World, Calls Try.prog 14 #[.int .i64 T', .int .i64 v] w fun e w' => e = .returned (.int .i64 (untilI T' v)) ∧ w' = w) := fun w => until_any T' v w (by omega) (by omega) (by omega) (by omega)
          generalize untilI T' v = U at *
          clear hw3
          obtain ⟨⟨s0, s1, s2, s3⟩, sz⟩ := own3
          have own3 : Hid (Own3 w3 q (.int .i64 N) (.int .i64 C) (.int .i64 T')) := ⟨⟨s0, s1, s2, s3⟩, sz⟩
          obtain ⟨y0, y1, y2, y3⟩ := was3
          have hx3 := hx.out w3 hb3
          clear sz
          go_wp2_with fail
          go_quiet (first | (go_at_call 7; exact Calls.quiet_of_same (k100.out _)) | (go_at_call 14; exact Calls.quiet_of_same (kU.out _)))
          by_cases hTU : T' < U
          · go_wp2_with fail
            refine (live_any U U _).mono ?_
            rintro e wz ⟨rfl, rfl⟩
            go_wp2_with fail
            refine (live_any T' U _).mono ?_
            rintro e wz ⟨rfl, rfl⟩
            go_wp2_with fail
            go_roundw
            case rel => exact ⟨k + 1, N, C, T', _, _, rfl, rfl, by go_num, by omega, by omega, by omega, by omega, by omega, Below.trans hb3 (Below.mono (by exact (by repeat (first | exact Below.refl _ _ | assumption | refine below_drewN ?_ _ | refine Below.drew ?_ | refine Below.alloc ?_ (by simp <;> omega) _ | refine Below.setCell ?_ (by simp <;> omega) _))) hb3.size), Own3.below own3.out (by exact (by repeat (first | exact Below.refl _ _ | assumption | refine below_drewN ?_ _ | refine Below.drew ?_ | refine Below.alloc ?_ (by simp <;> omega) _ | refine Below.setCell ?_ (by simp <;> omega) _)))⟩
            case measure => simp [intOf]; omega
          · go_wp2_with fail
            refine (live_any U U _).mono ?_
            rintro e wz ⟨rfl, rfl⟩
            go_wp2_with fail
            go_roundw
            case rel => exact ⟨k + 1, N, C, T', _, _, rfl, rfl, by go_num, by omega, by omega, by omega, by omega, by omega, Below.trans hb3 (Below.mono (by exact (by repeat (first | exact Below.refl _ _ | assumption | refine below_drewN ?_ _ | refine Below.drew ?_ | refine Below.alloc ?_ (by simp <;> omega) _ | refine Below.setCell ?_ (by simp <;> omega) _))) hb3.size), Own3.below own3.out (by exact (by repeat (first | exact Below.refl _ _ | assumption | refine below_drewN ?_ _ | refine Below.drew ?_ | refine Below.alloc ?_ (by simp <;> omega) _ | refine Below.setCell ?_ (by simp <;> omega) _)))⟩
            case measure => simp [intOf]; omega
    · go_wp2_with fail
      go_ret
      exact ⟨rfl, hbr⟩

end Go.Proofs.Ytnogkmhiedmhoaa
