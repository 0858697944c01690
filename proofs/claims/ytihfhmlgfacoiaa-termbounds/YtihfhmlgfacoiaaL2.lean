import Derived.Test.YtihfhmlgfacoiaaW22
namespace Go.Proofs.Ytihfhmlgfacoiaa
open Go.RowKit
set_option linter.unusedVariables false
set_option linter.unusedSimpArgs false

def OffT (X : Nat) (w : World) (q : Nat) : Prop := q ≠ X ∧ q ≠ X + 1 ∧ q < w.heap.size

theorem box_two' (w : World) (X : Obj) (v0 v1 v2 v3 : Value) (T : TypeId) : Box4 ((w.alloc X).alloc (.cells #[v0, v1, v2, v3] T)) (w.heap.size + 1) v0 v1 v2 v3 := by
  have h := Box4.new (w.alloc X) v0 v1 v2 v3 T
  simpa using h

theorem wrap_round {w4 wr w5 : World} {M N : Nat} {a a' : Nd} {l l' : Fo} {A : Option Addr} {cap b o : Nat} {k : Int} {T : TypeId} {v0 v1 v2 v3 : Value} (hk : 0 ≤ k ∧ k ≤ 100)
    (hMN : (M = w4.heap.size ∧ N = w4.heap.size + 1) ∨ (M = w4.heap.size + 1 ∧ N = w4.heap.size)) (hbl : Below w4.heap.size w4 wr) (hsz : w4.heap.size + 1 < wr.heap.size)
    (hf : a.Fit) (hn : flen l ≤ 9223372036854775807) (hA : flen l = 0 ∨ A = some ⟨b, o, none⟩) (hr : RepG wr (OffT w4.heap.size wr) l b o) (hz : ∀ q, wr.frozen? ⟨M, q, none⟩ = false) (hb : Box4 wr M v0 v1 v2 v3)
    (hY : BoxT wr N (OffT w4.heap.size wr) a' l') (ho : Below (wr.alloc (.cells #[.int .i64 a.kind, .int .i64 a.n, .string a.s, .slice A (flen l) cap] T)).heap.size (wr.alloc (.cells #[.int .i64 a.kind, .int .i64 a.n, .string a.s, .slice A (flen l) cap] T)) w5) (W : World)
    (hW : W = ((((w5.setCell ⟨M, 0, none⟩ (.int .i64 k)).setCell ⟨M, 1, none⟩ (.int .i64 0)).setCell ⟨M, 2, none⟩ (.string ByteArray.empty)).setCell ⟨M, 3, none⟩ (.slice (some ⟨wr.heap.size, 0, none⟩) 1 1))) :
    Below w4.heap.size w4 W ∧ w4.heap.size + 1 < W.heap.size ∧ BoxT W M (OffT w4.heap.size W) ⟨k, 0, ByteArray.empty⟩ (.node 0 0 a l .nil) ∧ BoxT W N (OffT w4.heap.size W) a' l' := by
  have hs := ho.size
  simp only [World.heap_size_alloc'] at hs
  have hsW : W.heap.size = w5.heap.size := by rw [hW, size_set4]
  have ho' : Below wr.heap.size wr w5 := Below.trans (Below.alloc (Below.refl _ _) (Nat.le_refl _) _) (ho.mono (by simp))
  refine ⟨?_, by omega, ?_, ?_⟩
  · rw [hW]; exact Below.set4 (hbl.trans (ho'.mono (by omega))) (by omega) _ _ _ _
  · have := boxT_wrap (w := wr) (S' := OffT w4.heap.size W) (M := M) (k := k) (T := T) (cap := cap) hk (fun q hq => ⟨by unfold OffT at hq; omega, hq.2.2, hq.1, hq.2.1, by unfold OffT at hq; omega⟩) ⟨by omega, by omega, by omega⟩ (by omega) hf hn hA hr hz (hb.below ho') ho
    rw [← hW] at this; exact this
  · refine hY.keep (fun q hq => ⟨hq.1, hq.2.1, by unfold OffT at hq; omega⟩) (fun q o hq => ?_) (fun q => ?_) (by omega)
    · have h1 : q ≠ M ∧ q < wr.heap.size := by
        rcases hq with hq | hq
        · unfold OffT at hq; omega
        · omega
      rw [hW, cell_set4 _ _ _ _ _ _ _ _ h1.1]; exact ho'.cell h1.2
    · rw [hW, frozen_set4]; exact ho'.frozen (by simp; omega)

set_option maxRecDepth 20000 in
set_option maxHeartbeats 4000000 in
theorem termBounds_any (n : Int) (w : World) (h1 : -9223372036854775808 ≤ n) (h2 : n ≤ 9223372036854775807) :
    Calls Try.prog 7 #[.int .i64 n] w fun e w' => e = .returned (.bool true) ∧ Below w.heap.size w w' := by
  have hr1 : 0 ≤ n % 8 := by omega
  have hr2 : n % 8 < 8 := by omega
  obtain ⟨r, hr0⟩ : ∃ r : Nat, n % 8 = (r : Int) := ⟨(n % 8).toNat, by omega⟩
  have hw8 : ∀ w, Calls Try.prog 28 #[.int .i64 n, .int .i64 8] w fun e w' => e = .returned (.int .i64 (r : Int)) ∧ w' = w := fun w => by
    have := within_any n 8 w (by omega) (by omega) h1 h2
    rwa [hr0] at this
  have hr : r < 8 := by omega
  clear hr1 hr2 hr0
  have e1 : IntKind.i64.wrap (12 + (r : Int)) = 12 + (r : Int) := wrap_in _ (by omega) (by omega)
  have hmk := run_make_row' (P := Try.prog) 44 5 (.int .u8 0) 1 Try.underlying44 Try.infoByte rfl .i64 .i64 (1020 + r) (by omega) (by omega)
  rw [show ((1020 + r : Nat) : Int) = 1020 + (r : Int) from by omega] at hmk
  have hcv : ∀ w : World, (convert 44 9 (.slice (some ⟨w.heap.size, 0, none⟩) (1020 + r) (1020 + r))).run Try.prog (w.alloc (.cells (madeCells #[.int .u8 0] (1020 + r)) 5)) = .ok (.string ⟨(List.replicate (1020 + r) (0 : UInt8)).toArray⟩) (w.alloc (.cells (madeCells #[.int .u8 0] (1020 + r)) 5)) := fun w => by
    have h := run_convert_bytes_back (P := Try.prog) (w.alloc (.cells (madeCells #[.int .u8 0] (1020 + r)) 5)) 44 9 5 ⟨w.heap.size, 0, none⟩ (1020 + r) (List.replicate (1020 + r) (0 : UInt8)) Try.underlying44 Try.underlying5 Try.underlying9 (fun j hj => by
      simp at hj
      have ea : (⟨w.heap.size, 0, none⟩ : Addr).add j = ⟨w.heap.size, j, none⟩ := by cases j <;> simp [Addr.add]
      rw [ea]
      simp [go_sem, madeCells, hj, Nat.mod_one])
    simpa using h
  obtain ⟨zs, hzs, hzs2⟩ : ∃ zs : ByteArray, zs = ⟨(List.replicate (1020 + r) (0 : UInt8)).toArray⟩ ∧ zs.size = 1020 + r := ⟨_, rfl, by simp [ByteArray.size]⟩
  rw [← hzs] at hcv
  clear hzs
  have hzm : zs.size ≤ maxLen := by unfold maxLen; omega
  go_enter Try.func7, Try.ntmps7
  go_wp2_with fail
  refine (known_any _).mono ?_
  rintro e w1 ⟨rfl, ho1⟩
  go_wp2_with fail
  refine (hw8 _).mono ?_
  rintro e w2 ⟨rfl, rfl⟩
  go_wp2_with fail
  refine (refA_any _ _).mono ?_
  rintro e w3 ⟨rfl, ho3⟩
  go_wp2_with fail
  refine (full_any 5 _ rfl (by omega) _).mono ?_
  rintro e w4 ⟨u, rfl, ho4, hu⟩
  generalize hF0 : fullT 5 = F at *
  have hF : Hid (fullT 5 = F) := hF0
  clear hF0
  obtain ⟨a5, l5⟩ := F
  obtain ⟨hfa, A5, cap5, b5, o5, rfl, hn5, hA5, hl5⟩ := hu
  have HA5 : Hid (flen l5 = 0 ∨ A5 = some ⟨b5, o5, none⟩) := hA5
  clear hA5
  go_wp2_with fail
  have hfx : Nd.Fit ⟨1, 0, ⟨#[120]⟩⟩ := fit_atom _ (by decide)
  go_loopw [6] (fun iv wr => ∃ (j : Nat) (a : Nd) (l : Fo), iv = .int .i64 (j : Int) ∧ j ≤ 12 + r ∧ wrapT 3 j (⟨1, 0, ⟨#[120]⟩⟩, .nil) = (a, l) ∧ Below w4.heap.size w4 wr ∧ w4.heap.size + 1 < wr.heap.size ∧ BoxT wr w4.heap.size (OffT w4.heap.size wr) a l ∧ BoxT wr (w4.heap.size + 1) (OffT w4.heap.size wr) a5 l5)
    (fun iv _ => 12 + r - (intOf iv).toNat)
  case atStart =>
    refine ⟨0, _, _, rfl, by omega, rfl, (by repeat (first | exact Below.refl _ _ | assumption | refine below_drewN ?_ _ | refine Below.drew ?_ | refine Below.alloc ?_ (by simp <;> omega) _ | refine Below.setCell ?_ (by simp <;> omega) _)), by simp, ?_, ?_⟩
    · exact ⟨hfx, by simp [flen], fun q => by simp [go_sem], none, 0, 0, 0, (Box4.new _ _ _ _ _ _).alloc _, .inl rfl, trivial⟩
    · refine ⟨hfa, hn5, fun q => by simp [go_sem], A5, cap5, b5, o5, ?_, HA5.out, ?_⟩
      · exact box_two' _ _ _ _ _ _ _
      · refine RepG.keep (fun b hb => ⟨by omega, by omega, by simp; omega⟩) (fun b o hb => ?_) hl5
        rw [World.cell?_alloc_past _ _ _ (by simp; omega), World.cell?_alloc_past _ _ _ (by omega)]
  case round =>
    obtain ⟨j, a, l, rfl, hj, hT, hbl, hsz, hX, hY⟩ := hrel
    have HT : Hid (wrapT 3 j (⟨1, 0, ⟨#[120]⟩⟩, .nil) = (a, l)) := hT
    have HX : Hid (BoxT wr w4.heap.size (OffT w4.heap.size wr) a l) := hX
    have HY : Hid (BoxT wr (w4.heap.size + 1) (OffT w4.heap.size wr) a5 l5) := hY
    clear hT hY
    obtain ⟨hxf, hxn, hxz, Ax, capx, bx, ox, hxb, hxA, hxr⟩ := hX
    have HxA : Hid (flen l = 0 ∨ Ax = some ⟨bx, ox, none⟩) := hxA
    clear hxA
    obtain ⟨x0, x1, x2, x3, x4⟩ := hxb
    have f0 := hxz 0
    have f1 := hxz 1
    have f2 := hxz 2
    have f3 := hxz 3
    by_cases hjr : (j : Int) < 12 + (r : Int)
    · go_wp2_with fail
      refine (refT_any _ _ _ _ _).mono ?_
      rintro e w5 ⟨rfl, ho5⟩
      have ho5' : Below wr.heap.size wr w5 := Below.trans (Below.alloc (Below.refl _ _) (Nat.le_refl _) _) (ho5.mono (by simp))
      obtain ⟨z0, z1, z2, z3, z4⟩ := Box4.below ⟨x0, x1, x2, x3, x4⟩ ho5'
      have g0 : w5.frozen? ⟨w4.heap.size, 0, none⟩ = false := by rw [ho5'.frozen (by simp; omega)]; exact f0
      have g1 : w5.frozen? ⟨w4.heap.size, 1, none⟩ = false := by rw [ho5'.frozen (by simp; omega)]; exact f1
      have g2 : w5.frozen? ⟨w4.heap.size, 2, none⟩ = false := by rw [ho5'.frozen (by simp; omega)]; exact f2
      have g3 : w5.frozen? ⟨w4.heap.size, 3, none⟩ = false := by rw [ho5'.frozen (by simp; omega)]; exact f3
      go_wp2_with fail
      go_roundw
      case rel =>
        have h := wrap_round (k := 3) (by omega) (.inl ⟨rfl, rfl⟩) hbl hsz hxf hxn HxA.out hxr hxz ⟨x0, x1, x2, x3, x4⟩ HY.out ho5 _ rfl
        exact ⟨j + 1, _, _, by go_num, by omega, by rw [wrapT, HT.out], h.1, h.2.1, h.2.2.1, h.2.2.2⟩
      case measure => simp [intOf]; omega
    · obtain rfl : j = 12 + r := by omega
      clear x0 x1 x2 x3 x4 f0 f1 f2 f3 hxz hxr
      go_wp2_with fail
      obtain ⟨wo, rfl⟩ : ∃ wo : World, wo = wr := ⟨_, rfl⟩
      go_loopw [7] (fun iv wr => ∃ (j : Nat) (b : Nd) (m : Fo), iv = .int .i64 (j : Int) ∧ j ≤ r ∧ wrapT 4 j (a5, l5) = (b, m) ∧ Below w4.heap.size w4 wr ∧ w4.heap.size + 1 < wr.heap.size ∧ BoxT wr (w4.heap.size + 1) (OffT w4.heap.size wr) b m ∧ BoxT wr w4.heap.size (OffT w4.heap.size wr) a l)
        (fun iv _ => r - (intOf iv).toNat)
      case atStart => exact ⟨0, _, _, rfl, by omega, rfl, hbl, hsz, HY.out, HX.out⟩
      case round =>
        obtain ⟨j, b, m, rfl, hj, hT', hbl', hsz', hY', hX'⟩ := hrel
        have HT' : Hid (wrapT 4 j (a5, l5) = (b, m)) := hT'
        have HX' : Hid (BoxT wr w4.heap.size (OffT w4.heap.size wr) a l) := hX'
        have HY' : Hid (BoxT wr (w4.heap.size + 1) (OffT w4.heap.size wr) b m) := hY'
        clear hT' hX'
        obtain ⟨hxf', hxn', hxz', Ay, capy, by_, oy, hxb', hxA', hxr'⟩ := hY'
        have HyA : Hid (flen m = 0 ∨ Ay = some ⟨by_, oy, none⟩) := hxA'
        clear hxA'
        obtain ⟨x0, x1, x2, x3, x4⟩ := hxb'
        have f0 := hxz' 0
        have f1 := hxz' 1
        have f2 := hxz' 2
        have f3 := hxz' 3
        by_cases hjr' : (j : Int) < (r : Int)
        · go_wp2_with fail
          refine (refT_any _ _ _ _ _).mono ?_
          rintro e w5 ⟨rfl, ho5⟩
          have ho5' : Below wr.heap.size wr w5 := Below.trans (Below.alloc (Below.refl _ _) (Nat.le_refl _) _) (ho5.mono (by simp))
          obtain ⟨z0, z1, z2, z3, z4⟩ := Box4.below ⟨x0, x1, x2, x3, x4⟩ ho5'
          have g0 : w5.frozen? ⟨w4.heap.size + 1, 0, none⟩ = false := by rw [ho5'.frozen (by simp; omega)]; exact f0
          have g1 : w5.frozen? ⟨w4.heap.size + 1, 1, none⟩ = false := by rw [ho5'.frozen (by simp; omega)]; exact f1
          have g2 : w5.frozen? ⟨w4.heap.size + 1, 2, none⟩ = false := by rw [ho5'.frozen (by simp; omega)]; exact f2
          have g3 : w5.frozen? ⟨w4.heap.size + 1, 3, none⟩ = false := by rw [ho5'.frozen (by simp; omega)]; exact f3
          go_wp2_with fail
          go_roundw
          case rel =>
            have h := wrap_round (k := 4) (by omega) (.inr ⟨rfl, rfl⟩) hbl' hsz' hxf' hxn' HyA.out hxr' hxz' ⟨x0, x1, x2, x3, x4⟩ HX'.out ho5 _ rfl
            exact ⟨j + 1, _, _, by go_num, by omega, by rw [wrapT, HT'.out], h.1, h.2.1, h.2.2.1, h.2.2.2⟩
          case measure => simp [intOf]; omega
        · obtain rfl : j = r := by omega
          clear x0 x1 x2 x3 x4 f0 f1 f2 f3 hxz' hxr' hbl hsz
          go_wp2_with fail
          refine (hw8 _).mono ?_
          rintro e w6 ⟨rfl, rfl⟩
          go_wp2_with fail
          refine (hw8 _).mono ?_
          rintro e w7 ⟨rfl, rfl⟩
          obtain ⟨AX, capX, bX, vX⟩ := BoxT.rep HX'.out (fun q hq => hq.2.2)
          obtain ⟨AY, capY, bY, vY⟩ := BoxT.rep HY'.out (fun q hq => hq.2.2)
          have VX : Hid (RepV w7 w7.heap.size a l (.agg #[.int .i64 a.kind, .int .i64 a.n, .string a.s, .slice AX (flen l) capX])) := vX
          have VY : Hid (RepV w7 w7.heap.size b m (.agg #[.int .i64 b.kind, .int .i64 b.n, .string b.s, .slice AY (flen m) capY])) := vY
          clear vX vY
          have m1 : may a l = decide ((12 + (j : Int)) + 1 ≤ 16) := by have := bounds_deep j hr; rw [HT.out] at this; exact this
          have m2 : may b m = decide (63 + (12 + (j : Int)) - 12 ≤ 64) := by have := bounds_size j hr; rw [hF.out, HT'.out] at this; exact this
          have M1 : Hid (may a l = decide ((12 + (j : Int)) + 1 ≤ 16)) := m1
          have M2 : Hid (may b m = decide (63 + (12 + (j : Int)) - 12 ≤ 64)) := m2
          clear m1 m2
          have bY' := bY
          obtain ⟨x0, x1, x2, x3, x4⟩ := bX
          obtain ⟨y0, y1, y2, y3, y4⟩ := bY
          go_wp2_with fail
          refine (may_any a l _ _ VX.out).mono ?_
          rw [M1.out]
          rintro e w8 ⟨rfl, ho8⟩
          obtain ⟨u0, u1, u2, u3, u4⟩ := bY'.below ho8
          clear x0 x1 x2 x3 x4 y0 y1 y2 y3 y4
          go_wp2_with fail
          have vy8 : RepV w8 w8.heap.size b m (.agg #[.int .i64 b.kind, .int .i64 b.n, .string b.s, .slice AY (flen m) capY]) := RepV.keep ho8.size (fun q o hq => ho8.cell hq) VY.out
          refine (may_any b m _ _ vy8).mono ?_
          rw [M2.out]
          rintro e w9 ⟨rfl, ho9⟩
          clear u0 u1 u2 u3 u4 vy8
          go_wp2_with fail
          refine (refA_any _ _).mono ?_
          rintro e w10 ⟨rfl, ho10⟩
          have m3 := bounds_atom j zs hzs2
          have M3 : Hid (may ⟨1, 0, zs⟩ .nil = decide (1020 + (j : Int) ≤ 1024)) := m3
          clear m3
          go_wp2_with fail
          refine (may_any ⟨1, 0, zs⟩ .nil _ _ ⟨fit_atom _ hzm, none, 0, 0, 0, rfl, by simp [flen], .inl rfl, trivial⟩).mono ?_
          rw [M3.out]
          rintro e w11 ⟨rfl, ho11⟩
          go_wp2_with fail
          refine (refN_any _ _).mono ?_
          rintro e w12 ⟨rfl, ho12⟩
          have m4 := bounds_nonce (1073741820 + (j : Int)) (by omega)
          have M4 : Hid (may ⟨2, 1073741820 + (j : Int), ByteArray.empty⟩ .nil = decide (1073741820 + (j : Int) ≤ 1073741824)) := m4
          clear m4
          go_wp2_with fail
          refine (may_any ⟨2, 1073741820 + (j : Int), ByteArray.empty⟩ .nil _ _ ⟨⟨by simp, by simp, by simp; omega, by simp; omega, empty_small⟩, none, 0, 0, 0, rfl, by simp [flen], .inl rfl, trivial⟩).mono ?_
          rw [M4.out]
          rintro e w13 ⟨rfl, ho13⟩
          go_wp2_with fail
          refine (refN_any _ _).mono ?_
          rintro e w14 ⟨rfl, ho14⟩
          go_wp2_with fail
          refine (may_any ⟨2, -1, ByteArray.empty⟩ .nil _ _ ⟨⟨by simp, by simp, by simp, by simp, empty_small⟩, none, 0, 0, 0, rfl, by simp [flen], .inl rfl, trivial⟩).mono ?_
          rw [bounds_neg]
          rintro e w15 ⟨rfl, ho15⟩
          go_wp2_with fail
          go_ret
          refine ⟨rfl, ?_⟩
          have b1 : Below w.heap.size w w4 := (ho1.trans (ho3.mono ho1.size)).trans (ho4.mono (Nat.le_trans ho1.size ho3.size))
          have b2 : Below w.heap.size w w7 := b1.trans (hbl'.mono b1.size)
          have b3 := b2.trans (ho8.mono b2.size)
          have b4 := b3.trans (ho9.mono b3.size)
          have b5 := b4.alloc b4.size (.cells (madeCells #[.int .u8 0] (1020 + j)) 5)
          have b6 := b5.trans (ho10.mono b5.size)
          have b7 := b6.trans (ho11.mono b6.size)
          have b8 := b7.trans (ho12.mono b7.size)
          have b9 := b8.trans (ho13.mono b8.size)
          have b10 := b9.trans (ho14.mono b9.size)
          exact b10.trans (ho15.mono b10.size)

end Go.Proofs.Ytihfhmlgfacoiaa
