import Derived.Test.YtooffmmfacdjeaaC14
namespace Go.Proofs.Ytooffmmfacdjeaa
open Go.RowKit
set_option linter.unusedVariables false
set_option linter.unusedSimpArgs false

theorem NdSt.setT {w wr : World} {rb : Nat} {A : Option Addr} {cap : Nat} {bs : List UInt8} {at' left er kd nn : Int} {ss : ByteArray} {kv : Value} (h : NdSt w wr rb A cap bs at' left er kd nn ss kv) (hrb : rb < w.heap.size) (j : Nat) (u : Value) :
    Only rb w (wr.setCell ⟨w.heap.size + 1, j, none⟩ u) ∧ RfSt (wr.setCell ⟨w.heap.size + 1, j, none⟩ u) rb A cap bs at' left er ∧ (∀ i, i ≠ j → (wr.setCell ⟨w.heap.size + 1, j, none⟩ u).cell? ⟨w.heap.size + 1, i, none⟩ = wr.cell? ⟨w.heap.size + 1, i, none⟩) ∧
      (∀ i, (wr.setCell ⟨w.heap.size + 1, j, none⟩ u).cell? ⟨w.heap.size, i, none⟩ = wr.cell? ⟨w.heap.size, i, none⟩) ∧ (∀ a, (wr.setCell ⟨w.heap.size + 1, j, none⟩ u).frozen? a = wr.frozen? a) ∧ w.heap.size + 1 < (wr.setCell ⟨w.heap.size + 1, j, none⟩ u).heap.size := by
  have hb : ∀ q, q ≠ w.heap.size + 1 → (wr.setCell ⟨w.heap.size + 1, j, none⟩ u).heap[q]? = wr.heap[q]? := fun q hq => Below.heap_setCell _ _ _ _ (by simpa using hq)
  have hz := h.sz
  refine ⟨Only.setCell (p := ⟨w.heap.size + 1, j, none⟩) h.only (.inr (by simp)) _, ?_, ?_, ?_, fun a => World.frozen?_setCell _ _ _ _, by rw [size_setCellR]; exact hz⟩
  · have s := h.st
    have e := hb rb (by omega)
    exact ⟨by rw [size_setCellR]; exact s.lt, by rw [World.cell?_of_block e]; exact s.c0, by rw [World.cell?_of_block e]; exact s.c1, by rw [World.cell?_of_block e]; exact s.c2, by rw [World.cell?_of_block e]; exact s.c3, by rw [World.frozen?_of_block e]; exact s.f1, by rw [World.frozen?_of_block e]; exact s.f2, by rw [World.frozen?_of_block e]; exact s.f3⟩
  · intro i hi; rw [World.cell?_setCell_other]; intro q; injection q with _ q; omega
  · intro i; rw [World.cell?_setCell_other]; intro q; injection q with q; omega

theorem NdSt.kind {w wr : World} {rb : Nat} {A : Option Addr} {cap : Nat} {bs : List UInt8} {at' left er kd nn : Int} {ss : ByteArray} {kv : Value} (h : NdSt w wr rb A cap bs at' left er kd nn ss kv) (hrb : rb < w.heap.size) (x : Int) : NdSt w (wr.setCell ⟨w.heap.size + 1, 0, none⟩ (.int .i64 x)) rb A cap bs at' left er x nn ss kv := by
  obtain ⟨a, b, c, d, e, f⟩ := h.setT hrb 0 (.int .i64 x)
  exact ⟨a, b, World.cell?_setCell_same _ _ _ h.t0, by rw [c 1 (by omega)]; exact h.t1, by rw [c 2 (by omega)]; exact h.t2, by rw [c 3 (by omega)]; exact h.t3, fun j => by rw [e]; exact h.tf j, by rw [d]; exact h.r0, by rw [d]; exact h.r1, by rw [d]; exact h.r2, by rw [d]; exact h.r3, fun j => by rw [e]; exact h.rf j, f⟩
theorem NdSt.numb {w wr : World} {rb : Nat} {A : Option Addr} {cap : Nat} {bs : List UInt8} {at' left er kd nn : Int} {ss : ByteArray} {kv : Value} (h : NdSt w wr rb A cap bs at' left er kd nn ss kv) (hrb : rb < w.heap.size) (x : Int) : NdSt w (wr.setCell ⟨w.heap.size + 1, 1, none⟩ (.int .i64 x)) rb A cap bs at' left er kd x ss kv := by
  obtain ⟨a, b, c, d, e, f⟩ := h.setT hrb 1 (.int .i64 x)
  exact ⟨a, b, by rw [c 0 (by omega)]; exact h.t0, World.cell?_setCell_same _ _ _ h.t1, by rw [c 2 (by omega)]; exact h.t2, by rw [c 3 (by omega)]; exact h.t3, fun j => by rw [e]; exact h.tf j, by rw [d]; exact h.r0, by rw [d]; exact h.r1, by rw [d]; exact h.r2, by rw [d]; exact h.r3, fun j => by rw [e]; exact h.rf j, f⟩
theorem NdSt.text {w wr : World} {rb : Nat} {A : Option Addr} {cap : Nat} {bs : List UInt8} {at' left er kd nn : Int} {ss : ByteArray} {kv : Value} (h : NdSt w wr rb A cap bs at' left er kd nn ss kv) (hrb : rb < w.heap.size) (x : ByteArray) : NdSt w (wr.setCell ⟨w.heap.size + 1, 2, none⟩ (.string x)) rb A cap bs at' left er kd nn x kv := by
  obtain ⟨a, b, c, d, e, f⟩ := h.setT hrb 2 (.string x)
  exact ⟨a, b, by rw [c 0 (by omega)]; exact h.t0, by rw [c 1 (by omega)]; exact h.t1, World.cell?_setCell_same _ _ _ h.t2, by rw [c 3 (by omega)]; exact h.t3, fun j => by rw [e]; exact h.tf j, by rw [d]; exact h.r0, by rw [d]; exact h.r1, by rw [d]; exact h.r2, by rw [d]; exact h.r3, fun j => by rw [e]; exact h.rf j, f⟩
theorem NdSt.err {w wr : World} {rb : Nat} {A : Option Addr} {cap : Nat} {bs : List UInt8} {at' left er kd nn : Int} {ss : ByteArray} {kv : Value} (h : NdSt w wr rb A cap bs at' left er kd nn ss kv) (hrb : rb < w.heap.size) (x : Int) : NdSt w (wr.setCell ⟨rb, 3, none⟩ (.int .i64 x)) rb A cap bs at' left x kd nn ss kv :=
  h.move hrb (Only.setCell (p := ⟨rb, 3, none⟩) (Only.refl _ _) (.inl rfl) _) (h.st.set3 x)
theorem NdSt.pos {w wr : World} {rb : Nat} {A : Option Addr} {cap : Nat} {bs : List UInt8} {at' left er kd nn : Int} {ss : ByteArray} {kv : Value} (h : NdSt w wr rb A cap bs at' left er kd nn ss kv) (hrb : rb < w.heap.size) (x : Int) : NdSt w (wr.setCell ⟨rb, 1, none⟩ (.int .i64 x)) rb A cap bs x left er kd nn ss kv :=
  h.move hrb (Only.setCell (p := ⟨rb, 1, none⟩) (Only.refl _ _) (.inl rfl) _) (h.st.set1 x)
theorem NdSt.drewN {w wr : World} {rb : Nat} {A : Option Addr} {cap : Nat} {bs : List UInt8} {at' left er kd nn : Int} {ss : ByteArray} {kv : Value} (h : NdSt w wr rb A cap bs at' left er kd nn ss kv) (hrb : rb < w.heap.size) (n : Nat) : NdSt w (wr.drewN n) rb A cap bs at' left er kd nn ss kv :=
  h.move hrb (Only.drewN (Only.refl _ _) _) (h.st.drewN n)

/-- The result is t, as it stands. -/
theorem NdSt.done {w wr : World} {rb : Nat} {A : Option Addr} {cap : Nat} {bs : List UInt8} {at' left er kd nn : Int} {ss : ByteArray} {kv : Value} (h : NdSt w wr rb A cap bs at' left er kd nn ss kv) (hrb : rb < w.heap.size) (u0 u1 u2 u3 : Value) :
    Only rb w ((((wr.setCell ⟨w.heap.size, 0, none⟩ u0).setCell ⟨w.heap.size, 1, none⟩ u1).setCell ⟨w.heap.size, 2, none⟩ u2).setCell ⟨w.heap.size, 3, none⟩ u3) ∧ RfSt ((((wr.setCell ⟨w.heap.size, 0, none⟩ u0).setCell ⟨w.heap.size, 1, none⟩ u1).setCell ⟨w.heap.size, 2, none⟩ u2).setCell ⟨w.heap.size, 3, none⟩ u3) rb A cap bs at' left er := by
  refine ⟨Only.set4 h.only (Nat.le_refl _) _ _ _ _, ?_⟩
  have s := h.st
  have hq : rb ≠ w.heap.size := by omega
  exact ⟨by rw [size_set4']; exact s.lt, by rw [cell_set4 _ _ _ _ _ _ _ _ hq]; exact s.c0, by rw [cell_set4 _ _ _ _ _ _ _ _ hq]; exact s.c1, by rw [cell_set4 _ _ _ _ _ _ _ _ hq]; exact s.c2, by rw [cell_set4 _ _ _ _ _ _ _ _ hq]; exact s.c3, by rw [frozen_set4' _ _ _ _ _ _ _ hq]; exact s.f1, by rw [frozen_set4' _ _ _ _ _ _ _ hq]; exact s.f2, by rw [frozen_set4' _ _ _ _ _ _ _ hq]; exact s.f3⟩

theorem slice_mid (w : World) (A : Option Addr) (len cap pp n : Nat) (h : pp + n ≤ cap) : (Instr.slice 32 (.slice A len cap) (some (.int .i64 (pp : Int))) (some (.int .i64 ((pp : Int) + (n : Int)))) none).run Try.prog w = .ok (.slice (if cap = pp then A else A.map (·.add pp)) n (cap - pp)) w := by
  have ht : Try.prog.underlying 32 = some (.slice (Try.prog.elem 32)) := by kernel_rfl
  have hs1 : (sizeOf (Try.prog.elem 32)).run Try.prog w = .ok 1 w := by kernel_rfl
  rw [run_slice_lh w 32 A len cap ht .i64 .i64 _ _ (by omega) (by omega) (by omega), hs1]
  have e1 : ((pp : Int) + (n : Int)).toNat = pp + n := by omega
  simp only [Result.andThen, sliced, Int.toNat_natCast, e1, Nat.mul_one]
  rw [show pp + n - pp = n from by omega]

set_option maxRecDepth 100000 in
set_option maxHeartbeats 4000000 in
theorem rnode_leaf (f : Nat) (hf : f ≤ 15) (w : World) (rb : Nat) (A : Option Addr) (cap : Nat) (bs : List UInt8) (at' k B : Nat) (dz : Int) (hdz : dz = 17 - ((f + 1 : Nat) : Int)) (hR : RfSt w rb A cap bs (at' : Int) (64 - (k : Int)) 0) (hy : ByAt w B A bs) (hB : B ≤ rb) (hk : k ≤ 64) (ha : at' ≤ bs.length) (hl : bs.length ≤ 100000) (hlc : bs.length ≤ cap) (hcm : cap ≤ maxLen)
    (hleaf : ∀ x zs, bs.drop at' = x :: zs → x.toNat < 3 ∨ 7 < x.toNat) :
    Calls Try.prog 37 #[.pointer (some ⟨rb, 0, none⟩), .int .i64 dz] w fun e w' => RfEnd w rb A cap bs (tk (f + 1) k (bs.drop at')) e w' := by
  by_cases hk1 : 64 ≤ k
  · exact rnode_big (f + 1) w rb A cap bs at' k dz hR (by omega) hk (.inl hk1) _ (by cases bs.drop at' <;> rw [tk, if_pos (by omega)])
  have HDZ : Hid (dz = 16 - (f : Int)) := by show dz = _; omega
  have hd0 : 0 ≤ dz := by omega
  have hd1 : dz ≤ 16 := by omega
  clear hdz
  have h0 := hR.lt
  have HN1 : Hid (NdSt w (((w.setCell ⟨rb, 2, none⟩ (.int .i64 (64 - (k : Int) - 1))).alloc (.cells #[.int .i64 0, .int .i64 0, .string ⟨#[]⟩, .slice none 0 0] 30)).alloc (.cells #[.int .i64 0, .int .i64 0, .string ⟨#[]⟩, .slice none 0 0] 30)) rb A cap bs (at' : Int) (64 - (k : Int) - 1) 0 0 0 ⟨#[]⟩ (.slice none 0 0)) := NdSt.first w hR _
  have HY : Hid (∀ w', Only rb w w' → ByAt w' B A bs) := fun w' ho => hy.keep (Nat.le_refl _) (fun b o hb => ho.cell (by simp; omega) (by simp; omega))
  obtain ⟨_, c0, c1, c2, c3, g1, g2, g3⟩ := hR
  have hk2 : decide (64 - (k : Int) < 1) = false := by simp; omega
  have hk3 : decide (16 < dz) = false := by simp; omega
  go_enter Try.func37, Try.ntmps37
  go_wp2_with fail
  refine (rfnum_any _ rb A cap bs at' 1 B (64 - (k : Int) - 1) 1 rfl HN1.out.st (HY.out _ HN1.out.only) hB (by omega) (by omega) hl (by omega)).mono ?_
  rintro e w2 ⟨v, er, rfl, ho2, hst2, hcase⟩
  have hN2 := HN1.out.move h0 ho2 hst2
  have HN2 : Hid (NdSt w w2 rb A cap bs ((at' + 1 : Nat) : Int) (64 - (k : Int) - 1) (er : Int) 0 0 ⟨#[]⟩ (.slice none 0 0)) := hN2
  clear HN1 hst2 ho2 c0 c1 c2 c3 g1 g2 g3 hy
  rcases hcase with ⟨hs, rfl, rfl⟩ | ⟨hs, hv, rfl⟩
  · have HT : Hid (tk (f + 1) k (bs.drop at') = .error 1) := by
      show tk (f + 1) k (bs.drop at') = _
      rw [List.drop_of_length_le (by omega), tk, if_neg (by omega)]
    have HN3 : Hid (NdSt w (w2.setCell ⟨w.heap.size + 1, 0, none⟩ (.int .i64 0)) rb A cap bs ((at' + 1 : Nat) : Int) (64 - (k : Int) - 1) 1 0 0 ⟨#[]⟩ (.slice none 0 0)) := HN2.out.kind h0 0
    obtain ⟨_, ⟨_, c0, c1, c2, c3, g1, g2, g3⟩, t0, t1, t2, t3, tf, _, _, _, _, _, sz⟩ := hN2
    have tf0 := tf 0
    clear tf
    go_wp2_with fail
    clear c0 c1 c2 c3 g1 g2 g3 t0 t1 t2 t3 tf0 HN2
    go_loopw [8] (fun iv wr => iv = .int .i64 0 ∧ NdSt w wr rb A cap bs ((at' + 1 : Nat) : Int) (64 - (k : Int) - 1) 1 0 0 ⟨#[]⟩ (.slice none 0 0)) (fun _ _ => 0)
    case atStart => exact ⟨rfl, HN3.out⟩
    case round =>
      obtain ⟨rfl, hN⟩ := hrel
      have HN9 : Hid (NdSt w wr rb A cap bs ((at' + 1 : Nat) : Int) (64 - (k : Int) - 1) 1 0 0 ⟨#[]⟩ (.slice none 0 0)) := hN
      obtain ⟨_, ⟨_, d0, d1, d2, d3, _, _, _⟩, u0, u1, u2, u3, _, r0, r1, r2, r3, rf, sz⟩ := hN
      have rf0 := rf 0
      have rf1 := rf 1
      have rf2 := rf 2
      have rf3 := rf 3
      have szr : w.heap.size < wr.heap.size := by omega
      clear rf HN3
      go_wp2_with fail
      refine bodyPost_ret (v := .agg #[.int .i64 0, .int .i64 0, .string ⟨#[]⟩, .slice none 0 0]) (by simp [results, Try.results37, go_sem, r0, r1, r2, r3]) rfl ?_
      have hfin := HN9.out.done h0
      exact rf_err (er := 1) HT.out (hfin _ _ _ _).1 (hfin _ _ _ _).2
  · obtain ⟨x, zs, hxz⟩ : ∃ x zs, bs.drop at' = x :: zs := by
      cases hq : bs.drop at' with
      | nil => have := congrArg List.length hq; simp at this; omega
      | cons x zs => exact ⟨x, zs, rfl⟩
    have hlf := hleaf x zs hxz
    have hzs : bs.drop (at' + 1) = zs := by rw [← List.drop_drop, hxz]; rfl
    have hzl : zs.length = bs.length - (at' + 1) := by rw [← hzs, List.length_drop]
    have hv2 : v = x.toNat := by rw [hv, hxz]; simp [unBe]
    have HK0 : Hid (tk (f + 1) k (bs.drop at') = tkH (tk f) x.toNat (k + 1) zs) := by show _ = _; rw [hxz, tk, if_neg (by omega)]
    have Hzs : Hid (bs.drop (at' + 1) = zs) := hzs
    have Hzl : Hid (zs.length = bs.length - (at' + 1)) := hzl
    have hx : x.toNat < 256 := x.toNat_lt
    subst hv2
    clear hv hleaf hzs hzl hxz
    generalize x.toNat = h at *
    have HN3 : Hid (NdSt w (w2.setCell ⟨w.heap.size + 1, 0, none⟩ (.int .i64 (h : Int))) rb A cap bs ((at' + 1 : Nat) : Int) (64 - (k : Int) - 1) 0 (h : Int) 0 ⟨#[]⟩ (.slice none 0 0)) := HN2.out.kind h0 _
    obtain ⟨_, ⟨_, c0, c1, c2, c3, g1, g2, g3⟩, t0, t1, t2, t3, tf, _, _, _, _, _, sz⟩ := hN2
    have tf0 := tf 0
    clear tf HN2
    by_cases q1 : h = 1
    · subst q1
      go_wp2_with fail
      refine (rfnum_any _ rb A cap bs (at' + 1) 2 B (64 - (k : Int) - 1) 2 rfl HN3.out.st (HY.out _ HN3.out.only) hB (by omega) (by omega) hl (by omega)).mono ?_
      rintro e w4 ⟨n, er, rfl, ho4, hst4, hcase⟩
      have hN4 := HN3.out.move h0 ho4 hst4
      clear c0 c1 c2 c3 g1 g2 g3 t0 t1 t2 t3 tf0 HN3 ho4 hst4
      rcases hcase with ⟨hs4, rfl, rfl⟩ | ⟨hs4, hn4, rfl⟩
      · have HT : Hid (tk (f + 1) k (bs.drop at') = .error 1) := by
          show _ = _; rw [HK0.out, tkH, if_pos rfl, tkA, tkN, if_pos (by have := Hzl.out; omega)]
        have HN5 : Hid (NdSt w w4 rb A cap bs ((at' + 1 + 2 : Nat) : Int) (64 - (k : Int) - 1) 1 1 0 ⟨#[]⟩ (.slice none 0 0)) := hN4
        obtain ⟨_, ⟨_, c0, c1, c2, c3, g1, g2, g3⟩, t0, t1, t2, t3, tf, _, _, _, _, _, sz4⟩ := hN4
        clear tf
        go_wp2_with fail
        go_quiet (fail)
        go_wp2_with fail
        have HN6 : Hid (NdSt w (w4.drewN nq) rb A cap bs ((at' + 1 + 2 : Nat) : Int) (64 - (k : Int) - 1) 1 1 0 ⟨#[]⟩ (.slice none 0 0)) := HN5.out.drewN h0 nq
        clear c0 c1 c2 c3 g1 g2 g3 t0 t1 t2 t3 HN5
        go_loopw [8] (fun iv wr => iv = .int .i64 0 ∧ NdSt w wr rb A cap bs ((at' + 1 + 2 : Nat) : Int) (64 - (k : Int) - 1) 1 1 0 ⟨#[]⟩ (.slice none 0 0)) (fun _ _ => 0)
        case atStart => exact ⟨rfl, HN6.out⟩
        case round =>
          obtain ⟨rfl, hN⟩ := hrel
          have HN9 : Hid (NdSt w wr rb A cap bs ((at' + 1 + 2 : Nat) : Int) (64 - (k : Int) - 1) 1 1 0 ⟨#[]⟩ (.slice none 0 0)) := hN
          obtain ⟨_, ⟨_, d0, d1, d2, d3, _, _, _⟩, u0, u1, u2, u3, _, r0, r1, r2, r3, rf, sz⟩ := hN
          have rf0 := rf 0
          have rf1 := rf 1
          have rf2 := rf 2
          have rf3 := rf 3
          have szr : w.heap.size < wr.heap.size := by omega
          clear rf HN6
          go_wp2_with fail
          refine bodyPost_ret (v := .agg #[.int .i64 1, .int .i64 0, .string ⟨#[]⟩, .slice none 0 0]) (by simp [results, Try.results37, go_sem, r0, r1, r2, r3]) rfl ?_
          have hfin := HN9.out.done h0
          exact rf_err (er := 1) HT.out (hfin _ _ _ _).1 (hfin _ _ _ _).2
      · have hnz : n = unBe (zs.take 2) := by rw [hn4, Hzs.out]
        have hnb : n < 65536 := by rw [hnz]; exact unBe_small zs 2 (by have := Hzl.out; omega)
        obtain ⟨pp, hpp⟩ : ∃ pp : Nat, pp = at' + 1 + 2 := ⟨_, rfl⟩
        have hpl : pp ≤ bs.length := by omega
        have HT0 : Hid (tk (f + 1) k (bs.drop at') = if 1024 < n then .error 3 else if bs.length - pp < n then .error 1 else .ok (⟨1, 0, ⟨((bs.drop pp).take n).toArray⟩⟩, .nil, k + 1, bs.drop (pp + n))) := by
          show _ = _
          have hd2 : zs.drop 2 = bs.drop pp := by rw [← Hzs.out, List.drop_drop, hpp]
          rw [HK0.out, tkH, if_pos rfl, tkA, tkN, if_neg (by have := Hzl.out; omega), ← hnz, hd2]
          by_cases hq : 1024 < n
          · simp [hq]
          · by_cases hq2 : bs.length - pp < n <;> simp [hq, hq2, List.length_drop, List.drop_drop]
        rw [← hpp] at hN4
        have HN5 : Hid (NdSt w w4 rb A cap bs (pp : Int) (64 - (k : Int) - 1) 0 1 0 ⟨#[]⟩ (.slice none 0 0)) := hN4
        obtain ⟨_, ⟨_, c0, c1, c2, c3, g1, g2, g3⟩, t0, t1, t2, t3, tf, _, _, _, _, _, sz4⟩ := hN4
        have tf2 := tf 2
        clear tf hn4 hnz hpp
        by_cases hq : 1024 < n
        · have HT : Hid (tk (f + 1) k (bs.drop at') = .error 3) := by show _ = _; rw [HT0.out, if_pos hq]
          go_wp2_with fail
          go_quiet (fail)
          go_wp2_with fail
          have HN6 : Hid (NdSt w ((w4.setCell ⟨rb, 3, none⟩ (.int .i64 3)).drewN nq) rb A cap bs (pp : Int) (64 - (k : Int) - 1) 3 1 0 ⟨#[]⟩ (.slice none 0 0)) := (HN5.out.err h0 3).drewN h0 nq
          clear c0 c1 c2 c3 g1 g2 g3 t0 t1 t2 t3 HN5 tf2
          go_loopw [8] (fun iv wr => iv = .int .i64 0 ∧ NdSt w wr rb A cap bs (pp : Int) (64 - (k : Int) - 1) 3 1 0 ⟨#[]⟩ (.slice none 0 0)) (fun _ _ => 0)
          case atStart => exact ⟨rfl, HN6.out⟩
          case round =>
            obtain ⟨rfl, hN⟩ := hrel
            have HN9 : Hid (NdSt w wr rb A cap bs (pp : Int) (64 - (k : Int) - 1) 3 1 0 ⟨#[]⟩ (.slice none 0 0)) := hN
            obtain ⟨_, ⟨_, d0, d1, d2, d3, _, _, _⟩, u0, u1, u2, u3, _, r0, r1, r2, r3, rf, sz⟩ := hN
            have rf0 := rf 0
            have rf1 := rf 1
            have rf2 := rf 2
            have rf3 := rf 3
            have szr : w.heap.size < wr.heap.size := by omega
            clear rf HN6
            go_wp2_with fail
            refine bodyPost_ret (v := .agg #[.int .i64 1, .int .i64 0, .string ⟨#[]⟩, .slice none 0 0]) (by simp [results, Try.results37, go_sem, r0, r1, r2, r3]) rfl ?_
            have hfin := HN9.out.done h0
            exact rf_err (er := 3) HT.out (hfin _ _ _ _).1 (hfin _ _ _ _).2
        · by_cases hq2 : bs.length - pp < n
          · have HT : Hid (tk (f + 1) k (bs.drop at') = .error 1) := by show _ = _; rw [HT0.out, if_neg hq, if_pos hq2]
            have hdn : decide ((bs.length : Int) - (pp : Int) < (n : Int)) = true := by simp; omega
            go_wp2_with fail
            go_quiet (fail)
            go_wp2_with fail
            have HN6 : Hid (NdSt w ((w4.drewN nq).setCell ⟨rb, 3, none⟩ (.int .i64 1)) rb A cap bs (pp : Int) (64 - (k : Int) - 1) 1 1 0 ⟨#[]⟩ (.slice none 0 0)) := (HN5.out.drewN h0 nq).err h0 1
            clear c0 c1 c2 c3 g1 g2 g3 t0 t1 t2 t3 HN5 tf2
            go_loopw [8] (fun iv wr => iv = .int .i64 0 ∧ NdSt w wr rb A cap bs (pp : Int) (64 - (k : Int) - 1) 1 1 0 ⟨#[]⟩ (.slice none 0 0)) (fun _ _ => 0)
            case atStart => exact ⟨rfl, HN6.out⟩
            case round =>
              obtain ⟨rfl, hN⟩ := hrel
              have HN9 : Hid (NdSt w wr rb A cap bs (pp : Int) (64 - (k : Int) - 1) 1 1 0 ⟨#[]⟩ (.slice none 0 0)) := hN
              obtain ⟨_, ⟨_, d0, d1, d2, d3, _, _, _⟩, u0, u1, u2, u3, _, r0, r1, r2, r3, rf, sz⟩ := hN
              have rf0 := rf 0
              have rf1 := rf 1
              have rf2 := rf 2
              have rf3 := rf 3
              have szr : w.heap.size < wr.heap.size := by omega
              clear rf HN6
              go_wp2_with fail
              refine bodyPost_ret (v := .agg #[.int .i64 1, .int .i64 0, .string ⟨#[]⟩, .slice none 0 0]) (by simp [results, Try.results37, go_sem, r0, r1, r2, r3]) rfl ?_
              have hfin := HN9.out.done h0
              exact rf_err (er := 1) HT.out (hfin _ _ _ _).1 (hfin _ _ _ _).2
          · have HT : Hid (tk (f + 1) k (bs.drop at') = .ok (⟨1, 0, ⟨((bs.drop pp).take n).toArray⟩⟩, .nil, k + 1, bs.drop (pp + n))) := by show _ = _; rw [HT0.out, if_neg hq, if_neg hq2]
            have hdn : decide ((bs.length : Int) - (pp : Int) < (n : Int)) = false := by simp; omega
            obtain ⟨st, hst, hss⟩ : ∃ st : ByteArray, st = ⟨((bs.drop pp).take n).toArray⟩ ∧ st.size = n := ⟨_, rfl, by show ((bs.drop pp).take n).toArray.size = n; rw [List.size_toArray, List.length_take, List.length_drop]; omega⟩
            have HST : Hid (st = ⟨((bs.drop pp).take n).toArray⟩) := hst
            have hbyA : ByAt w4 B A bs := HY.out _ HN5.out.only
            have hcv : ∀ w' : World, w'.heap = w4.heap → (convert 32 9 (.slice (if cap = pp then A else A.map (·.add pp)) (pp + n - pp) (cap - pp))).run Try.prog w' = .ok (.string st) w' := fun w' hw => by
              rw [show pp + n - pp = n from by omega]
              have hd := ((hbyA.drop pp cap hpl hlc).take n).keep (w' := w') (Nat.le_refl _) (fun b o _ => World.cell?_of_block (by rw [hw]))
              have h9 := conv_bytes w' B _ ((bs.drop pp).take n) (cap - pp) hd
              rw [List.length_take, List.length_drop, Nat.min_eq_left (by omega), ← hst] at h9
              exact h9
            clear hst hbyA
            have hpn0 : (0 : Int) ≤ (pp : Int) := by omega
            have hpn1 : (pp : Int) ≤ (pp : Int) + (n : Int) := by omega
            have hpn2 : (pp : Int) + (n : Int) ≤ (cap : Int) := by omega
            go_wp2_with fail
            go_quiet (fail)
            have hcv1 := hcv (w4.drewN (nq + 1)) rfl
            rw [show pp + n - pp = n from by omega] at hcv1
            have HN6 : Hid (NdSt w (w4.drewN nq) rb A cap bs (pp : Int) (64 - (k : Int) - 1) 0 1 0 ⟨#[]⟩ (.slice none 0 0)) := HN5.out.drewN h0 nq
            have HN7 : Hid (NdSt w (((w4.drewN (nq + 1)).setCell ⟨w.heap.size + 1, 2, none⟩ (.string st)).setCell ⟨rb, 1, none⟩ (.int .i64 ((pp : Int) + (n : Int)))) rb A cap bs ((pp : Int) + (n : Int)) (64 - (k : Int) - 1) 0 1 0 st (.slice none 0 0)) := ((HN5.out.drewN h0 (nq + 1)).text h0 st).pos h0 _
            clear hcv HN5
            by_cases hcap : cap = pp
            · rw [if_pos hcap, hcap, Nat.sub_self] at hcv1
              go_wp2_with fail
              go_region
              go_wp2_with fail
              clear c0 c1 c2 c3 g1 g2 g3 t0 t1 t2 t3 HN6 tf2 hcv1
              go_loopw [8] (fun iv wr => iv = .int .i64 0 ∧ NdSt w wr rb A cap bs ((pp : Int) + (n : Int)) (64 - (k : Int) - 1) 0 1 0 st (.slice none 0 0)) (fun _ _ => 0)
              case atStart => exact ⟨rfl, HN7.out⟩
              case round =>
                obtain ⟨rfl, hN⟩ := hrel
                have HN9 : Hid (NdSt w wr rb A cap bs ((pp : Int) + (n : Int)) (64 - (k : Int) - 1) 0 1 0 st (.slice none 0 0)) := hN
                obtain ⟨_, ⟨_, d0, d1, d2, d3, _, _, _⟩, u0, u1, u2, u3, _, r0, r1, r2, r3, rf, sz⟩ := hN
                have rf0 := rf 0
                have rf1 := rf 1
                have rf2 := rf 2
                have rf3 := rf 3
                have szr : w.heap.size < wr.heap.size := by omega
                clear rf HN7
                go_wp2_with fail
                refine bodyPost_ret (v := .agg #[.int .i64 1, .int .i64 0, .string st, .slice none 0 0]) (by simp [results, Try.results37, go_sem, r0, r1, r2, r3]) rfl ?_
                have hfin := HN9.out.done h0
                exact rf_ok (at' := pp + n) HT.out (hfin _ _ _ _).1 (by have := (hfin (.int .i64 1) (.int .i64 0) (.string st) (.slice none 0 0)).2; rwa [show (64 : Int) - (k : Int) - 1 = 64 - ((k + 1 : Nat) : Int) from by omega, show (pp : Int) + (n : Int) = ((pp + n : Nat) : Int) from by omega] at this) (by omega) rfl (by rw [← HST.out]; exact rep_leaf (a := ⟨1, 0, st⟩) (fit_leaf 1 0 st (by omega) (by omega) (by omega)))
            · rw [if_neg hcap] at hcv1
              go_wp2_with fail
              go_region
              go_wp2_with fail
              clear c0 c1 c2 c3 g1 g2 g3 t0 t1 t2 t3 HN6 tf2 hcv1
              go_loopw [8] (fun iv wr => iv = .int .i64 0 ∧ NdSt w wr rb A cap bs ((pp : Int) + (n : Int)) (64 - (k : Int) - 1) 0 1 0 st (.slice none 0 0)) (fun _ _ => 0)
              case atStart => exact ⟨rfl, HN7.out⟩
              case round =>
                obtain ⟨rfl, hN⟩ := hrel
                have HN9 : Hid (NdSt w wr rb A cap bs ((pp : Int) + (n : Int)) (64 - (k : Int) - 1) 0 1 0 st (.slice none 0 0)) := hN
                obtain ⟨_, ⟨_, d0, d1, d2, d3, _, _, _⟩, u0, u1, u2, u3, _, r0, r1, r2, r3, rf, sz⟩ := hN
                have rf0 := rf 0
                have rf1 := rf 1
                have rf2 := rf 2
                have rf3 := rf 3
                have szr : w.heap.size < wr.heap.size := by omega
                clear rf HN7
                go_wp2_with fail
                refine bodyPost_ret (v := .agg #[.int .i64 1, .int .i64 0, .string st, .slice none 0 0]) (by simp [results, Try.results37, go_sem, r0, r1, r2, r3]) rfl ?_
                have hfin := HN9.out.done h0
                exact rf_ok (at' := pp + n) HT.out (hfin _ _ _ _).1 (by have := (hfin (.int .i64 1) (.int .i64 0) (.string st) (.slice none 0 0)).2; rwa [show (64 : Int) - (k : Int) - 1 = 64 - ((k + 1 : Nat) : Int) from by omega, show (pp : Int) + (n : Int) = ((pp + n : Nat) : Int) from by omega] at this) (by omega) rfl (by rw [← HST.out]; exact rep_leaf (a := ⟨1, 0, st⟩) (fit_leaf 1 0 st (by omega) (by omega) (by omega)))
    by_cases q2 : h = 2
    · subst q2
      go_wp2_with fail
      refine (rfnum_any _ rb A cap bs (at' + 1) 4 B (64 - (k : Int) - 1) 4 rfl HN3.out.st (HY.out _ HN3.out.only) hB (by omega) (by omega) hl (by omega)).mono ?_
      rintro e w4 ⟨n, er, rfl, ho4, hst4, hcase⟩
      have hN4 := HN3.out.move h0 ho4 hst4
      clear c0 c1 c2 c3 g1 g2 g3 t0 t1 t2 t3 tf0 HN3 ho4 hst4
      rcases hcase with ⟨hs4, rfl, rfl⟩ | ⟨hs4, hn4, rfl⟩
      · have HT : Hid (tk (f + 1) k (bs.drop at') = .error 1) := by
          show _ = _; rw [HK0.out, tkH, if_neg (by decide), if_pos rfl, tkN, if_pos (by have := Hzl.out; omega)]
        have HN5 : Hid (NdSt w (w4.setCell ⟨w.heap.size + 1, 1, none⟩ (.int .i64 0)) rb A cap bs ((at' + 1 + 4 : Nat) : Int) (64 - (k : Int) - 1) 1 2 0 ⟨#[]⟩ (.slice none 0 0)) := hN4.numb h0 0
        obtain ⟨_, ⟨_, c0, c1, c2, c3, g1, g2, g3⟩, t0, t1, t2, t3, tf, _, _, _, _, _, sz4⟩ := hN4
        have tf1 := tf 1
        clear tf
        go_wp2_with fail
        clear c0 c1 c2 c3 g1 g2 g3 t0 t1 t2 t3 tf1
        go_loopw [8] (fun iv wr => iv = .int .i64 0 ∧ NdSt w wr rb A cap bs ((at' + 1 + 4 : Nat) : Int) (64 - (k : Int) - 1) 1 2 0 ⟨#[]⟩ (.slice none 0 0)) (fun _ _ => 0)
        case atStart => exact ⟨rfl, HN5.out⟩
        case round =>
          obtain ⟨rfl, hN⟩ := hrel
          have HN9 : Hid (NdSt w wr rb A cap bs ((at' + 1 + 4 : Nat) : Int) (64 - (k : Int) - 1) 1 2 0 ⟨#[]⟩ (.slice none 0 0)) := hN
          obtain ⟨_, ⟨_, d0, d1, d2, d3, _, _, _⟩, u0, u1, u2, u3, _, r0, r1, r2, r3, rf, sz⟩ := hN
          have rf0 := rf 0
          have rf1 := rf 1
          have rf2 := rf 2
          have rf3 := rf 3
          have szr : w.heap.size < wr.heap.size := by omega
          clear rf HN5
          go_wp2_with fail
          refine bodyPost_ret (v := .agg #[.int .i64 2, .int .i64 0, .string ⟨#[]⟩, .slice none 0 0]) (by simp [results, Try.results37, go_sem, r0, r1, r2, r3]) rfl ?_
          have hfin := HN9.out.done h0
          exact rf_err (er := 1) HT.out (hfin _ _ _ _).1 (hfin _ _ _ _).2
      · have hnz : n = unBe (zs.take 4) := by rw [hn4, Hzs.out]
        have hnb : n < 4294967296 := by rw [hnz]; exact unBe_small zs 4 (by have := Hzl.out; omega)
        have HT0 : Hid (tk (f + 1) k (bs.drop at') = if 1073741824 < n then .error 3 else .ok (⟨2, (n : Int), ⟨#[]⟩⟩, .nil, k + 1, zs.drop 4)) := by
          show _ = _
          rw [HK0.out, tkH, if_neg (by decide), if_pos rfl, tkN, if_neg (by have := Hzl.out; omega), ← hnz]
          by_cases hq : 1073741824 < n <;> simp [hq]
        have HN5 : Hid (NdSt w (w4.setCell ⟨w.heap.size + 1, 1, none⟩ (.int .i64 (n : Int))) rb A cap bs ((at' + 1 + 4 : Nat) : Int) (64 - (k : Int) - 1) 0 2 (n : Int) ⟨#[]⟩ (.slice none 0 0)) := hN4.numb h0 _
        obtain ⟨_, ⟨_, c0, c1, c2, c3, g1, g2, g3⟩, t0, t1, t2, t3, tf, _, _, _, _, _, sz4⟩ := hN4
        have tf1 := tf 1
        clear tf hn4 hnz
        by_cases hq : 1073741824 < n
        · have HT : Hid (tk (f + 1) k (bs.drop at') = .error 3) := by show _ = _; rw [HT0.out, if_pos hq]
          have HN6 := HN5.out.err h0 3
          have HN7 : Hid (NdSt w ((w4.setCell ⟨w.heap.size + 1, 1, none⟩ (.int .i64 (n : Int))).setCell ⟨rb, 3, none⟩ (.int .i64 3)) rb A cap bs ((at' + 1 + 4 : Nat) : Int) (64 - (k : Int) - 1) 3 2 (n : Int) ⟨#[]⟩ (.slice none 0 0)) := HN6
          clear HN6
          go_wp2_with fail
          clear c0 c1 c2 c3 g1 g2 g3 t0 t1 t2 t3 tf1 HN5
          go_loopw [8] (fun iv wr => iv = .int .i64 0 ∧ NdSt w wr rb A cap bs ((at' + 1 + 4 : Nat) : Int) (64 - (k : Int) - 1) 3 2 (n : Int) ⟨#[]⟩ (.slice none 0 0)) (fun _ _ => 0)
          case atStart => exact ⟨rfl, HN7.out⟩
          case round =>
            obtain ⟨rfl, hN⟩ := hrel
            have HN9 : Hid (NdSt w wr rb A cap bs ((at' + 1 + 4 : Nat) : Int) (64 - (k : Int) - 1) 3 2 (n : Int) ⟨#[]⟩ (.slice none 0 0)) := hN
            obtain ⟨_, ⟨_, d0, d1, d2, d3, _, _, _⟩, u0, u1, u2, u3, _, r0, r1, r2, r3, rf, sz⟩ := hN
            have rf0 := rf 0
            have rf1 := rf 1
            have rf2 := rf 2
            have rf3 := rf 3
            have szr : w.heap.size < wr.heap.size := by omega
            clear rf HN7
            go_wp2_with fail
            refine bodyPost_ret (v := .agg #[.int .i64 2, .int .i64 (n : Int), .string ⟨#[]⟩, .slice none 0 0]) (by simp [results, Try.results37, go_sem, r0, r1, r2, r3]) rfl ?_
            have hfin := HN9.out.done h0
            exact rf_err (er := 3) HT.out (hfin _ _ _ _).1 (hfin _ _ _ _).2
        · have HT : Hid (tk (f + 1) k (bs.drop at') = .ok (⟨2, (n : Int), ⟨#[]⟩⟩, .nil, k + 1, zs.drop 4)) := by show _ = _; rw [HT0.out, if_neg hq]
          go_wp2_with fail
          clear c0 c1 c2 c3 g1 g2 g3 t0 t1 t2 t3 tf1
          go_loopw [8] (fun iv wr => iv = .int .i64 0 ∧ NdSt w wr rb A cap bs ((at' + 1 + 4 : Nat) : Int) (64 - (k : Int) - 1) 0 2 (n : Int) ⟨#[]⟩ (.slice none 0 0)) (fun _ _ => 0)
          case atStart => exact ⟨rfl, HN5.out⟩
          case round =>
            obtain ⟨rfl, hN⟩ := hrel
            have HN9 : Hid (NdSt w wr rb A cap bs ((at' + 1 + 4 : Nat) : Int) (64 - (k : Int) - 1) 0 2 (n : Int) ⟨#[]⟩ (.slice none 0 0)) := hN
            obtain ⟨_, ⟨_, d0, d1, d2, d3, _, _, _⟩, u0, u1, u2, u3, _, r0, r1, r2, r3, rf, sz⟩ := hN
            have rf0 := rf 0
            have rf1 := rf 1
            have rf2 := rf 2
            have rf3 := rf 3
            have szr : w.heap.size < wr.heap.size := by omega
            clear rf HN5
            go_wp2_with fail
            refine bodyPost_ret (v := .agg #[.int .i64 2, .int .i64 (n : Int), .string ⟨#[]⟩, .slice none 0 0]) (by simp [results, Try.results37, go_sem, r0, r1, r2, r3]) rfl ?_
            have hfin := HN9.out.done h0
            exact rf_ok (at' := at' + 1 + 4) HT.out (hfin _ _ _ _).1 (by have := (hfin (.int .i64 2) (.int .i64 (n : Int)) (.string ⟨#[]⟩) (.slice none 0 0)).2; rwa [show (64 : Int) - (k : Int) - 1 = 64 - ((k + 1 : Nat) : Int) from by omega] at this) (by omega) (by rw [← Hzs.out, List.drop_drop]) (rep_leaf (a := ⟨2, (n : Int), ⟨#[]⟩⟩) (fit_leaf 2 n _ (by omega) (by omega) (by decide)))
    have HT : Hid (tk (f + 1) k (bs.drop at') = .error 2) := by show _ = _; rw [HK0.out, tkH, if_neg q1, if_neg q2, if_neg (by omega), if_neg (by omega)]
    have k1 : ((h : Int) == 1) = false := by simp; omega
    have k2 : ((h : Int) == 2) = false := by simp; omega
    have k3 : ((h : Int) == 3) = false := by simp; omega
    have k4 : ((h : Int) == 4) = false := by simp; omega
    have k5 : ((h : Int) == 5) = false := by simp; omega
    have k6 : ((h : Int) == 6) = false := by simp; omega
    have k7 : ((h : Int) == 7) = false := by simp; omega
    have HN4 : Hid (NdSt w ((w2.setCell ⟨w.heap.size + 1, 0, none⟩ (.int .i64 (h : Int))).setCell ⟨rb, 3, none⟩ (.int .i64 2)) rb A cap bs ((at' + 1 : Nat) : Int) (64 - (k : Int) - 1) 2 (h : Int) 0 ⟨#[]⟩ (.slice none 0 0)) := HN3.out.err h0 2
    go_wp2_with fail
    clear c0 c1 c2 c3 g1 g2 g3 t0 t1 t2 t3 tf0 HN3 k1 k2 k3 k4 k5 k6 k7
    go_loopw [8] (fun iv wr => iv = .int .i64 0 ∧ NdSt w wr rb A cap bs ((at' + 1 : Nat) : Int) (64 - (k : Int) - 1) 2 (h : Int) 0 ⟨#[]⟩ (.slice none 0 0)) (fun _ _ => 0)
    case atStart => exact ⟨rfl, HN4.out⟩
    case round =>
      obtain ⟨rfl, hN⟩ := hrel
      have HN9 : Hid (NdSt w wr rb A cap bs ((at' + 1 : Nat) : Int) (64 - (k : Int) - 1) 2 (h : Int) 0 ⟨#[]⟩ (.slice none 0 0)) := hN
      obtain ⟨_, ⟨_, d0, d1, d2, d3, _, _, _⟩, u0, u1, u2, u3, _, r0, r1, r2, r3, rf, sz⟩ := hN
      have rf0 := rf 0
      have rf1 := rf 1
      have rf2 := rf 2
      have rf3 := rf 3
      have szr : w.heap.size < wr.heap.size := by omega
      clear rf HN4
      go_wp2_with fail
      refine bodyPost_ret (v := .agg #[.int .i64 (h : Int), .int .i64 0, .string ⟨#[]⟩, .slice none 0 0]) (by simp [results, Try.results37, go_sem, r0, r1, r2, r3]) rfl ?_
      have hfin := HN9.out.done h0
      exact rf_err (er := 2) HT.out (hfin _ _ _ _).1 (hfin _ _ _ _).2

end Go.Proofs.Ytooffmmfacdjeaa
