import Derived.Test.YtooffmmfacdjeaaC6
namespace Go.Proofs.Ytooffmmfacdjeaa
open Go.RowKit
set_option linter.unusedVariables false
set_option linter.unusedSimpArgs false

theorem size_setCell' (w : World) (p : Addr) (u : Value) : (w.setCell p u).heap.size = w.heap.size := by simp [World.setCell]

theorem res4s {tb : Nat} {w W : World} {p : Addr} {u : Value} {T : TypeId} (h : Only tb ((w.setCell p u).alloc (.cells #[.int .i64 0, .int .i64 0, .string ⟨#[]⟩, .slice none 0 0] T)) W) (ht : tb < w.heap.size) :
    W.cell? ⟨w.heap.size, 0, none⟩ = some (.int .i64 0) ∧ W.cell? ⟨w.heap.size, 1, none⟩ = some (.int .i64 0) ∧ W.cell? ⟨w.heap.size, 2, none⟩ = some (.string ⟨#[]⟩) ∧ W.cell? ⟨w.heap.size, 3, none⟩ = some (.slice none 0 0) ∧
      W.frozen? ⟨w.heap.size, 0, none⟩ = false ∧ W.frozen? ⟨w.heap.size, 1, none⟩ = false ∧ W.frozen? ⟨w.heap.size, 2, none⟩ = false ∧ W.frozen? ⟨w.heap.size, 3, none⟩ = false := by
  have := res4 h (by rw [size_setCell']; exact ht)
  rwa [size_setCell'] at this

theorem RdAt.tick {w : World} {rb : Nat} {A : Option Addr} {cap : Nat} {xs : List UInt8} {k : Nat} (h : RdAt w rb A cap xs k) (T : Obj) : RdAt ((w.setCell ⟨rb, 1, none⟩ (.int .i64 ((k : Int) + 1))).alloc T) rb A cap xs (k + 1) := by
  refine RdAt.keep (w := w.setCell ⟨rb, 1, none⟩ (.int .i64 ((k : Int) + 1))) ⟨by rw [size_setCell']; exact h.lt, ?_, ?_, ?_, ?_, h.cap', h.max'⟩ (Below.alloc (Below.refl _ _) (Nat.le_refl _) _)
  · rw [World.cell?_setCell_other]
    · exact h.c0
    · intro e; injection e with _ e; omega
  · rw [World.cell?_setCell_same _ _ _ h.c1]; rfl
  · rw [World.frozen?_setCell]; exact h.f0
  · rw [World.frozen?_setCell]; exact h.f1

set_option maxRecDepth 100000 in
set_option maxHeartbeats 4000000 in
theorem node_step (f : Nat) (hf : f ≤ 15) (ih : NodeOk f) : NodeOk (f + 1) := by
  intro w rb A cap xs k B dz hdz hR hy hB hk
  have HDZ : Hid (dz = 16 - (f : Int)) := by show dz = _; omega
  have hd0 : 0 ≤ dz := by omega
  have hd1 : dz ≤ 16 := by omega
  clear hdz
  have h0 := hR.lt
  have HR : Hid (RdAt w rb A cap xs k) := hR
  obtain ⟨_, c0, c1, g0, g1, m0, m1⟩ := hR
  have ho1 : Only rb w ((w.setCell ⟨rb, 1, none⟩ (.int .i64 ((k : Int) + 1))).alloc (.cells #[.int .i64 0, .int .i64 0, .string ⟨#[]⟩, .slice none 0 0] 30)) := Only.alloc (Only.setCell (p := ⟨rb, 1, none⟩) (Only.refl _ _) (.inl rfl) _) _
  by_cases hk1 : 64 < k + 1
  · have HT : Hid (tk (f + 1) k xs = .error 4) := by show tk (f + 1) k xs = _; cases xs <;> rw [tk, if_pos hk1]
    go_enter Try.func36, Try.ntmps36
    go_wp2_with fail
    exact bodyPost_ret (v := .tuple #[.agg #[.int .i64 0, .int .i64 0, .string ⟨#[]⟩, .slice none 0 0], .iface 36 (.int .i64 4)]) (by simp [results, Try.results36, go_sem, size_setCell']) rfl (nd_err (er := 4) HT.out ho1)
  have hR1 : Hid (RdAt ((w.setCell ⟨rb, 1, none⟩ (.int .i64 ((k : Int) + 1))).alloc (.cells #[.int .i64 0, .int .i64 0, .string ⟨#[]⟩, .slice none 0 0] 30)) rb A cap xs (k + 1)) := HR.out.tick _
  have hY1 : Hid (ByAt ((w.setCell ⟨rb, 1, none⟩ (.int .i64 ((k : Int) + 1))).alloc (.cells #[.int .i64 0, .int .i64 0, .string ⟨#[]⟩, .slice none 0 0] 30)) B A xs) := hy.keep (Nat.le_refl _) (fun b o hb => ho1.cell (by simp; omega) (by simp; omega))
  have hk2 : decide (64 < (k : Int) + 1) = false := by simp; omega
  have hk3 : decide (16 < dz) = false := by simp; omega
  cases xs with
  | nil =>
    have HT : Hid (tk (f + 1) k [] = .error 1) := by show tk (f + 1) k [] = _; rw [tk, if_neg hk1]
    go_enter Try.func36, Try.ntmps36
    go_wp2_with fail
    refine (rbytes_short _ rb A cap [] (k + 1) 1 _ rfl hR1.out (by simp)).mono ?_
    rintro e w2 ⟨rfl, rfl⟩
    go_wp2_with fail
    exact bodyPost_ret (v := .tuple #[.agg #[.int .i64 0, .int .i64 0, .string ⟨#[]⟩, .slice none 0 0], .iface 36 (.int .i64 1)]) (by simp [results, Try.results36, go_sem, size_setCell']) rfl (nd_err (er := 1) HT.out ho1)
  | cons x zs =>
    have HK0 : Hid (tk (f + 1) k (x :: zs) = tkH (tk f) x.toNat (k + 1) zs) := by show _ = _; rw [tk, if_neg hk1]
    have hx : x.toNat < 256 := x.toNat_lt
    clear c0 g0
    go_enter Try.func36, Try.ntmps36
    go_wp2_with fail
    refine (rbytes_ok _ rb A cap (x :: zs) (k + 1) B 1 _ rfl hR1.out hY1.out hB (by simp)).mono ?_
    rintro e w2 ⟨A1, A2, cap2, rfl, ho2, hrd2, hb1, hb2⟩
    have HRD : Hid (RdAt w2 rb A2 cap2 zs (k + 1)) := hrd2
    have HBY : Hid (ByAt w2 B A2 zs) := hb2
    obtain ⟨bb, oo, rfl, hbb, hcc⟩ : ∃ b o, A1 = some ⟨b, o, none⟩ ∧ b < B ∧ ∀ i, i < [x].length → w2.cell? ⟨b, o + i, none⟩ = some (.int .u8 (([x].getD i 0).toNat : Int)) := by
      rcases hb1 with h | h
      · simp at h
      · exact h
    have hc0 : w2.cell? ⟨bb, oo, none⟩ = some (.int .u8 (x.toNat : Int)) := hcc 0 (by simp)
    clear hcc hrd2 hb2 hb1 hR1 hY1 HR hy c1 g1
    generalize hh : x.toNat = h at *
    clear hh
    by_cases q1 : h = 1
    · subst q1
      have HK : Hid (tk (f + 1) k (x :: zs) = tkAK (k + 1) zs) := by show _ = _; rw [HK0.out, tkH, if_pos rfl]; rfl
      go_wp2_with fail
      refine (ratom_any w2 rb A2 cap2 zs (k + 1) B HRD.out HBY.out hB).mono ?_
      rintro e w3 ⟨h1, h2⟩
      cases ht : tkAK (k + 1) zs with
      | error er =>
        obtain ⟨rfl, ho3⟩ := h1 er ht
        have HT : Hid (tk (f + 1) k (x :: zs) = .error er) := by show _ = _; rw [HK.out]; exact ht
        clear h1 h2 ht HK
        obtain ⟨r0, r1, r2, r3, f0, f1, f2, f3⟩ := res4s (ho2.trans ho3) h0
        go_wp2_with fail
        exact bodyPost_ret (v := .tuple #[.agg #[.int .i64 0, .int .i64 0, .string ⟨#[]⟩, .slice none 0 0], .iface 36 (.int .i64 (er : Int))]) (by simp [results, Try.results36, go_sem, r0, r1, r2, r3]) rfl
          (nd_err HT.out (Only.set4 (ho1.trans (ho2.trans ho3)) (Nat.le_refl _) _ _ _ _))
      | ok y =>
        obtain ⟨a1, l1, k1, us⟩ := y
        obtain ⟨v, A5, cap5, rfl, ho3, hrd3, hby3, hf1, A6, cap6, b6, o6, rfl, hn6, hA6, hl6⟩ := h2 a1 l1 k1 us ht
        have HT : Hid (tk (f + 1) k (x :: zs) = .ok (a1, l1, k1, us)) := by show _ = _; rw [HK.out]; exact ht
        have HA6 : Hid (flen l1 = 0 ∨ A6 = some ⟨b6, o6, none⟩) := hA6
        have HR3 : Hid (RdAt w3 rb A5 cap5 us k1) := hrd3
        have HY3 : Hid (ByAt w3 B A5 us) := hby3
        clear h1 h2 ht HK hA6 hrd3 hby3
        obtain ⟨r0, r1, r2, r3, f0, f1, f2, f3⟩ := res4s (ho2.trans ho3) h0
        go_wp2_with fail
        refine bodyPost_ret (v := .tuple #[.agg #[.int .i64 a1.kind, .int .i64 a1.n, .string a1.s, .slice A6 (flen l1) cap6], .nilIface]) (by simp [results, Try.results36, go_sem, r0, r1, r2, r3]) rfl ?_
        have hsz := ho2.size
        rw [World.heap_size_alloc', size_setCell'] at hsz
        refine nd_ok HT.out (Only.set4 (ho1.trans (ho2.trans ho3)) (Nat.le_refl _) _ _ _ _) (HR3.out.set4 (by omega) _ _ _ _) (HY3.out.set4 (by omega) _ _ _ _) ⟨hf1, A6, cap6, b6, o6, rfl, hn6, HA6.out, ?_⟩
        exact RepG.keep (fun b hb => ⟨by have := hb.1; omega, by rw [size_set4']; exact hb.2⟩) (fun b o hb => cell_set4 _ _ _ _ _ _ _ _ (by have := hb.1; omega)) hl6
    by_cases q2 : h = 2
    · subst q2
      have HK1 : Hid (∀ r, tkN 4 1073741824 zs = r → tk (f + 1) k (x :: zs) = match r with | .error e => .error e | .ok (n, us) => .ok (⟨2, (n : Int), ⟨#[]⟩⟩, .nil, k + 1, us)) := by
        intro r hr; rw [HK0.out, tkH, if_neg (by decide), if_pos rfl, hr]; cases r <;> rfl
      go_wp2_with fail
      refine (rnum_any w2 rb A2 cap2 zs (k + 1) B 4 1073741824 _ _ rfl rfl (by omega) HRD.out HBY.out hB).mono ?_
      rintro e w3 ⟨h1, h2⟩
      cases ht : tkN 4 1073741824 zs with
      | error er =>
        obtain ⟨rfl, ho3⟩ := h1 er ht
        have HT : Hid (tk (f + 1) k (x :: zs) = .error er) := HK1.out _ ht
        clear h1 h2 ht HK1
        obtain ⟨r0, r1, r2, r3, f0, f1, f2, f3⟩ := res4s (ho2.trans ho3) h0
        go_wp2_with fail
        exact bodyPost_ret (v := .tuple #[.agg #[.int .i64 0, .int .i64 0, .string ⟨#[]⟩, .slice none 0 0], .iface 36 (.int .i64 (er : Int))]) (by simp [results, Try.results36, go_sem, r0, r1, r2, r3]) rfl
          (nd_err HT.out (Only.set4 (ho1.trans (ho2.trans ho3)) (Nat.le_refl _) _ _ _ _))
      | ok y =>
        obtain ⟨n, us⟩ := y
        obtain ⟨A5, cap5, rfl, ho3, hrd3, hby3⟩ := h2 n us ht
        have hn : n ≤ 1073741824 := (tkN_of ht).2.2.1
        have HT : Hid (tk (f + 1) k (x :: zs) = .ok (⟨2, (n : Int), ⟨#[]⟩⟩, .nil, k + 1, us)) := HK1.out _ ht
        have HR3 : Hid (RdAt w3 rb A5 cap5 us (k + 1)) := hrd3
        have HY3 : Hid (ByAt w3 B A5 us) := hby3
        clear h1 h2 ht HK1 hrd3 hby3
        obtain ⟨r0, r1, r2, r3, f0, f1, f2, f3⟩ := res4s (ho2.trans ho3) h0
        go_wp2_with fail
        refine bodyPost_ret (v := .tuple #[.agg #[.int .i64 2, .int .i64 (n : Int), .string ⟨#[]⟩, .slice none 0 0], .nilIface]) (by simp [results, Try.results36, go_sem, r0, r1, r2, r3]) rfl ?_
        exact nd_ok HT.out (Only.set4 (ho1.trans (ho2.trans ho3)) (Nat.le_refl _) _ _ _ _) (HR3.out.set4 (by omega) _ _ _ _) (HY3.out.set4 (by omega) _ _ _ _) (rep_leaf (a := ⟨2, (n : Int), ⟨#[]⟩⟩) (fit_leaf 2 n _ (by omega) (by omega) (by decide)))
    by_cases q3 : h = 3
    · subst q3
      have HK : Hid (tk (f + 1) k (x :: zs) = aboveR (tk f) 3 1 (k + 1) zs) := by show _ = _; rw [HK0.out, tkH, if_neg (by decide), if_neg (by decide), if_pos (by decide)]; rfl
      go_wp2_with fail
      refine (above_any f (by omega) ih w2 rb A2 cap2 zs (k + 1) B 3 1 _ _ _ HDZ.out rfl rfl (by omega) (by omega) (by omega) HRD.out HBY.out hB (by omega)).mono ?_
      rintro e w3 ⟨h1, h2⟩
      cases ht : aboveR (tk f) 3 1 (k + 1) zs with
      | error er =>
        obtain ⟨rfl, ho3⟩ := h1 er ht
        have HT : Hid (tk (f + 1) k (x :: zs) = .error er) := by show _ = _; rw [HK.out]; exact ht
        clear h1 h2 ht HK
        obtain ⟨r0, r1, r2, r3, f0, f1, f2, f3⟩ := res4s (ho2.trans ho3) h0
        go_wp2_with fail
        exact bodyPost_ret (v := .tuple #[.agg #[.int .i64 0, .int .i64 0, .string ⟨#[]⟩, .slice none 0 0], .iface 36 (.int .i64 (er : Int))]) (by simp [results, Try.results36, go_sem, r0, r1, r2, r3]) rfl
          (nd_err HT.out (Only.set4 (ho1.trans (ho2.trans ho3)) (Nat.le_refl _) _ _ _ _))
      | ok y =>
        obtain ⟨a1, l1, k1, us⟩ := y
        obtain ⟨v, A5, cap5, rfl, ho3, hrd3, hby3, hf1, A6, cap6, b6, o6, rfl, hn6, hA6, hl6⟩ := h2 a1 l1 k1 us ht
        have HT : Hid (tk (f + 1) k (x :: zs) = .ok (a1, l1, k1, us)) := by show _ = _; rw [HK.out]; exact ht
        have HA6 : Hid (flen l1 = 0 ∨ A6 = some ⟨b6, o6, none⟩) := hA6
        have HR3 : Hid (RdAt w3 rb A5 cap5 us k1) := hrd3
        have HY3 : Hid (ByAt w3 B A5 us) := hby3
        clear h1 h2 ht HK hA6 hrd3 hby3
        obtain ⟨r0, r1, r2, r3, f0, f1, f2, f3⟩ := res4s (ho2.trans ho3) h0
        go_wp2_with fail
        refine bodyPost_ret (v := .tuple #[.agg #[.int .i64 a1.kind, .int .i64 a1.n, .string a1.s, .slice A6 (flen l1) cap6], .nilIface]) (by simp [results, Try.results36, go_sem, r0, r1, r2, r3]) rfl ?_
        have hsz := ho2.size
        rw [World.heap_size_alloc', size_setCell'] at hsz
        refine nd_ok HT.out (Only.set4 (ho1.trans (ho2.trans ho3)) (Nat.le_refl _) _ _ _ _) (HR3.out.set4 (by omega) _ _ _ _) (HY3.out.set4 (by omega) _ _ _ _) ⟨hf1, A6, cap6, b6, o6, rfl, hn6, HA6.out, ?_⟩
        exact RepG.keep (fun b hb => ⟨by have := hb.1; omega, by rw [size_set4']; exact hb.2⟩) (fun b o hb => cell_set4 _ _ _ _ _ _ _ _ (by have := hb.1; omega)) hl6
    by_cases q4 : h = 4
    · subst q4
      have HK : Hid (tk (f + 1) k (x :: zs) = aboveR (tk f) 4 1 (k + 1) zs) := by show _ = _; rw [HK0.out, tkH, if_neg (by decide), if_neg (by decide), if_pos (by decide)]; rfl
      go_wp2_with fail
      refine (above_any f (by omega) ih w2 rb A2 cap2 zs (k + 1) B 4 1 _ _ _ HDZ.out rfl rfl (by omega) (by omega) (by omega) HRD.out HBY.out hB (by omega)).mono ?_
      rintro e w3 ⟨h1, h2⟩
      cases ht : aboveR (tk f) 4 1 (k + 1) zs with
      | error er =>
        obtain ⟨rfl, ho3⟩ := h1 er ht
        have HT : Hid (tk (f + 1) k (x :: zs) = .error er) := by show _ = _; rw [HK.out]; exact ht
        clear h1 h2 ht HK
        obtain ⟨r0, r1, r2, r3, f0, f1, f2, f3⟩ := res4s (ho2.trans ho3) h0
        go_wp2_with fail
        exact bodyPost_ret (v := .tuple #[.agg #[.int .i64 0, .int .i64 0, .string ⟨#[]⟩, .slice none 0 0], .iface 36 (.int .i64 (er : Int))]) (by simp [results, Try.results36, go_sem, r0, r1, r2, r3]) rfl
          (nd_err HT.out (Only.set4 (ho1.trans (ho2.trans ho3)) (Nat.le_refl _) _ _ _ _))
      | ok y =>
        obtain ⟨a1, l1, k1, us⟩ := y
        obtain ⟨v, A5, cap5, rfl, ho3, hrd3, hby3, hf1, A6, cap6, b6, o6, rfl, hn6, hA6, hl6⟩ := h2 a1 l1 k1 us ht
        have HT : Hid (tk (f + 1) k (x :: zs) = .ok (a1, l1, k1, us)) := by show _ = _; rw [HK.out]; exact ht
        have HA6 : Hid (flen l1 = 0 ∨ A6 = some ⟨b6, o6, none⟩) := hA6
        have HR3 : Hid (RdAt w3 rb A5 cap5 us k1) := hrd3
        have HY3 : Hid (ByAt w3 B A5 us) := hby3
        clear h1 h2 ht HK hA6 hrd3 hby3
        obtain ⟨r0, r1, r2, r3, f0, f1, f2, f3⟩ := res4s (ho2.trans ho3) h0
        go_wp2_with fail
        refine bodyPost_ret (v := .tuple #[.agg #[.int .i64 a1.kind, .int .i64 a1.n, .string a1.s, .slice A6 (flen l1) cap6], .nilIface]) (by simp [results, Try.results36, go_sem, r0, r1, r2, r3]) rfl ?_
        have hsz := ho2.size
        rw [World.heap_size_alloc', size_setCell'] at hsz
        refine nd_ok HT.out (Only.set4 (ho1.trans (ho2.trans ho3)) (Nat.le_refl _) _ _ _ _) (HR3.out.set4 (by omega) _ _ _ _) (HY3.out.set4 (by omega) _ _ _ _) ⟨hf1, A6, cap6, b6, o6, rfl, hn6, HA6.out, ?_⟩
        exact RepG.keep (fun b hb => ⟨by have := hb.1; omega, by rw [size_set4']; exact hb.2⟩) (fun b o hb => cell_set4 _ _ _ _ _ _ _ _ (by have := hb.1; omega)) hl6
    by_cases q5 : h = 5
    · subst q5
      have HK : Hid (tk (f + 1) k (x :: zs) = aboveR (tk f) 5 2 (k + 1) zs) := by show _ = _; rw [HK0.out, tkH, if_neg (by decide), if_neg (by decide), if_neg (by decide), if_pos (by decide)]; rfl
      go_wp2_with fail
      refine (above_any f (by omega) ih w2 rb A2 cap2 zs (k + 1) B 5 2 _ _ _ HDZ.out rfl rfl (by omega) (by omega) (by omega) HRD.out HBY.out hB (by omega)).mono ?_
      rintro e w3 ⟨h1, h2⟩
      cases ht : aboveR (tk f) 5 2 (k + 1) zs with
      | error er =>
        obtain ⟨rfl, ho3⟩ := h1 er ht
        have HT : Hid (tk (f + 1) k (x :: zs) = .error er) := by show _ = _; rw [HK.out]; exact ht
        clear h1 h2 ht HK
        obtain ⟨r0, r1, r2, r3, f0, f1, f2, f3⟩ := res4s (ho2.trans ho3) h0
        go_wp2_with fail
        exact bodyPost_ret (v := .tuple #[.agg #[.int .i64 0, .int .i64 0, .string ⟨#[]⟩, .slice none 0 0], .iface 36 (.int .i64 (er : Int))]) (by simp [results, Try.results36, go_sem, r0, r1, r2, r3]) rfl
          (nd_err HT.out (Only.set4 (ho1.trans (ho2.trans ho3)) (Nat.le_refl _) _ _ _ _))
      | ok y =>
        obtain ⟨a1, l1, k1, us⟩ := y
        obtain ⟨v, A5, cap5, rfl, ho3, hrd3, hby3, hf1, A6, cap6, b6, o6, rfl, hn6, hA6, hl6⟩ := h2 a1 l1 k1 us ht
        have HT : Hid (tk (f + 1) k (x :: zs) = .ok (a1, l1, k1, us)) := by show _ = _; rw [HK.out]; exact ht
        have HA6 : Hid (flen l1 = 0 ∨ A6 = some ⟨b6, o6, none⟩) := hA6
        have HR3 : Hid (RdAt w3 rb A5 cap5 us k1) := hrd3
        have HY3 : Hid (ByAt w3 B A5 us) := hby3
        clear h1 h2 ht HK hA6 hrd3 hby3
        obtain ⟨r0, r1, r2, r3, f0, f1, f2, f3⟩ := res4s (ho2.trans ho3) h0
        go_wp2_with fail
        refine bodyPost_ret (v := .tuple #[.agg #[.int .i64 a1.kind, .int .i64 a1.n, .string a1.s, .slice A6 (flen l1) cap6], .nilIface]) (by simp [results, Try.results36, go_sem, r0, r1, r2, r3]) rfl ?_
        have hsz := ho2.size
        rw [World.heap_size_alloc', size_setCell'] at hsz
        refine nd_ok HT.out (Only.set4 (ho1.trans (ho2.trans ho3)) (Nat.le_refl _) _ _ _ _) (HR3.out.set4 (by omega) _ _ _ _) (HY3.out.set4 (by omega) _ _ _ _) ⟨hf1, A6, cap6, b6, o6, rfl, hn6, HA6.out, ?_⟩
        exact RepG.keep (fun b hb => ⟨by have := hb.1; omega, by rw [size_set4']; exact hb.2⟩) (fun b o hb => cell_set4 _ _ _ _ _ _ _ _ (by have := hb.1; omega)) hl6
    by_cases q6 : h = 6
    · subst q6
      have HK : Hid (tk (f + 1) k (x :: zs) = aboveR (tk f) 6 2 (k + 1) zs) := by show _ = _; rw [HK0.out, tkH, if_neg (by decide), if_neg (by decide), if_neg (by decide), if_pos (by decide)]; rfl
      go_wp2_with fail
      refine (above_any f (by omega) ih w2 rb A2 cap2 zs (k + 1) B 6 2 _ _ _ HDZ.out rfl rfl (by omega) (by omega) (by omega) HRD.out HBY.out hB (by omega)).mono ?_
      rintro e w3 ⟨h1, h2⟩
      cases ht : aboveR (tk f) 6 2 (k + 1) zs with
      | error er =>
        obtain ⟨rfl, ho3⟩ := h1 er ht
        have HT : Hid (tk (f + 1) k (x :: zs) = .error er) := by show _ = _; rw [HK.out]; exact ht
        clear h1 h2 ht HK
        obtain ⟨r0, r1, r2, r3, f0, f1, f2, f3⟩ := res4s (ho2.trans ho3) h0
        go_wp2_with fail
        exact bodyPost_ret (v := .tuple #[.agg #[.int .i64 0, .int .i64 0, .string ⟨#[]⟩, .slice none 0 0], .iface 36 (.int .i64 (er : Int))]) (by simp [results, Try.results36, go_sem, r0, r1, r2, r3]) rfl
          (nd_err HT.out (Only.set4 (ho1.trans (ho2.trans ho3)) (Nat.le_refl _) _ _ _ _))
      | ok y =>
        obtain ⟨a1, l1, k1, us⟩ := y
        obtain ⟨v, A5, cap5, rfl, ho3, hrd3, hby3, hf1, A6, cap6, b6, o6, rfl, hn6, hA6, hl6⟩ := h2 a1 l1 k1 us ht
        have HT : Hid (tk (f + 1) k (x :: zs) = .ok (a1, l1, k1, us)) := by show _ = _; rw [HK.out]; exact ht
        have HA6 : Hid (flen l1 = 0 ∨ A6 = some ⟨b6, o6, none⟩) := hA6
        have HR3 : Hid (RdAt w3 rb A5 cap5 us k1) := hrd3
        have HY3 : Hid (ByAt w3 B A5 us) := hby3
        clear h1 h2 ht HK hA6 hrd3 hby3
        obtain ⟨r0, r1, r2, r3, f0, f1, f2, f3⟩ := res4s (ho2.trans ho3) h0
        go_wp2_with fail
        refine bodyPost_ret (v := .tuple #[.agg #[.int .i64 a1.kind, .int .i64 a1.n, .string a1.s, .slice A6 (flen l1) cap6], .nilIface]) (by simp [results, Try.results36, go_sem, r0, r1, r2, r3]) rfl ?_
        have hsz := ho2.size
        rw [World.heap_size_alloc', size_setCell'] at hsz
        refine nd_ok HT.out (Only.set4 (ho1.trans (ho2.trans ho3)) (Nat.le_refl _) _ _ _ _) (HR3.out.set4 (by omega) _ _ _ _) (HY3.out.set4 (by omega) _ _ _ _) ⟨hf1, A6, cap6, b6, o6, rfl, hn6, HA6.out, ?_⟩
        exact RepG.keep (fun b hb => ⟨by have := hb.1; omega, by rw [size_set4']; exact hb.2⟩) (fun b o hb => cell_set4 _ _ _ _ _ _ _ _ (by have := hb.1; omega)) hl6
    by_cases q7 : h = 7
    · subst q7
      have HK : Hid (tk (f + 1) k (x :: zs) = aboveR (tk f) 7 2 (k + 1) zs) := by show _ = _; rw [HK0.out, tkH, if_neg (by decide), if_neg (by decide), if_neg (by decide), if_pos (by decide)]; rfl
      go_wp2_with fail
      refine (above_any f (by omega) ih w2 rb A2 cap2 zs (k + 1) B 7 2 _ _ _ HDZ.out rfl rfl (by omega) (by omega) (by omega) HRD.out HBY.out hB (by omega)).mono ?_
      rintro e w3 ⟨h1, h2⟩
      cases ht : aboveR (tk f) 7 2 (k + 1) zs with
      | error er =>
        obtain ⟨rfl, ho3⟩ := h1 er ht
        have HT : Hid (tk (f + 1) k (x :: zs) = .error er) := by show _ = _; rw [HK.out]; exact ht
        clear h1 h2 ht HK
        obtain ⟨r0, r1, r2, r3, f0, f1, f2, f3⟩ := res4s (ho2.trans ho3) h0
        go_wp2_with fail
        exact bodyPost_ret (v := .tuple #[.agg #[.int .i64 0, .int .i64 0, .string ⟨#[]⟩, .slice none 0 0], .iface 36 (.int .i64 (er : Int))]) (by simp [results, Try.results36, go_sem, r0, r1, r2, r3]) rfl
          (nd_err HT.out (Only.set4 (ho1.trans (ho2.trans ho3)) (Nat.le_refl _) _ _ _ _))
      | ok y =>
        obtain ⟨a1, l1, k1, us⟩ := y
        obtain ⟨v, A5, cap5, rfl, ho3, hrd3, hby3, hf1, A6, cap6, b6, o6, rfl, hn6, hA6, hl6⟩ := h2 a1 l1 k1 us ht
        have HT : Hid (tk (f + 1) k (x :: zs) = .ok (a1, l1, k1, us)) := by show _ = _; rw [HK.out]; exact ht
        have HA6 : Hid (flen l1 = 0 ∨ A6 = some ⟨b6, o6, none⟩) := hA6
        have HR3 : Hid (RdAt w3 rb A5 cap5 us k1) := hrd3
        have HY3 : Hid (ByAt w3 B A5 us) := hby3
        clear h1 h2 ht HK hA6 hrd3 hby3
        obtain ⟨r0, r1, r2, r3, f0, f1, f2, f3⟩ := res4s (ho2.trans ho3) h0
        go_wp2_with fail
        refine bodyPost_ret (v := .tuple #[.agg #[.int .i64 a1.kind, .int .i64 a1.n, .string a1.s, .slice A6 (flen l1) cap6], .nilIface]) (by simp [results, Try.results36, go_sem, r0, r1, r2, r3]) rfl ?_
        have hsz := ho2.size
        rw [World.heap_size_alloc', size_setCell'] at hsz
        refine nd_ok HT.out (Only.set4 (ho1.trans (ho2.trans ho3)) (Nat.le_refl _) _ _ _ _) (HR3.out.set4 (by omega) _ _ _ _) (HY3.out.set4 (by omega) _ _ _ _) ⟨hf1, A6, cap6, b6, o6, rfl, hn6, HA6.out, ?_⟩
        exact RepG.keep (fun b hb => ⟨by have := hb.1; omega, by rw [size_set4']; exact hb.2⟩) (fun b o hb => cell_set4 _ _ _ _ _ _ _ _ (by have := hb.1; omega)) hl6
    have HT : Hid (tk (f + 1) k (x :: zs) = .error 2) := by show _ = _; rw [HK0.out, tkH, if_neg q1, if_neg q2, if_neg (by omega), if_neg (by omega)]
    have k1 : ((h : Int) == 1) = false := by simp; omega
    have k2 : ((h : Int) == 2) = false := by simp; omega
    have k3 : ((h : Int) == 3) = false := by simp; omega
    have k4 : ((h : Int) == 4) = false := by simp; omega
    have k5 : ((h : Int) == 5) = false := by simp; omega
    have k6 : ((h : Int) == 6) = false := by simp; omega
    have k7 : ((h : Int) == 7) = false := by simp; omega
    obtain ⟨r0, r1, r2, r3, f0, f1, f2, f3⟩ := res4s ho2 h0
    go_wp2_with fail
    exact bodyPost_ret (v := .tuple #[.agg #[.int .i64 0, .int .i64 0, .string ⟨#[]⟩, .slice none 0 0], .iface 36 (.int .i64 2)]) (by simp [results, Try.results36, go_sem, r0, r1, r2, r3]) rfl
      (nd_err (er := 2) HT.out (Only.set4 (ho1.trans ho2) (Nat.le_refl _) _ _ _ _))

set_option maxRecDepth 100000 in
set_option maxHeartbeats 1000000 in
theorem node_zero : NodeOk 0 := by
  intro w rb A cap xs k B dz hdz hR hy hB hk
  have hd0 : 17 ≤ dz := by omega
  have hd1 : dz ≤ 17 := by omega
  have hk3 : decide (16 < dz) = true := by simp; omega
  clear hdz
  have h0 := hR.lt
  obtain ⟨_, c0, c1, g0, g1, m0, m1⟩ := hR
  have ho1 : Only rb w ((w.setCell ⟨rb, 1, none⟩ (.int .i64 ((k : Int) + 1))).alloc (.cells #[.int .i64 0, .int .i64 0, .string ⟨#[]⟩, .slice none 0 0] 30)) := Only.alloc (Only.setCell (p := ⟨rb, 1, none⟩) (Only.refl _ _) (.inl rfl) _) _
  have HT : Hid (tk 0 k xs = .error 4) := by show tk 0 k xs = _; rw [tk]
  by_cases hk1 : 64 < k + 1
  · go_enter Try.func36, Try.ntmps36
    go_wp2_with fail
    exact bodyPost_ret (v := .tuple #[.agg #[.int .i64 0, .int .i64 0, .string ⟨#[]⟩, .slice none 0 0], .iface 36 (.int .i64 4)]) (by simp [results, Try.results36, go_sem, size_setCell']) rfl (nd_err (er := 4) HT.out ho1)
  have hk2 : decide (64 < (k : Int) + 1) = false := by simp; omega
  go_enter Try.func36, Try.ntmps36
  go_wp2_with fail
  exact bodyPost_ret (v := .tuple #[.agg #[.int .i64 0, .int .i64 0, .string ⟨#[]⟩, .slice none 0 0], .iface 36 (.int .i64 4)]) (by simp [results, Try.results36, go_sem, size_setCell']) rfl (nd_err (er := 4) HT.out ho1)

theorem node_any : ∀ f : Nat, f ≤ 16 → NodeOk f
  | 0, _ => node_zero
  | f + 1, h => node_step f (by omega) (node_any f (by omega))

end Go.Proofs.Ytooffmmfacdjeaa
