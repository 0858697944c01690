import Derived.Test.YtooffmmfacdjeaaC8
namespace Go.Proofs.Ytooffmmfacdjeaa
open Go.RowKit
set_option linter.unusedVariables false
set_option linter.unusedSimpArgs false

/-- The reader of package ref2 in block rb. -/
structure RfSt (w : World) (rb : Nat) (A : Option Addr) (cap : Nat) (bs : List UInt8) (at' left er : Int) : Prop where
  lt : rb < w.heap.size
  c0 : w.cell? ⟨rb, 0, none⟩ = some (.slice A bs.length cap)
  c1 : w.cell? ⟨rb, 1, none⟩ = some (.int .i64 at')
  c2 : w.cell? ⟨rb, 2, none⟩ = some (.int .i64 left)
  c3 : w.cell? ⟨rb, 3, none⟩ = some (.int .i64 er)
  f1 : w.frozen? ⟨rb, 1, none⟩ = false
  f2 : w.frozen? ⟨rb, 2, none⟩ = false
  f3 : w.frozen? ⟨rb, 3, none⟩ = false

theorem RfSt.keep {w w' : World} {rb : Nat} {A : Option Addr} {cap : Nat} {bs : List UInt8} {a l e : Int} (h : RfSt w rb A cap bs a l e) (hk : Below w.heap.size w w') : RfSt w' rb A cap bs a l e :=
  ⟨Nat.lt_of_lt_of_le h.lt hk.size, by rw [hk.cell h.lt]; exact h.c0, by rw [hk.cell h.lt]; exact h.c1, by rw [hk.cell h.lt]; exact h.c2, by rw [hk.cell h.lt]; exact h.c3, by rw [hk.frozen h.lt]; exact h.f1, by rw [hk.frozen h.lt]; exact h.f2, by rw [hk.frozen h.lt]; exact h.f3⟩

theorem RfSt.set1 {w : World} {rb : Nat} {A : Option Addr} {cap : Nat} {bs : List UInt8} {a l e : Int} (h : RfSt w rb A cap bs a l e) (x : Int) : RfSt (w.setCell ⟨rb, 1, none⟩ (.int .i64 x)) rb A cap bs x l e := by
  have o : ∀ j, j ≠ 1 → (w.setCell ⟨rb, 1, none⟩ (.int .i64 x)).cell? ⟨rb, j, none⟩ = w.cell? ⟨rb, j, none⟩ := fun j hj => by rw [World.cell?_setCell_other]; intro q; injection q with _ q; omega
  exact ⟨by simpa [World.setCell] using h.lt, by rw [o 0 (by omega)]; exact h.c0, World.cell?_setCell_same _ _ _ h.c1, by rw [o 2 (by omega)]; exact h.c2, by rw [o 3 (by omega)]; exact h.c3, by rw [World.frozen?_setCell]; exact h.f1, by rw [World.frozen?_setCell]; exact h.f2, by rw [World.frozen?_setCell]; exact h.f3⟩
theorem RfSt.set2 {w : World} {rb : Nat} {A : Option Addr} {cap : Nat} {bs : List UInt8} {a l e : Int} (h : RfSt w rb A cap bs a l e) (x : Int) : RfSt (w.setCell ⟨rb, 2, none⟩ (.int .i64 x)) rb A cap bs a x e := by
  have o : ∀ j, j ≠ 2 → (w.setCell ⟨rb, 2, none⟩ (.int .i64 x)).cell? ⟨rb, j, none⟩ = w.cell? ⟨rb, j, none⟩ := fun j hj => by rw [World.cell?_setCell_other]; intro q; injection q with _ q; omega
  exact ⟨by simpa [World.setCell] using h.lt, by rw [o 0 (by omega)]; exact h.c0, by rw [o 1 (by omega)]; exact h.c1, World.cell?_setCell_same _ _ _ h.c2, by rw [o 3 (by omega)]; exact h.c3, by rw [World.frozen?_setCell]; exact h.f1, by rw [World.frozen?_setCell]; exact h.f2, by rw [World.frozen?_setCell]; exact h.f3⟩
theorem RfSt.set3 {w : World} {rb : Nat} {A : Option Addr} {cap : Nat} {bs : List UInt8} {a l e : Int} (h : RfSt w rb A cap bs a l e) (x : Int) : RfSt (w.setCell ⟨rb, 3, none⟩ (.int .i64 x)) rb A cap bs a l x := by
  have o : ∀ j, j ≠ 3 → (w.setCell ⟨rb, 3, none⟩ (.int .i64 x)).cell? ⟨rb, j, none⟩ = w.cell? ⟨rb, j, none⟩ := fun j hj => by rw [World.cell?_setCell_other]; intro q; injection q with _ q; omega
  exact ⟨by simpa [World.setCell] using h.lt, by rw [o 0 (by omega)]; exact h.c0, by rw [o 1 (by omega)]; exact h.c1, by rw [o 2 (by omega)]; exact h.c2, World.cell?_setCell_same _ _ _ h.c3, by rw [World.frozen?_setCell]; exact h.f1, by rw [World.frozen?_setCell]; exact h.f2, by rw [World.frozen?_setCell]; exact h.f3⟩
theorem RfSt.drewN {w : World} {rb : Nat} {A : Option Addr} {cap : Nat} {bs : List UInt8} {a l e : Int} (h : RfSt w rb A cap bs a l e) (n : Nat) : RfSt (w.drewN n) rb A cap bs a l e := h.keep (below_drewN (Below.refl _ _) _)

/-- What num answers, and where the reader stands then. -/
def RfNum (w : World) (rb : Nat) (A : Option Addr) (cap : Nat) (bs : List UInt8) (at' n : Nat) (left : Int) (e : Ending) (w' : World) : Prop :=
  ∃ (v : Nat) (er : Nat), e = .returned (.int .i64 (v : Int)) ∧ Only rb w w' ∧ RfSt w' rb A cap bs ((at' + n : Nat) : Int) left (er : Int) ∧ ((bs.length < at' + n ∧ v = 0 ∧ er = 1) ∨ (at' + n ≤ bs.length ∧ v = unBe ((bs.drop at').take n) ∧ er = 0))

set_option maxRecDepth 100000 in
set_option maxHeartbeats 1000000 in
theorem rfnum_any (w : World) (rb : Nat) (A : Option Addr) (cap : Nat) (bs : List UInt8) (at' n B : Nat) (left : Int) (nz : Int) (hnz : nz = (n : Int)) (h : RfSt w rb A cap bs (at' : Int) left 0) (hy : ByAt w B A bs) (hB : B ≤ rb) (hn : n ≤ 4) (hn1 : 1 ≤ n) (hl : bs.length ≤ 100000) (ha : at' ≤ 100000) :
    Calls Try.prog 64 #[.pointer (some ⟨rb, 0, none⟩), .int .i64 nz] w fun e w' => RfNum w rb A cap bs at' n left e w' := by
  subst hnz
  have H := h
  obtain ⟨h0, c0, c1, c2, c3, g1, g2, g3⟩ := h
  by_cases hs : bs.length < at' + n
  · have hd : decide ((bs.length : Int) - (at' : Int) < (n : Int)) = true := by simp; omega
    go_enter Try.func64, Try.ntmps64
    go_wp2_with fail
    go_quiet (fail)
    go_wp2_with fail
    have HS1 : Hid (RfSt ((w.drewN nq).setCell ⟨rb, 3, none⟩ (.int .i64 1)) rb A cap bs (at' : Int) left 1) := (H.drewN nq).set3 1
    have HO1 : Hid (Only rb w ((w.drewN nq).setCell ⟨rb, 3, none⟩ (.int .i64 1))) := Only.setCell (p := ⟨rb, 3, none⟩) (Only.drewN (Only.refl _ _) _) (.inl rfl) _
    clear H c0 c1 c2 c3 g1 g2 g3
    go_loopw [5, 6] (fun vv iv wr => vv = .int .i64 0 ∧ iv = .int .i64 0 ∧ RfSt wr rb A cap bs (at' : Int) left 1 ∧ Only rb w wr) (fun _ _ _ => 0)
    case atStart => first | exact ⟨rfl, rfl, HS1.out, HO1.out⟩ | exact ⟨rfl, rfl, by simpa using HS1.out, by simpa using HO1.out⟩
    case round =>
      obtain ⟨rfl, rfl, hst, ho⟩ := hrel
      have HS2 : Hid (RfSt wr rb A cap bs (at' : Int) left 1) := hst
      have HO2 : Hid (Only rb w wr) := ho
      obtain ⟨k0, d0, d1, d2, d3, e1, e2, e3⟩ := hst
      have hlt : decide ((0 : Int) < (n : Int)) = true := by simp; omega
      clear ho HS1 HO1
      go_wp2_with fail
      go_ret
      exact ⟨0, 1, rfl, Only.setCell (p := ⟨rb, 1, none⟩) HO2.out (.inl rfl) _, by have := HS2.out.set1 ((at' : Int) + (n : Int)); simpa using this, .inl ⟨hs, rfl, rfl⟩⟩
  · have hd : decide ((bs.length : Int) - (at' : Int) < (n : Int)) = false := by simp; omega
    have hbb : ∃ b o, A = some ⟨b, o, none⟩ ∧ b < B ∧ ∀ i, i < bs.length → w.cell? ⟨b, o + i, none⟩ = some (.int .u8 ((bs.getD i 0).toNat : Int)) := by
      rcases hy with h | h
      · rw [h] at hs; simp at hs; omega
      · exact h
    obtain ⟨b, o, rfl, hb, hcc⟩ := hbb
    have HCC : Hid (∀ i, i < bs.length → w.cell? ⟨b, o + i, none⟩ = some (.int .u8 ((bs.getD i 0).toNat : Int))) := hcc
    clear hcc hy
    go_enter Try.func64, Try.ntmps64
    go_wp2_with fail
    go_quiet (fail)
    go_wp2_with fail
    have HS1 : Hid (RfSt (w.drewN nq) rb (some ⟨b, o, none⟩) cap bs (at' : Int) left 0) := H.drewN nq
    clear H c0 c1 c2 c3 g1 g2 g3
    go_loopw [5, 6] (fun vv iv wr => ∃ i : Nat, i ≤ n ∧ vv = .int .i64 ((unBe ((bs.drop at').take i) : Nat) : Int) ∧ iv = .int .i64 (i : Int) ∧ RfSt wr rb (some ⟨b, o, none⟩) cap bs (at' : Int) left 0 ∧ Only rb w wr) (fun _ iv _ => n - (intOf iv).toNat)
    case atStart => exact ⟨0, by omega, rfl, rfl, HS1.out, Only.drewN (Only.refl _ _) _⟩
    case round =>
      obtain ⟨i, hin, rfl, rfl, hst, ho⟩ := hrel
      have HS2 : Hid (RfSt wr rb (some ⟨b, o, none⟩) cap bs (at' : Int) left 0) := hst
      have HO2 : Hid (Only rb w wr) := ho
      have hci := fun hq : at' + i < bs.length => (ho.cell (q := ⟨b, o + (at' + i), none⟩) (by simp; omega) (by simp; omega)).trans (HCC.out (at' + i) hq)
      obtain ⟨k0, d0, d1, d2, d3, e1, e2, e3⟩ := hst
      have hdl : (bs.drop at').length = bs.length - at' := List.length_drop
      clear ho HS1
      by_cases hlt : (i : Int) < (n : Int)
      · have hci2 := hci (by omega)
        have hdr : (bs.drop at').getD i 0 = bs.getD (at' + i) 0 := by simp [List.getD]
        have hsn := unBe_take (bs.drop at') i (by omega)
        rw [hdr] at hsn
        have hun := unBe_small (bs.drop at') i (by omega)
        have hun' : unBe ((bs.drop at').take i) < 16777216 := Nat.lt_of_lt_of_le hun (Nat.le_trans (Nat.pow_le_pow_right (by decide) (show i ≤ 3 by omega)) (by decide))
        have hbd : (bs.getD (at' + i) 0).toNat < 256 := (bs.getD (at' + i) 0).toNat_lt
        have Hsn : Hid (unBe ((bs.drop at').take (i + 1)) = unBe ((bs.drop at').take i) * 256 + (bs.getD (at' + i) 0).toNat) := hsn
        clear hsn hun hci hdr hdl
        generalize bs.getD (at' + i) 0 = dg at *
        obtain ⟨un, hun0⟩ : ∃ un, un = unBe ((bs.drop at').take i) := ⟨_, rfl⟩
        rw [← hun0] at hun' ⊢
        have Hun : Hid (un = unBe ((bs.drop at').take i)) := hun0
        clear hun0
        have hix : (at' : Int) + (i : Int) < (bs.length : Int) := by omega
        have hix0 : (0 : Int) ≤ (at' : Int) + (i : Int) := by omega
        go_wp2_with fail
        go_quiet (fail)
        go_wp2_with fail
        go_roundw
        case rel =>
          refine ⟨i + 1, by omega, ?_, by go_num, HS2.out.drewN _, Only.drewN HO2.out _⟩
          rw [Hsn.out, ← Hun.out]; simp
        case measure => simp [intOf]; omega
      · obtain rfl : n = i := by omega
        have hun := unBe_small (bs.drop at') n (by omega)
        have hun' : unBe ((bs.drop at').take n) < 4294967296 := Nat.lt_of_lt_of_le hun (Nat.le_trans (Nat.pow_le_pow_right (by decide) hn) (by decide))
        clear hci hdl hun
        obtain ⟨un, hun0⟩ : ∃ un, un = unBe ((bs.drop at').take n) := ⟨_, rfl⟩
        rw [← hun0] at hun' ⊢
        have Hun : Hid (un = unBe ((bs.drop at').take n)) := hun0
        clear hun0
        have hlf : decide ((n : Int) < (n : Int)) = false := by simp
        go_wp2_with fail
        go_ret
        exact ⟨un, 0, rfl, Only.setCell (p := ⟨rb, 1, none⟩) HO2.out (.inl rfl) _, by have := HS2.out.set1 ((at' : Int) + (n : Int)); simpa using this, .inr ⟨by omega, Hun.out, rfl⟩⟩

end Go.Proofs.Ytooffmmfacdjeaa
