import Derived.Test.YtgmmbfnmojjbkaaGreatDoorCX
import Derived.Test.YtgmmbfnmojjbkaaGreatDoorA1
import Derived.Deep.RegionHeld3
import Derived.Test.YtgmmbfnmojjbkaaGreatDoorU
namespace Go.Proofs.YtgmmbfnmojjbkaaGreatDoor
open Go.RowKit
set_option linter.unusedVariables false
set_option linter.unusedSimpArgs false

/-- The reader of package ref2 in block rb. -/
structure RfSt (w : World) (rb : Nat) (A : Option Addr) (cap : Nat) (bs : List UInt8) (at' left er : Int) : Prop where
  lt : rb < w.heap.size
  c0 : w.cell? ⟨rb, 0, none⟩ = some (.slice A bs.length cap)
  c1 : w.cell? ⟨rb, 1, none⟩ = some (.int .i64 at')
  c2 : w.cell? ⟨rb, 2, none⟩ = some (.int .i64 left)
  c3 : w.cell? ⟨rb, 3, none⟩ = some (.int .i64 er)
  f1 : w.frozen? ⟨rb, 1, none⟩ = false
  f2 : w.frozen? ⟨rb, 2, none⟩ = false
  f3 : w.frozen? ⟨rb, 3, none⟩ = false

theorem RfSt.keep {w w' : World} {rb : Nat} {A : Option Addr} {cap : Nat} {bs : List UInt8} {a l e : Int} (h : RfSt w rb A cap bs a l e) (hk : Below w.heap.size w w') : RfSt w' rb A cap bs a l e :=
  ⟨Nat.lt_of_lt_of_le h.lt hk.size, by rw [hk.cell h.lt]; exact h.c0, by rw [hk.cell h.lt]; exact h.c1, by rw [hk.cell h.lt]; exact h.c2, by rw [hk.cell h.lt]; exact h.c3, by rw [hk.frozen h.lt]; exact h.f1, by rw [hk.frozen h.lt]; exact h.f2, by rw [hk.frozen h.lt]; exact h.f3⟩

theorem RfSt.set1 {w : World} {rb : Nat} {A : Option Addr} {cap : Nat} {bs : List UInt8} {a l e : Int} (h : RfSt w rb A cap bs a l e) (x : Int) : RfSt (w.setCell ⟨rb, 1, none⟩ (.int .i64 x)) rb A cap bs x l e := by
  have o : ∀ j, j ≠ 1 → (w.setCell ⟨rb, 1, none⟩ (.int .i64 x)).cell? ⟨rb, j, none⟩ = w.cell? ⟨rb, j, none⟩ := fun j hj => by rw [World.cell?_setCell_other]; intro q; injection q with _ q; omega
  exact ⟨by simpa [World.setCell] using h.lt, by rw [o 0 (by omega)]; exact h.c0, World.cell?_setCell_same _ _ _ h.c1, by rw [o 2 (by omega)]; exact h.c2, by rw [o 3 (by omega)]; exact h.c3, by rw [World.frozen?_setCell]; exact h.f1, by rw [World.frozen?_setCell]; exact h.f2, by rw [World.frozen?_setCell]; exact h.f3⟩
theorem RfSt.set2 {w : World} {rb : Nat} {A : Option Addr} {cap : Nat} {bs : List UInt8} {a l e : Int} (h : RfSt w rb A cap bs a l e) (x : Int) : RfSt (w.setCell ⟨rb, 2, none⟩ (.int .i64 x)) rb A cap bs a x e := by
  have o : ∀ j, j ≠ 2 → (w.setCell ⟨rb, 2, none⟩ (.int .i64 x)).cell? ⟨rb, j, none⟩ = w.cell? ⟨rb, j, none⟩ := fun j hj => by rw [World.cell?_setCell_other]; intro q; injection q with _ q; omega
  exact ⟨by simpa [World.setCell] using h.lt, by rw [o 0 (by omega)]; exact h.c0, by rw [o 1 (by omega)]; exact h.c1, World.cell?_setCell_same _ _ _ h.c2, by rw [o 3 (by omega)]; exact h.c3, by rw [World.frozen?_setCell]; exact h.f1, by rw [World.frozen?_setCell]; exact h.f2, by rw [World.frozen?_setCell]; exact h.f3⟩
theorem RfSt.set3 {w : World} {rb : Nat} {A : Option Addr} {cap : Nat} {bs : List UInt8} {a l e : Int} (h : RfSt w rb A cap bs a l e) (x : Int) : RfSt (w.setCell ⟨rb, 3, none⟩ (.int .i64 x)) rb A cap bs a l x := by
  have o : ∀ j, j ≠ 3 → (w.setCell ⟨rb, 3, none⟩ (.int .i64 x)).cell? ⟨rb, j, none⟩ = w.cell? ⟨rb, j, none⟩ := fun j hj => by rw [World.cell?_setCell_other]; intro q; injection q with _ q; omega
  exact ⟨by simpa [World.setCell] using h.lt, by rw [o 0 (by omega)]; exact h.c0, by rw [o 1 (by omega)]; exact h.c1, by rw [o 2 (by omega)]; exact h.c2, World.cell?_setCell_same _ _ _ h.c3, by rw [World.frozen?_setCell]; exact h.f1, by rw [World.frozen?_setCell]; exact h.f2, by rw [World.frozen?_setCell]; exact h.f3⟩
theorem RfSt.drewN {w : World} {rb : Nat} {A : Option Addr} {cap : Nat} {bs : List UInt8} {a l e : Int} (h : RfSt w rb A cap bs a l e) (n : Nat) : RfSt (w.drewN n) rb A cap bs a l e := h.keep (below_drewN (Below.refl _ _) _)

/-- What num answers, and where the reader stands then. -/
def RfNum (w : World) (rb : Nat) (A : Option Addr) (cap : Nat) (bs : List UInt8) (at' n : Nat) (left : Int) (e : Ending) (w' : World) : Prop :=
  ∃ (v : Nat) (er : Nat), e = .returned (.int .i64 (v : Int)) ∧ Only rb w w' ∧ RfSt w' rb A cap bs ((at' + n : Nat) : Int) left (er : Int) ∧ ((bs.length < at' + n ∧ v = 0 ∧ er = 1) ∨ (at' + n ≤ bs.length ∧ v = unBe ((bs.drop at').take n) ∧ er = 0))

set_option maxRecDepth 100000 in
set_option maxHeartbeats 1000000 in
theorem rfnum_any (w : World) (rb : Nat) (A : Option Addr) (cap : Nat) (bs : List UInt8) (at' n B : Nat) (left : Int) (nz : Int) (hnz : nz = (n : Int)) (h : RfSt w rb A cap bs (at' : Int) left 0) (hy : ByAt w B A bs) (hB : B ≤ rb) (hn : n ≤ 4) (hn1 : 1 ≤ n) (hl : bs.length ≤ 100000) (ha : at' ≤ 100000) :
    Calls Tryz.prog 97 #[.pointer (some ⟨rb, 0, none⟩), .int .i64 nz] w fun e w' => RfNum w rb A cap bs at' n left e w' := by
  subst hnz
  have H := h
  obtain ⟨h0, c0, c1, c2, c3, g1, g2, g3⟩ := h
  by_cases hs : bs.length < at' + n
  · have hd : decide ((bs.length : Int) - (at' : Int) < (n : Int)) = true := by simp; omega
    go_enter Tryz.func97, Tryz.ntmps97
    go_wp2_with fail
    go_quiet (fail)
    go_wp2_with fail
    have HS1 : Hid (RfSt ((w.drewN nq).setCell ⟨rb, 3, none⟩ (.int .i64 1)) rb A cap bs (at' : Int) left 1) := (H.drewN nq).set3 1
    have HO1 : Hid (Only rb w ((w.drewN nq).setCell ⟨rb, 3, none⟩ (.int .i64 1))) := Only.setCell (p := ⟨rb, 3, none⟩) (Only.drewN (Only.refl _ _) _) (.inl rfl) _
    clear H c0 c1 c2 c3 g1 g2 g3
    go_loopw [5, 6] (fun vv iv wr => vv = .int .i64 0 ∧ iv = .int .i64 0 ∧ RfSt wr rb A cap bs (at' : Int) left 1 ∧ Only rb w wr) (fun _ _ _ => 0)
    case atStart => first | exact ⟨rfl, rfl, HS1.out, HO1.out⟩ | exact ⟨rfl, rfl, by simpa using HS1.out, by simpa using HO1.out⟩
    case round =>
      obtain ⟨rfl, rfl, hst, ho⟩ := hrel
      have HS2 : Hid (RfSt wr rb A cap bs (at' : Int) left 1) := hst
      have HO2 : Hid (Only rb w wr) := ho
      obtain ⟨k0, d0, d1, d2, d3, e1, e2, e3⟩ := hst
      have hlt : decide ((0 : Int) < (n : Int)) = true := by simp; omega
      clear ho HS1 HO1
      go_wp2_with fail
      go_ret
      exact ⟨0, 1, rfl, Only.setCell (p := ⟨rb, 1, none⟩) HO2.out (.inl rfl) _, by have := HS2.out.set1 ((at' : Int) + (n : Int)); simpa using this, .inl ⟨hs, rfl, rfl⟩⟩
  · have hd : decide ((bs.length : Int) - (at' : Int) < (n : Int)) = false := by simp; omega
    have hbb : ∃ b o, A = some ⟨b, o, none⟩ ∧ b < B ∧ ∀ i, i < bs.length → w.cell? ⟨b, o + i, none⟩ = some (.int .u8 ((bs.getD i 0).toNat : Int)) := by
      rcases hy with h | h
      · rw [h] at hs; simp at hs; omega
      · exact h
    obtain ⟨b, o, rfl, hb, hcc⟩ := hbb
    have HCC : Hid (∀ i, i < bs.length → w.cell? ⟨b, o + i, none⟩ = some (.int .u8 ((bs.getD i 0).toNat : Int))) := hcc
    clear hcc hy
    go_enter Tryz.func97, Tryz.ntmps97
    go_wp2_with fail
    go_quiet (fail)
    go_wp2_with fail
    have HS1 : Hid (RfSt (w.drewN nq) rb (some ⟨b, o, none⟩) cap bs (at' : Int) left 0) := H.drewN nq
    clear H c0 c1 c2 c3 g1 g2 g3
    go_loopw [5, 6] (fun vv iv wr => ∃ i : Nat, i ≤ n ∧ vv = .int .i64 ((unBe ((bs.drop at').take i) : Nat) : Int) ∧ iv = .int .i64 (i : Int) ∧ RfSt wr rb (some ⟨b, o, none⟩) cap bs (at' : Int) left 0 ∧ Only rb w wr) (fun _ iv _ => n - (intOf iv).toNat)
    case atStart => exact ⟨0, by omega, rfl, rfl, HS1.out, Only.drewN (Only.refl _ _) _⟩
    case round =>
      obtain ⟨i, hin, rfl, rfl, hst, ho⟩ := hrel
      have HS2 : Hid (RfSt wr rb (some ⟨b, o, none⟩) cap bs (at' : Int) left 0) := hst
      have HO2 : Hid (Only rb w wr) := ho
      have hci := fun hq : at' + i < bs.length => (ho.cell (q := ⟨b, o + (at' + i), none⟩) (by simp; omega) (by simp; omega)).trans (HCC.out (at' + i) hq)
      obtain ⟨k0, d0, d1, d2, d3, e1, e2, e3⟩ := hst
      have hdl : (bs.drop at').length = bs.length - at' := List.length_drop
      clear ho HS1
      by_cases hlt : (i : Int) < (n : Int)
      · have hci2 := hci (by omega)
        have hdr : (bs.drop at').getD i 0 = bs.getD (at' + i) 0 := by simp [List.getD]
        have hsn := unBe_take (bs.drop at') i (by omega)
        rw [hdr] at hsn
        have hun := unBe_small (bs.drop at') i (by omega)
        have hun' : unBe ((bs.drop at').take i) < 16777216 := Nat.lt_of_lt_of_le hun (Nat.le_trans (Nat.pow_le_pow_right (by decide) (show i ≤ 3 by omega)) (by decide))
        have hbd : (bs.getD (at' + i) 0).toNat < 256 := (bs.getD (at' + i) 0).toNat_lt
        have Hsn : Hid (unBe ((bs.drop at').take (i + 1)) = unBe ((bs.drop at').take i) * 256 + (bs.getD (at' + i) 0).toNat) := hsn
        clear hsn hun hci hdr hdl
        generalize bs.getD (at' + i) 0 = dg at *
        obtain ⟨un, hun0⟩ : ∃ un, un = unBe ((bs.drop at').take i) := ⟨_, rfl⟩
        rw [← hun0] at hun' ⊢
        have Hun : Hid (un = unBe ((bs.drop at').take i)) := hun0
        clear hun0
        have hix : (at' : Int) + (i : Int) < (bs.length : Int) := by omega
        have hix0 : (0 : Int) ≤ (at' : Int) + (i : Int) := by omega
        go_wp2_with fail
        go_quiet (fail)
        go_wp2_with fail
        go_roundw
        case rel =>
          refine ⟨i + 1, by omega, ?_, by go_num, HS2.out.drewN _, Only.drewN HO2.out _⟩
          rw [Hsn.out, ← Hun.out]; simp
        case measure => simp [intOf]; omega
      · obtain rfl : n = i := by omega
        have hun := unBe_small (bs.drop at') n (by omega)
        have hun' : unBe ((bs.drop at').take n) < 4294967296 := Nat.lt_of_lt_of_le hun (Nat.le_trans (Nat.pow_le_pow_right (by decide) hn) (by decide))
        clear hci hdl hun
        obtain ⟨un, hun0⟩ : ∃ un, un = unBe ((bs.drop at').take n) := ⟨_, rfl⟩
        rw [← hun0] at hun' ⊢
        have Hun : Hid (un = unBe ((bs.drop at').take n)) := hun0
        clear hun0
        have hlf : decide ((n : Int) < (n : Int)) = false := by simp
        go_wp2_with fail
        go_ret
        exact ⟨un, 0, rfl, Only.setCell (p := ⟨rb, 1, none⟩) HO2.out (.inl rfl) _, by have := HS2.out.set1 ((at' : Int) + (n : Int)); simpa using this, .inr ⟨by omega, Hun.out, rfl⟩⟩

end Go.Proofs.YtgmmbfnmojjbkaaGreatDoor

namespace Go.Proofs.YtgmmbfnmojjbkaaGreatDoor
open Go.RowKit
set_option linter.unusedVariables false
set_option linter.unusedSimpArgs false

theorem size_setCellR (w : World) (p : Addr) (u : Value) : (w.setCell p u).heap.size = w.heap.size := by simp [World.setCell]

def RfEnd (w : World) (rb : Nat) (A : Option Addr) (cap : Nat) (bs : List UInt8) (r : Except Nat (Nd × Fo × Nat × List UInt8)) (e : Ending) (w' : World) : Prop :=
  (∀ er, r = .error er → ∃ (k n : Int) (s : ByteArray) (K : Option Addr) (len c : Nat) (at' left : Int), e = .returned (.agg #[.int .i64 k, .int .i64 n, .string s, .slice K len c]) ∧ Only rb w w' ∧ RfSt w' rb A cap bs at' left (er : Int)) ∧
  (∀ a l k ys, r = .ok (a, l, k, ys) → ∃ (v : Value) (at' : Nat), e = .returned v ∧ Only rb w w' ∧ RfSt w' rb A cap bs (at' : Int) (64 - (k : Int)) 0 ∧ at' ≤ bs.length ∧ bs.drop at' = ys ∧ RepVG w' (fun b => w.heap.size ≤ b ∧ b < w'.heap.size) a l v)

theorem rf_err {w w' : World} {rb : Nat} {A : Option Addr} {cap : Nat} {bs : List UInt8} {r : Except Nat (Nd × Fo × Nat × List UInt8)} {er : Nat} (hr : r = .error er) {k n : Int} {s : ByteArray} {K : Option Addr} {len c : Nat} {at' left : Int} (ho : Only rb w w') (h : RfSt w' rb A cap bs at' left (er : Int)) :
    RfEnd w rb A cap bs r (.returned (.agg #[.int .i64 k, .int .i64 n, .string s, .slice K len c])) w' :=
  ⟨fun er' h' => by rw [hr] at h'; injection h' with h'; subst h'; exact ⟨k, n, s, K, len, c, at', left, rfl, ho, h⟩, fun a l k ys h' => by rw [hr] at h'; injection h'⟩

theorem rf_ok {w w' : World} {rb : Nat} {A : Option Addr} {cap : Nat} {bs : List UInt8} {r : Except Nat (Nd × Fo × Nat × List UInt8)} {a : Nd} {l : Fo} {k : Nat} {ys : List UInt8} {v : Value} {at' : Nat} (hr : r = .ok (a, l, k, ys)) (ho : Only rb w w') (h : RfSt w' rb A cap bs (at' : Int) (64 - (k : Int)) 0) (h1 : at' ≤ bs.length) (h2 : bs.drop at' = ys)
    (h3 : RepVG w' (fun b => w.heap.size ≤ b ∧ b < w'.heap.size) a l v) : RfEnd w rb A cap bs r (.returned v) w' :=
  ⟨fun er h' => by rw [hr] at h'; injection h', fun a' l' k' ys' h' => by rw [hr] at h'; injection h' with h'; injection h' with e1 h'; injection h' with e2 h'; injection h' with e3 e4; subst e1 e2 e3 e4; exact ⟨v, at', rfl, ho, h, h1, h2, h3⟩⟩

def RNodeOk (f : Nat) : Prop := ∀ (w : World) (rb : Nat) (A : Option Addr) (cap : Nat) (bs : List UInt8) (at' k B : Nat) (dz : Int), dz = 17 - (f : Int) → RfSt w rb A cap bs (at' : Int) (64 - (k : Int)) 0 → ByAt w B A bs → B ≤ rb → k ≤ 64 → at' ≤ bs.length → bs.length ≤ 100000 → bs.length ≤ cap → cap ≤ maxLen →
    Calls Tryz.prog 84 #[.pointer (some ⟨rb, 0, none⟩), .int .i64 dz] w fun e w' => RfEnd w rb A cap bs (tk f k (bs.drop at')) e w'

set_option maxRecDepth 100000 in
set_option maxHeartbeats 2000000 in
theorem rnode_big (f : Nat) (w : World) (rb : Nat) (A : Option Addr) (cap : Nat) (bs : List UInt8) (at' k : Nat) (dz : Int) (hR : RfSt w rb A cap bs (at' : Int) (64 - (k : Int)) 0) (hd : 0 ≤ dz ∧ dz ≤ 17) (hk : k ≤ 64) (hbig : 64 ≤ k ∨ 17 ≤ dz) (xs : List UInt8) (ht : tk f k xs = .error 4) :
    Calls Tryz.prog 84 #[.pointer (some ⟨rb, 0, none⟩), .int .i64 dz] w fun e w' => RfEnd w rb A cap bs (tk f k xs) e w' := by
  have HR : Hid (RfSt w rb A cap bs (at' : Int) (64 - (k : Int)) 0) := hR
  obtain ⟨h0, c0, c1, c2, c3, g1, g2, g3⟩ := hR
  have HT : Hid (tk f k xs = .error 4) := ht
  clear ht
  obtain ⟨hd0, hd1⟩ := hd
  by_cases hk1 : 64 ≤ k
  · have hk2 : decide (64 - (k : Int) < 1) = true := by simp; omega
    go_enter Tryz.func84, Tryz.ntmps84
    go_wp2_with fail
    exact bodyPost_ret (v := .agg #[.int .i64 0, .int .i64 0, .string ⟨#[]⟩, .slice none 0 0]) (by simp [results, Tryz.results84, go_sem, size_setCellR]) rfl
      (rf_err (er := 4) HT.out (Only.alloc (Only.alloc (Only.setCell (p := ⟨rb, 3, none⟩) (Only.refl _ _) (.inl rfl) _) _) _) ((HR.out.set3 4).keep (Below.alloc (Below.alloc (Below.refl _ _) (Nat.le_refl _) _) (by simp) _)))
  · have hk2 : decide (64 - (k : Int) < 1) = false := by simp; omega
    have hk3 : decide (16 < dz) = true := by simp; omega
    go_enter Tryz.func84, Tryz.ntmps84
    go_wp2_with fail
    exact bodyPost_ret (v := .agg #[.int .i64 0, .int .i64 0, .string ⟨#[]⟩, .slice none 0 0]) (by simp [results, Tryz.results84, go_sem, size_setCellR]) rfl
      (rf_err (er := 4) HT.out (Only.alloc (Only.alloc (Only.setCell (p := ⟨rb, 3, none⟩) (Only.refl _ _) (.inl rfl) _) _) _) ((HR.out.set3 4).keep (Below.alloc (Below.alloc (Below.refl _ _) (Nat.le_refl _) _) (by simp) _)))

/-- Where node stands: the reader, its term t in the block behind the result's. -/
structure NdSt (w wr : World) (rb : Nat) (A : Option Addr) (cap : Nat) (bs : List UInt8) (at' left er kd nn : Int) (ss : ByteArray) (kv : Value) : Prop where
  only : Only rb w wr
  st : RfSt wr rb A cap bs at' left er
  t0 : wr.cell? ⟨w.heap.size + 1, 0, none⟩ = some (.int .i64 kd)
  t1 : wr.cell? ⟨w.heap.size + 1, 1, none⟩ = some (.int .i64 nn)
  t2 : wr.cell? ⟨w.heap.size + 1, 2, none⟩ = some (.string ss)
  t3 : wr.cell? ⟨w.heap.size + 1, 3, none⟩ = some kv
  tf : ∀ j, wr.frozen? ⟨w.heap.size + 1, j, none⟩ = false
  r0 : wr.cell? ⟨w.heap.size, 0, none⟩ = some (.int .i64 0)
  r1 : wr.cell? ⟨w.heap.size, 1, none⟩ = some (.int .i64 0)
  r2 : wr.cell? ⟨w.heap.size, 2, none⟩ = some (.string ⟨#[]⟩)
  r3 : wr.cell? ⟨w.heap.size, 3, none⟩ = some (.slice none 0 0)
  rf : ∀ j, wr.frozen? ⟨w.heap.size, j, none⟩ = false
  sz : w.heap.size + 1 < wr.heap.size

/-- Another world in which the two blocks and the reader are so. -/
theorem NdSt.move {w wr wn : World} {rb : Nat} {A : Option Addr} {cap : Nat} {bs : List UInt8} {at' left er at2 left2 er2 kd nn : Int} {ss : ByteArray} {kv : Value} (h : NdSt w wr rb A cap bs at' left er kd nn ss kv) (hrb : rb < w.heap.size) (ho : Only rb wr wn) (hs : RfSt wn rb A cap bs at2 left2 er2) : NdSt w wn rb A cap bs at2 left2 er2 kd nn ss kv := by
  have hz := h.sz
  have c1 : ∀ j, wn.cell? ⟨w.heap.size + 1, j, none⟩ = wr.cell? ⟨w.heap.size + 1, j, none⟩ := fun j => ho.cell hz (by simp; omega)
  have c2 : ∀ j, wn.cell? ⟨w.heap.size, j, none⟩ = wr.cell? ⟨w.heap.size, j, none⟩ := fun j => ho.cell (by simp; omega) (by simp; omega)
  exact ⟨h.only.trans ho, hs, by rw [c1]; exact h.t0, by rw [c1]; exact h.t1, by rw [c1]; exact h.t2, by rw [c1]; exact h.t3, fun j => by rw [ho.frozen hz (by simp; omega)]; exact h.tf j, by rw [c2]; exact h.r0, by rw [c2]; exact h.r1, by rw [c2]; exact h.r2, by rw [c2]; exact h.r3, fun j => by rw [ho.frozen (by simp; omega) (by simp; omega)]; exact h.rf j, Nat.lt_of_lt_of_le hz ho.size⟩

theorem NdSt.first (w : World) {rb : Nat} {A : Option Addr} {cap : Nat} {bs : List UInt8} {at' left : Int} (h : RfSt w rb A cap bs at' left 0) (x : Int) :
    NdSt w (((w.setCell ⟨rb, 2, none⟩ (.int .i64 x)).alloc (.cells #[.int .i64 0, .int .i64 0, .string ⟨#[]⟩, .slice none 0 0] 24)).alloc (.cells #[.int .i64 0, .int .i64 0, .string ⟨#[]⟩, .slice none 0 0] 24)) rb A cap bs at' x 0 0 0 ⟨#[]⟩ (.slice none 0 0) := by
  have hs : (w.setCell ⟨rb, 2, none⟩ (.int .i64 x)).heap.size = w.heap.size := size_setCellR _ _ _
  refine ⟨Only.alloc (Only.alloc (Only.setCell (p := ⟨rb, 2, none⟩) (Only.refl _ _) (.inl rfl) _) _) _, (h.set2 x).keep (Below.alloc (Below.alloc (Below.refl _ _) (Nat.le_refl _) _) (by simp) _), ?_, ?_, ?_, ?_, fun j => ?_, ?_, ?_, ?_, ?_, fun j => ?_, by simp [hs]⟩
  all_goals simp [go_sem, hs]

end Go.Proofs.YtgmmbfnmojjbkaaGreatDoor

namespace Go.Proofs.YtgmmbfnmojjbkaaGreatDoor
open Go.RowKit
set_option linter.unusedVariables false
set_option linter.unusedSimpArgs false

theorem NdSt.setT {w wr : World} {rb : Nat} {A : Option Addr} {cap : Nat} {bs : List UInt8} {at' left er kd nn : Int} {ss : ByteArray} {kv : Value} (h : NdSt w wr rb A cap bs at' left er kd nn ss kv) (hrb : rb < w.heap.size) (j : Nat) (u : Value) :
    Only rb w (wr.setCell ⟨w.heap.size + 1, j, none⟩ u) ∧ RfSt (wr.setCell ⟨w.heap.size + 1, j, none⟩ u) rb A cap bs at' left er ∧ (∀ i, i ≠ j → (wr.setCell ⟨w.heap.size + 1, j, none⟩ u).cell? ⟨w.heap.size + 1, i, none⟩ = wr.cell? ⟨w.heap.size + 1, i, none⟩) ∧
      (∀ i, (wr.setCell ⟨w.heap.size + 1, j, none⟩ u).cell? ⟨w.heap.size, i, none⟩ = wr.cell? ⟨w.heap.size, i, none⟩) ∧ (∀ a, (wr.setCell ⟨w.heap.size + 1, j, none⟩ u).frozen? a = wr.frozen? a) ∧ w.heap.size + 1 < (wr.setCell ⟨w.heap.size + 1, j, none⟩ u).heap.size := by
  have hb : ∀ q, q ≠ w.heap.size + 1 → (wr.setCell ⟨w.heap.size + 1, j, none⟩ u).heap[q]? = wr.heap[q]? := fun q hq => Below.heap_setCell _ _ _ _ (by simpa using hq)
  have hz := h.sz
  refine ⟨Only.setCell (p := ⟨w.heap.size + 1, j, none⟩) h.only (.inr (by simp)) _, ?_, ?_, ?_, fun a => World.frozen?_setCell _ _ _ _, by rw [size_setCellR]; exact hz⟩
  · have s := h.st
    have e := hb rb (by omega)
    exact ⟨by rw [size_setCellR]; exact s.lt, by rw [World.cell?_of_block e]; exact s.c0, by rw [World.cell?_of_block e]; exact s.c1, by rw [World.cell?_of_block e]; exact s.c2, by rw [World.cell?_of_block e]; exact s.c3, by rw [World.frozen?_of_block e]; exact s.f1, by rw [World.frozen?_of_block e]; exact s.f2, by rw [World.frozen?_of_block e]; exact s.f3⟩
  · intro i hi; rw [World.cell?_setCell_other]; intro q; injection q with _ q; omega
  · intro i; rw [World.cell?_setCell_other]; intro q; injection q with q; omega

theorem NdSt.kind {w wr : World} {rb : Nat} {A : Option Addr} {cap : Nat} {bs : List UInt8} {at' left er kd nn : Int} {ss : ByteArray} {kv : Value} (h : NdSt w wr rb A cap bs at' left er kd nn ss kv) (hrb : rb < w.heap.size) (x : Int) : NdSt w (wr.setCell ⟨w.heap.size + 1, 0, none⟩ (.int .i64 x)) rb A cap bs at' left er x nn ss kv := by
  obtain ⟨a, b, c, d, e, f⟩ := h.setT hrb 0 (.int .i64 x)
  exact ⟨a, b, World.cell?_setCell_same _ _ _ h.t0, by rw [c 1 (by omega)]; exact h.t1, by rw [c 2 (by omega)]; exact h.t2, by rw [c 3 (by omega)]; exact h.t3, fun j => by rw [e]; exact h.tf j, by rw [d]; exact h.r0, by rw [d]; exact h.r1, by rw [d]; exact h.r2, by rw [d]; exact h.r3, fun j => by rw [e]; exact h.rf j, f⟩
theorem NdSt.numb {w wr : World} {rb : Nat} {A : Option Addr} {cap : Nat} {bs : List UInt8} {at' left er kd nn : Int} {ss : ByteArray} {kv : Value} (h : NdSt w wr rb A cap bs at' left er kd nn ss kv) (hrb : rb < w.heap.size) (x : Int) : NdSt w (wr.setCell ⟨w.heap.size + 1, 1, none⟩ (.int .i64 x)) rb A cap bs at' left er kd x ss kv := by
  obtain ⟨a, b, c, d, e, f⟩ := h.setT hrb 1 (.int .i64 x)
  exact ⟨a, b, by rw [c 0 (by omega)]; exact h.t0, World.cell?_setCell_same _ _ _ h.t1, by rw [c 2 (by omega)]; exact h.t2, by rw [c 3 (by omega)]; exact h.t3, fun j => by rw [e]; exact h.tf j, by rw [d]; exact h.r0, by rw [d]; exact h.r1, by rw [d]; exact h.r2, by rw [d]; exact h.r3, fun j => by rw [e]; exact h.rf j, f⟩
theorem NdSt.text {w wr : World} {rb : Nat} {A : Option Addr} {cap : Nat} {bs : List UInt8} {at' left er kd nn : Int} {ss : ByteArray} {kv : Value} (h : NdSt w wr rb A cap bs at' left er kd nn ss kv) (hrb : rb < w.heap.size) (x : ByteArray) : NdSt w (wr.setCell ⟨w.heap.size + 1, 2, none⟩ (.string x)) rb A cap bs at' left er kd nn x kv := by
  obtain ⟨a, b, c, d, e, f⟩ := h.setT hrb 2 (.string x)
  exact ⟨a, b, by rw [c 0 (by omega)]; exact h.t0, by rw [c 1 (by omega)]; exact h.t1, World.cell?_setCell_same _ _ _ h.t2, by rw [c 3 (by omega)]; exact h.t3, fun j => by rw [e]; exact h.tf j, by rw [d]; exact h.r0, by rw [d]; exact h.r1, by rw [d]; exact h.r2, by rw [d]; exact h.r3, fun j => by rw [e]; exact h.rf j, f⟩
theorem NdSt.err {w wr : World} {rb : Nat} {A : Option Addr} {cap : Nat} {bs : List UInt8} {at' left er kd nn : Int} {ss : ByteArray} {kv : Value} (h : NdSt w wr rb A cap bs at' left er kd nn ss kv) (hrb : rb < w.heap.size) (x : Int) : NdSt w (wr.setCell ⟨rb, 3, none⟩ (.int .i64 x)) rb A cap bs at' left x kd nn ss kv :=
  h.move hrb (Only.setCell (p := ⟨rb, 3, none⟩) (Only.refl _ _) (.inl rfl) _) (h.st.set3 x)
theorem NdSt.pos {w wr : World} {rb : Nat} {A : Option Addr} {cap : Nat} {bs : List UInt8} {at' left er kd nn : Int} {ss : ByteArray} {kv : Value} (h : NdSt w wr rb A cap bs at' left er kd nn ss kv) (hrb : rb < w.heap.size) (x : Int) : NdSt w (wr.setCell ⟨rb, 1, none⟩ (.int .i64 x)) rb A cap bs x left er kd nn ss kv :=
  h.move hrb (Only.setCell (p := ⟨rb, 1, none⟩) (Only.refl _ _) (.inl rfl) _) (h.st.set1 x)
theorem NdSt.drewN {w wr : World} {rb : Nat} {A : Option Addr} {cap : Nat} {bs : List UInt8} {at' left er kd nn : Int} {ss : ByteArray} {kv : Value} (h : NdSt w wr rb A cap bs at' left er kd nn ss kv) (hrb : rb < w.heap.size) (n : Nat) : NdSt w (wr.drewN n) rb A cap bs at' left er kd nn ss kv :=
  h.move hrb (Only.drewN (Only.refl _ _) _) (h.st.drewN n)

/-- The result is t, as it stands. -/
theorem NdSt.done {w wr : World} {rb : Nat} {A : Option Addr} {cap : Nat} {bs : List UInt8} {at' left er kd nn : Int} {ss : ByteArray} {kv : Value} (h : NdSt w wr rb A cap bs at' left er kd nn ss kv) (hrb : rb < w.heap.size) (u0 u1 u2 u3 : Value) :
    Only rb w ((((wr.setCell ⟨w.heap.size, 0, none⟩ u0).setCell ⟨w.heap.size, 1, none⟩ u1).setCell ⟨w.heap.size, 2, none⟩ u2).setCell ⟨w.heap.size, 3, none⟩ u3) ∧ RfSt ((((wr.setCell ⟨w.heap.size, 0, none⟩ u0).setCell ⟨w.heap.size, 1, none⟩ u1).setCell ⟨w.heap.size, 2, none⟩ u2).setCell ⟨w.heap.size, 3, none⟩ u3) rb A cap bs at' left er := by
  refine ⟨Only.set4 h.only (Nat.le_refl _) _ _ _ _, ?_⟩
  have s := h.st
  have hq : rb ≠ w.heap.size := by omega
  exact ⟨by rw [size_set4']; exact s.lt, by rw [cell_set4 _ _ _ _ _ _ _ _ hq]; exact s.c0, by rw [cell_set4 _ _ _ _ _ _ _ _ hq]; exact s.c1, by rw [cell_set4 _ _ _ _ _ _ _ _ hq]; exact s.c2, by rw [cell_set4 _ _ _ _ _ _ _ _ hq]; exact s.c3, by rw [frozen_set4' _ _ _ _ _ _ _ hq]; exact s.f1, by rw [frozen_set4' _ _ _ _ _ _ _ hq]; exact s.f2, by rw [frozen_set4' _ _ _ _ _ _ _ hq]; exact s.f3⟩

theorem slice_mid (w : World) (A : Option Addr) (len cap pp n : Nat) (h : pp + n ≤ cap) : (Instr.slice 43 (.slice A len cap) (some (.int .i64 (pp : Int))) (some (.int .i64 ((pp : Int) + (n : Int)))) none).run Tryz.prog w = .ok (.slice (if cap = pp then A else A.map (·.add pp)) n (cap - pp)) w := by
  have ht : Tryz.prog.underlying 43 = some (.slice (Tryz.prog.elem 43)) := by kernel_rfl
  have hs1 : (sizeOf (Tryz.prog.elem 43)).run Tryz.prog w = .ok 1 w := by kernel_rfl
  rw [run_slice_lh w 43 A len cap ht .i64 .i64 _ _ (by omega) (by omega) (by omega), hs1]
  have e1 : ((pp : Int) + (n : Int)).toNat = pp + n := by omega
  simp only [Result.andThen, sliced, Int.toNat_natCast, e1, Nat.mul_one]
  rw [show pp + n - pp = n from by omega]

set_option maxRecDepth 100000 in
set_option maxHeartbeats 4000000 in
theorem rnode_leaf (f : Nat) (hf : f ≤ 15) (w : World) (rb : Nat) (A : Option Addr) (cap : Nat) (bs : List UInt8) (at' k B : Nat) (dz : Int) (hdz : dz = 17 - ((f + 1 : Nat) : Int)) (hR : RfSt w rb A cap bs (at' : Int) (64 - (k : Int)) 0) (hy : ByAt w B A bs) (hB : B ≤ rb) (hk : k ≤ 64) (ha : at' ≤ bs.length) (hl : bs.length ≤ 100000) (hlc : bs.length ≤ cap) (hcm : cap ≤ maxLen)
    (hleaf : ∀ x zs, bs.drop at' = x :: zs → x.toNat < 3 ∨ 7 < x.toNat) :
    Calls Tryz.prog 84 #[.pointer (some ⟨rb, 0, none⟩), .int .i64 dz] w fun e w' => RfEnd w rb A cap bs (tk (f + 1) k (bs.drop at')) e w' := by
  by_cases hk1 : 64 ≤ k
  · exact rnode_big (f + 1) w rb A cap bs at' k dz hR (by omega) hk (.inl hk1) _ (by cases bs.drop at' <;> rw [tk, if_pos (by omega)])
  have HDZ : Hid (dz = 16 - (f : Int)) := by show dz = _; omega
  have hd0 : 0 ≤ dz := by omega
  have hd1 : dz ≤ 16 := by omega
  clear hdz
  have h0 := hR.lt
  have HN1 : Hid (NdSt w (((w.setCell ⟨rb, 2, none⟩ (.int .i64 (64 - (k : Int) - 1))).alloc (.cells #[.int .i64 0, .int .i64 0, .string ⟨#[]⟩, .slice none 0 0] 24)).alloc (.cells #[.int .i64 0, .int .i64 0, .string ⟨#[]⟩, .slice none 0 0] 24)) rb A cap bs (at' : Int) (64 - (k : Int) - 1) 0 0 0 ⟨#[]⟩ (.slice none 0 0)) := NdSt.first w hR _
  have HY : Hid (∀ w', Only rb w w' → ByAt w' B A bs) := fun w' ho => hy.keep (Nat.le_refl _) (fun b o hb => ho.cell (by simp; omega) (by simp; omega))
  obtain ⟨_, c0, c1, c2, c3, g1, g2, g3⟩ := hR
  have hk2 : decide (64 - (k : Int) < 1) = false := by simp; omega
  have hk3 : decide (16 < dz) = false := by simp; omega
  go_enter Tryz.func84, Tryz.ntmps84
  go_wp2_with fail
  refine (rfnum_any _ rb A cap bs at' 1 B (64 - (k : Int) - 1) 1 rfl HN1.out.st (HY.out _ HN1.out.only) hB (by omega) (by omega) hl (by omega)).mono ?_
  rintro e w2 ⟨v, er, rfl, ho2, hst2, hcase⟩
  have hN2 := HN1.out.move h0 ho2 hst2
  have HN2 : Hid (NdSt w w2 rb A cap bs ((at' + 1 : Nat) : Int) (64 - (k : Int) - 1) (er : Int) 0 0 ⟨#[]⟩ (.slice none 0 0)) := hN2
  clear HN1 hst2 ho2 c0 c1 c2 c3 g1 g2 g3 hy
  rcases hcase with ⟨hs, rfl, rfl⟩ | ⟨hs, hv, rfl⟩
  · have HT : Hid (tk (f + 1) k (bs.drop at') = .error 1) := by
      show tk (f + 1) k (bs.drop at') = _
      rw [List.drop_of_length_le (by omega), tk, if_neg (by omega)]
    have HN3 : Hid (NdSt w (w2.setCell ⟨w.heap.size + 1, 0, none⟩ (.int .i64 0)) rb A cap bs ((at' + 1 : Nat) : Int) (64 - (k : Int) - 1) 1 0 0 ⟨#[]⟩ (.slice none 0 0)) := HN2.out.kind h0 0
    obtain ⟨_, ⟨_, c0, c1, c2, c3, g1, g2, g3⟩, t0, t1, t2, t3, tf, _, _, _, _, _, sz⟩ := hN2
    have tf0 := tf 0
    clear tf
    go_wp2_with fail
    clear c0 c1 c2 c3 g1 g2 g3 t0 t1 t2 t3 tf0 HN2
    go_loopw [8] (fun iv wr => iv = .int .i64 0 ∧ NdSt w wr rb A cap bs ((at' + 1 : Nat) : Int) (64 - (k : Int) - 1) 1 0 0 ⟨#[]⟩ (.slice none 0 0)) (fun _ _ => 0)
    case atStart => exact ⟨rfl, HN3.out⟩
    case round =>
      obtain ⟨rfl, hN⟩ := hrel
      have HN9 : Hid (NdSt w wr rb A cap bs ((at' + 1 : Nat) : Int) (64 - (k : Int) - 1) 1 0 0 ⟨#[]⟩ (.slice none 0 0)) := hN
      obtain ⟨_, ⟨_, d0, d1, d2, d3, _, _, _⟩, u0, u1, u2, u3, _, r0, r1, r2, r3, rf, sz⟩ := hN
      have rf0 := rf 0
      have rf1 := rf 1
      have rf2 := rf 2
      have rf3 := rf 3
      have szr : w.heap.size < wr.heap.size := by omega
      clear rf HN3
      go_wp2_with fail
      refine bodyPost_ret (v := .agg #[.int .i64 0, .int .i64 0, .string ⟨#[]⟩, .slice none 0 0]) (by simp [results, Tryz.results84, go_sem, r0, r1, r2, r3]) rfl ?_
      have hfin := HN9.out.done h0
      exact rf_err (er := 1) HT.out (hfin _ _ _ _).1 (hfin _ _ _ _).2
  · obtain ⟨x, zs, hxz⟩ : ∃ x zs, bs.drop at' = x :: zs := by
      cases hq : bs.drop at' with
      | nil => have := congrArg List.length hq; simp at this; omega
      | cons x zs => exact ⟨x, zs, rfl⟩
    have hlf := hleaf x zs hxz
    have hzs : bs.drop (at' + 1) = zs := by rw [← List.drop_drop, hxz]; rfl
    have hzl : zs.length = bs.length - (at' + 1) := by rw [← hzs, List.length_drop]
    have hv2 : v = x.toNat := by rw [hv, hxz]; simp [unBe]
    have HK0 : Hid (tk (f + 1) k (bs.drop at') = tkH (tk f) x.toNat (k + 1) zs) := by show _ = _; rw [hxz, tk, if_neg (by omega)]
    have Hzs : Hid (bs.drop (at' + 1) = zs) := hzs
    have Hzl : Hid (zs.length = bs.length - (at' + 1)) := hzl
    have hx : x.toNat < 256 := x.toNat_lt
    subst hv2
    clear hv hleaf hzs hzl hxz
    generalize x.toNat = h at *
    have HN3 : Hid (NdSt w (w2.setCell ⟨w.heap.size + 1, 0, none⟩ (.int .i64 (h : Int))) rb A cap bs ((at' + 1 : Nat) : Int) (64 - (k : Int) - 1) 0 (h : Int) 0 ⟨#[]⟩ (.slice none 0 0)) := HN2.out.kind h0 _
    obtain ⟨_, ⟨_, c0, c1, c2, c3, g1, g2, g3⟩, t0, t1, t2, t3, tf, _, _, _, _, _, sz⟩ := hN2
    have tf0 := tf 0
    clear tf HN2
    by_cases q1 : h = 1
    · subst q1
      go_wp2_with fail
      refine (rfnum_any _ rb A cap bs (at' + 1) 2 B (64 - (k : Int) - 1) 2 rfl HN3.out.st (HY.out _ HN3.out.only) hB (by omega) (by omega) hl (by omega)).mono ?_
      rintro e w4 ⟨n, er, rfl, ho4, hst4, hcase⟩
      have hN4 := HN3.out.move h0 ho4 hst4
      clear c0 c1 c2 c3 g1 g2 g3 t0 t1 t2 t3 tf0 HN3 ho4 hst4
      rcases hcase with ⟨hs4, rfl, rfl⟩ | ⟨hs4, hn4, rfl⟩
      · have HT : Hid (tk (f + 1) k (bs.drop at') = .error 1) := by
          show _ = _; rw [HK0.out, tkH, if_pos rfl, tkA, tkN, if_pos (by have := Hzl.out; omega)]
        have HN5 : Hid (NdSt w w4 rb A cap bs ((at' + 1 + 2 : Nat) : Int) (64 - (k : Int) - 1) 1 1 0 ⟨#[]⟩ (.slice none 0 0)) := hN4
        obtain ⟨_, ⟨_, c0, c1, c2, c3, g1, g2, g3⟩, t0, t1, t2, t3, tf, _, _, _, _, _, sz4⟩ := hN4
        clear tf
        go_wp2_with fail
        go_quiet (fail)
        go_wp2_with fail
        have HN6 : Hid (NdSt w (w4.drewN nq) rb A cap bs ((at' + 1 + 2 : Nat) : Int) (64 - (k : Int) - 1) 1 1 0 ⟨#[]⟩ (.slice none 0 0)) := HN5.out.drewN h0 nq
        clear c0 c1 c2 c3 g1 g2 g3 t0 t1 t2 t3 HN5
        go_loopw [8] (fun iv wr => iv = .int .i64 0 ∧ NdSt w wr rb A cap bs ((at' + 1 + 2 : Nat) : Int) (64 - (k : Int) - 1) 1 1 0 ⟨#[]⟩ (.slice none 0 0)) (fun _ _ => 0)
        case atStart => exact ⟨rfl, HN6.out⟩
        case round =>
          obtain ⟨rfl, hN⟩ := hrel
          have HN9 : Hid (NdSt w wr rb A cap bs ((at' + 1 + 2 : Nat) : Int) (64 - (k : Int) - 1) 1 1 0 ⟨#[]⟩ (.slice none 0 0)) := hN
          obtain ⟨_, ⟨_, d0, d1, d2, d3, _, _, _⟩, u0, u1, u2, u3, _, r0, r1, r2, r3, rf, sz⟩ := hN
          have rf0 := rf 0
          have rf1 := rf 1
          have rf2 := rf 2
          have rf3 := rf 3
          have szr : w.heap.size < wr.heap.size := by omega
          clear rf HN6
          go_wp2_with fail
          refine bodyPost_ret (v := .agg #[.int .i64 1, .int .i64 0, .string ⟨#[]⟩, .slice none 0 0]) (by simp [results, Tryz.results84, go_sem, r0, r1, r2, r3]) rfl ?_
          have hfin := HN9.out.done h0
          exact rf_err (er := 1) HT.out (hfin _ _ _ _).1 (hfin _ _ _ _).2
      · have hnz : n = unBe (zs.take 2) := by rw [hn4, Hzs.out]
        have hnb : n < 65536 := by rw [hnz]; exact unBe_small zs 2 (by have := Hzl.out; omega)
        obtain ⟨pp, hpp⟩ : ∃ pp : Nat, pp = at' + 1 + 2 := ⟨_, rfl⟩
        have hpl : pp ≤ bs.length := by omega
        have HT0 : Hid (tk (f + 1) k (bs.drop at') = if 1024 < n then .error 3 else if bs.length - pp < n then .error 1 else .ok (⟨1, 0, ⟨((bs.drop pp).take n).toArray⟩⟩, .nil, k + 1, bs.drop (pp + n))) := by
          show _ = _
          have hd2 : zs.drop 2 = bs.drop pp := by rw [← Hzs.out, List.drop_drop, hpp]
          rw [HK0.out, tkH, if_pos rfl, tkA, tkN, if_neg (by have := Hzl.out; omega), ← hnz, hd2]
          by_cases hq : 1024 < n
          · simp [hq]
          · by_cases hq2 : bs.length - pp < n <;> simp [hq, hq2, List.length_drop, List.drop_drop]
        rw [← hpp] at hN4
        have HN5 : Hid (NdSt w w4 rb A cap bs (pp : Int) (64 - (k : Int) - 1) 0 1 0 ⟨#[]⟩ (.slice none 0 0)) := hN4
        obtain ⟨_, ⟨_, c0, c1, c2, c3, g1, g2, g3⟩, t0, t1, t2, t3, tf, _, _, _, _, _, sz4⟩ := hN4
        have tf2 := tf 2
        clear tf hn4 hnz hpp
        by_cases hq : 1024 < n
        · have HT : Hid (tk (f + 1) k (bs.drop at') = .error 3) := by show _ = _; rw [HT0.out, if_pos hq]
          go_wp2_with fail
          go_quiet (fail)
          go_wp2_with fail
          have HN6 : Hid (NdSt w ((w4.setCell ⟨rb, 3, none⟩ (.int .i64 3)).drewN nq) rb A cap bs (pp : Int) (64 - (k : Int) - 1) 3 1 0 ⟨#[]⟩ (.slice none 0 0)) := (HN5.out.err h0 3).drewN h0 nq
          clear c0 c1 c2 c3 g1 g2 g3 t0 t1 t2 t3 HN5 tf2
          go_loopw [8] (fun iv wr => iv = .int .i64 0 ∧ NdSt w wr rb A cap bs (pp : Int) (64 - (k : Int) - 1) 3 1 0 ⟨#[]⟩ (.slice none 0 0)) (fun _ _ => 0)
          case atStart => exact ⟨rfl, HN6.out⟩
          case round =>
            obtain ⟨rfl, hN⟩ := hrel
            have HN9 : Hid (NdSt w wr rb A cap bs (pp : Int) (64 - (k : Int) - 1) 3 1 0 ⟨#[]⟩ (.slice none 0 0)) := hN
            obtain ⟨_, ⟨_, d0, d1, d2, d3, _, _, _⟩, u0, u1, u2, u3, _, r0, r1, r2, r3, rf, sz⟩ := hN
            have rf0 := rf 0
            have rf1 := rf 1
            have rf2 := rf 2
            have rf3 := rf 3
            have szr : w.heap.size < wr.heap.size := by omega
            clear rf HN6
            go_wp2_with fail
            refine bodyPost_ret (v := .agg #[.int .i64 1, .int .i64 0, .string ⟨#[]⟩, .slice none 0 0]) (by simp [results, Tryz.results84, go_sem, r0, r1, r2, r3]) rfl ?_
            have hfin := HN9.out.done h0
            exact rf_err (er := 3) HT.out (hfin _ _ _ _).1 (hfin _ _ _ _).2
        · by_cases hq2 : bs.length - pp < n
          · have HT : Hid (tk (f + 1) k (bs.drop at') = .error 1) := by show _ = _; rw [HT0.out, if_neg hq, if_pos hq2]
            have hdn : decide ((bs.length : Int) - (pp : Int) < (n : Int)) = true := by simp; omega
            go_wp2_with fail
            go_quiet (fail)
            go_wp2_with fail
            have HN6 : Hid (NdSt w ((w4.drewN nq).setCell ⟨rb, 3, none⟩ (.int .i64 1)) rb A cap bs (pp : Int) (64 - (k : Int) - 1) 1 1 0 ⟨#[]⟩ (.slice none 0 0)) := (HN5.out.drewN h0 nq).err h0 1
            clear c0 c1 c2 c3 g1 g2 g3 t0 t1 t2 t3 HN5 tf2
            go_loopw [8] (fun iv wr => iv = .int .i64 0 ∧ NdSt w wr rb A cap bs (pp : Int) (64 - (k : Int) - 1) 1 1 0 ⟨#[]⟩ (.slice none 0 0)) (fun _ _ => 0)
            case atStart => exact ⟨rfl, HN6.out⟩
            case round =>
              obtain ⟨rfl, hN⟩ := hrel
              have HN9 : Hid (NdSt w wr rb A cap bs (pp : Int) (64 - (k : Int) - 1) 1 1 0 ⟨#[]⟩ (.slice none 0 0)) := hN
              obtain ⟨_, ⟨_, d0, d1, d2, d3, _, _, _⟩, u0, u1, u2, u3, _, r0, r1, r2, r3, rf, sz⟩ := hN
              have rf0 := rf 0
              have rf1 := rf 1
              have rf2 := rf 2
              have rf3 := rf 3
              have szr : w.heap.size < wr.heap.size := by omega
              clear rf HN6
              go_wp2_with fail
              refine bodyPost_ret (v := .agg #[.int .i64 1, .int .i64 0, .string ⟨#[]⟩, .slice none 0 0]) (by simp [results, Tryz.results84, go_sem, r0, r1, r2, r3]) rfl ?_
              have hfin := HN9.out.done h0
              exact rf_err (er := 1) HT.out (hfin _ _ _ _).1 (hfin _ _ _ _).2
          · have HT : Hid (tk (f + 1) k (bs.drop at') = .ok (⟨1, 0, ⟨((bs.drop pp).take n).toArray⟩⟩, .nil, k + 1, bs.drop (pp + n))) := by show _ = _; rw [HT0.out, if_neg hq, if_neg hq2]
            have hdn : decide ((bs.length : Int) - (pp : Int) < (n : Int)) = false := by simp; omega
            obtain ⟨st, hst, hss⟩ : ∃ st : ByteArray, st = ⟨((bs.drop pp).take n).toArray⟩ ∧ st.size = n := ⟨_, rfl, by show ((bs.drop pp).take n).toArray.size = n; rw [List.size_toArray, List.length_take, List.length_drop]; omega⟩
            have HST : Hid (st = ⟨((bs.drop pp).take n).toArray⟩) := hst
            have hbyA : ByAt w4 B A bs := HY.out _ HN5.out.only
            have hcv : ∀ w' : World, w'.heap = w4.heap → (convert 43 9 (.slice (if cap = pp then A else A.map (·.add pp)) (pp + n - pp) (cap - pp))).run Tryz.prog w' = .ok (.string st) w' := fun w' hw => by
              rw [show pp + n - pp = n from by omega]
              have hd := ((hbyA.drop pp cap hpl hlc).take n).keep (w' := w') (Nat.le_refl _) (fun b o _ => World.cell?_of_block (by rw [hw]))
              have h9 := conv_bytes w' B _ ((bs.drop pp).take n) (cap - pp) hd
              rw [List.length_take, List.length_drop, Nat.min_eq_left (by omega), ← hst] at h9
              exact h9
            clear hst hbyA
            have hpn0 : (0 : Int) ≤ (pp : Int) := by omega
            have hpn1 : (pp : Int) ≤ (pp : Int) + (n : Int) := by omega
            have hpn2 : (pp : Int) + (n : Int) ≤ (cap : Int) := by omega
            go_wp2_with fail
            go_quiet (fail)
            have hcv1 := hcv (w4.drewN (nq + 1)) rfl
            rw [show pp + n - pp = n from by omega] at hcv1
            have HN6 : Hid (NdSt w (w4.drewN nq) rb A cap bs (pp : Int) (64 - (k : Int) - 1) 0 1 0 ⟨#[]⟩ (.slice none 0 0)) := HN5.out.drewN h0 nq
            have HN7 : Hid (NdSt w (((w4.drewN (nq + 1)).setCell ⟨w.heap.size + 1, 2, none⟩ (.string st)).setCell ⟨rb, 1, none⟩ (.int .i64 ((pp : Int) + (n : Int)))) rb A cap bs ((pp : Int) + (n : Int)) (64 - (k : Int) - 1) 0 1 0 st (.slice none 0 0)) := ((HN5.out.drewN h0 (nq + 1)).text h0 st).pos h0 _
            clear hcv HN5
            by_cases hcap : cap = pp
            · rw [if_pos hcap, hcap, Nat.sub_self] at hcv1
              go_wp2_with fail
              go_region
              go_wp2_with fail
              clear c0 c1 c2 c3 g1 g2 g3 t0 t1 t2 t3 HN6 tf2 hcv1
              go_loopw [8] (fun iv wr => iv = .int .i64 0 ∧ NdSt w wr rb A cap bs ((pp : Int) + (n : Int)) (64 - (k : Int) - 1) 0 1 0 st (.slice none 0 0)) (fun _ _ => 0)
              case atStart => exact ⟨rfl, HN7.out⟩
              case round =>
                obtain ⟨rfl, hN⟩ := hrel
                have HN9 : Hid (NdSt w wr rb A cap bs ((pp : Int) + (n : Int)) (64 - (k : Int) - 1) 0 1 0 st (.slice none 0 0)) := hN
                obtain ⟨_, ⟨_, d0, d1, d2, d3, _, _, _⟩, u0, u1, u2, u3, _, r0, r1, r2, r3, rf, sz⟩ := hN
                have rf0 := rf 0
                have rf1 := rf 1
                have rf2 := rf 2
                have rf3 := rf 3
                have szr : w.heap.size < wr.heap.size := by omega
                clear rf HN7
                go_wp2_with fail
                refine bodyPost_ret (v := .agg #[.int .i64 1, .int .i64 0, .string st, .slice none 0 0]) (by simp [results, Tryz.results84, go_sem, r0, r1, r2, r3]) rfl ?_
                have hfin := HN9.out.done h0
                exact rf_ok (at' := pp + n) HT.out (hfin _ _ _ _).1 (by have := (hfin (.int .i64 1) (.int .i64 0) (.string st) (.slice none 0 0)).2; rwa [show (64 : Int) - (k : Int) - 1 = 64 - ((k + 1 : Nat) : Int) from by omega, show (pp : Int) + (n : Int) = ((pp + n : Nat) : Int) from by omega] at this) (by omega) rfl (by rw [← HST.out]; exact rep_leaf (a := ⟨1, 0, st⟩) (fit_leaf 1 0 st (by omega) (by omega) (by omega)))
            · rw [if_neg hcap] at hcv1
              go_wp2_with fail
              go_region
              go_wp2_with fail
              clear c0 c1 c2 c3 g1 g2 g3 t0 t1 t2 t3 HN6 tf2 hcv1
              go_loopw [8] (fun iv wr => iv = .int .i64 0 ∧ NdSt w wr rb A cap bs ((pp : Int) + (n : Int)) (64 - (k : Int) - 1) 0 1 0 st (.slice none 0 0)) (fun _ _ => 0)
              case atStart => exact ⟨rfl, HN7.out⟩
              case round =>
                obtain ⟨rfl, hN⟩ := hrel
                have HN9 : Hid (NdSt w wr rb A cap bs ((pp : Int) + (n : Int)) (64 - (k : Int) - 1) 0 1 0 st (.slice none 0 0)) := hN
                obtain ⟨_, ⟨_, d0, d1, d2, d3, _, _, _⟩, u0, u1, u2, u3, _, r0, r1, r2, r3, rf, sz⟩ := hN
                have rf0 := rf 0
                have rf1 := rf 1
                have rf2 := rf 2
                have rf3 := rf 3
                have szr : w.heap.size < wr.heap.size := by omega
                clear rf HN7
                go_wp2_with fail
                refine bodyPost_ret (v := .agg #[.int .i64 1, .int .i64 0, .string st, .slice none 0 0]) (by simp [results, Tryz.results84, go_sem, r0, r1, r2, r3]) rfl ?_
                have hfin := HN9.out.done h0
                exact rf_ok (at' := pp + n) HT.out (hfin _ _ _ _).1 (by have := (hfin (.int .i64 1) (.int .i64 0) (.string st) (.slice none 0 0)).2; rwa [show (64 : Int) - (k : Int) - 1 = 64 - ((k + 1 : Nat) : Int) from by omega, show (pp : Int) + (n : Int) = ((pp + n : Nat) : Int) from by omega] at this) (by omega) rfl (by rw [← HST.out]; exact rep_leaf (a := ⟨1, 0, st⟩) (fit_leaf 1 0 st (by omega) (by omega) (by omega)))
    by_cases q2 : h = 2
    · subst q2
      go_wp2_with fail
      refine (rfnum_any _ rb A cap bs (at' + 1) 4 B (64 - (k : Int) - 1) 4 rfl HN3.out.st (HY.out _ HN3.out.only) hB (by omega) (by omega) hl (by omega)).mono ?_
      rintro e w4 ⟨n, er, rfl, ho4, hst4, hcase⟩
      have hN4 := HN3.out.move h0 ho4 hst4
      clear c0 c1 c2 c3 g1 g2 g3 t0 t1 t2 t3 tf0 HN3 ho4 hst4
      rcases hcase with ⟨hs4, rfl, rfl⟩ | ⟨hs4, hn4, rfl⟩
      · have HT : Hid (tk (f + 1) k (bs.drop at') = .error 1) := by
          show _ = _; rw [HK0.out, tkH, if_neg (by decide), if_pos rfl, tkN, if_pos (by have := Hzl.out; omega)]
        have HN5 : Hid (NdSt w (w4.setCell ⟨w.heap.size + 1, 1, none⟩ (.int .i64 0)) rb A cap bs ((at' + 1 + 4 : Nat) : Int) (64 - (k : Int) - 1) 1 2 0 ⟨#[]⟩ (.slice none 0 0)) := hN4.numb h0 0
        obtain ⟨_, ⟨_, c0, c1, c2, c3, g1, g2, g3⟩, t0, t1, t2, t3, tf, _, _, _, _, _, sz4⟩ := hN4
        have tf1 := tf 1
        clear tf
        go_wp2_with fail
        clear c0 c1 c2 c3 g1 g2 g3 t0 t1 t2 t3 tf1
        go_loopw [8] (fun iv wr => iv = .int .i64 0 ∧ NdSt w wr rb A cap bs ((at' + 1 + 4 : Nat) : Int) (64 - (k : Int) - 1) 1 2 0 ⟨#[]⟩ (.slice none 0 0)) (fun _ _ => 0)
        case atStart => exact ⟨rfl, HN5.out⟩
        case round =>
          obtain ⟨rfl, hN⟩ := hrel
          have HN9 : Hid (NdSt w wr rb A cap bs ((at' + 1 + 4 : Nat) : Int) (64 - (k : Int) - 1) 1 2 0 ⟨#[]⟩ (.slice none 0 0)) := hN
          obtain ⟨_, ⟨_, d0, d1, d2, d3, _, _, _⟩, u0, u1, u2, u3, _, r0, r1, r2, r3, rf, sz⟩ := hN
          have rf0 := rf 0
          have rf1 := rf 1
          have rf2 := rf 2
          have rf3 := rf 3
          have szr : w.heap.size < wr.heap.size := by omega
          clear rf HN5
          go_wp2_with fail
          refine bodyPost_ret (v := .agg #[.int .i64 2, .int .i64 0, .string ⟨#[]⟩, .slice none 0 0]) (by simp [results, Tryz.results84, go_sem, r0, r1, r2, r3]) rfl ?_
          have hfin := HN9.out.done h0
          exact rf_err (er := 1) HT.out (hfin _ _ _ _).1 (hfin _ _ _ _).2
      · have hnz : n = unBe (zs.take 4) := by rw [hn4, Hzs.out]
        have hnb : n < 4294967296 := by rw [hnz]; exact unBe_small zs 4 (by have := Hzl.out; omega)
        have HT0 : Hid (tk (f + 1) k (bs.drop at') = if 1073741824 < n then .error 3 else .ok (⟨2, (n : Int), ⟨#[]⟩⟩, .nil, k + 1, zs.drop 4)) := by
          show _ = _
          rw [HK0.out, tkH, if_neg (by decide), if_pos rfl, tkN, if_neg (by have := Hzl.out; omega), ← hnz]
          by_cases hq : 1073741824 < n <;> simp [hq]
        have HN5 : Hid (NdSt w (w4.setCell ⟨w.heap.size + 1, 1, none⟩ (.int .i64 (n : Int))) rb A cap bs ((at' + 1 + 4 : Nat) : Int) (64 - (k : Int) - 1) 0 2 (n : Int) ⟨#[]⟩ (.slice none 0 0)) := hN4.numb h0 _
        obtain ⟨_, ⟨_, c0, c1, c2, c3, g1, g2, g3⟩, t0, t1, t2, t3, tf, _, _, _, _, _, sz4⟩ := hN4
        have tf1 := tf 1
        clear tf hn4 hnz
        by_cases hq : 1073741824 < n
        · have HT : Hid (tk (f + 1) k (bs.drop at') = .error 3) := by show _ = _; rw [HT0.out, if_pos hq]
          have HN6 := HN5.out.err h0 3
          have HN7 : Hid (NdSt w ((w4.setCell ⟨w.heap.size + 1, 1, none⟩ (.int .i64 (n : Int))).setCell ⟨rb, 3, none⟩ (.int .i64 3)) rb A cap bs ((at' + 1 + 4 : Nat) : Int) (64 - (k : Int) - 1) 3 2 (n : Int) ⟨#[]⟩ (.slice none 0 0)) := HN6
          clear HN6
          go_wp2_with fail
          clear c0 c1 c2 c3 g1 g2 g3 t0 t1 t2 t3 tf1 HN5
          go_loopw [8] (fun iv wr => iv = .int .i64 0 ∧ NdSt w wr rb A cap bs ((at' + 1 + 4 : Nat) : Int) (64 - (k : Int) - 1) 3 2 (n : Int) ⟨#[]⟩ (.slice none 0 0)) (fun _ _ => 0)
          case atStart => exact ⟨rfl, HN7.out⟩
          case round =>
            obtain ⟨rfl, hN⟩ := hrel
            have HN9 : Hid (NdSt w wr rb A cap bs ((at' + 1 + 4 : Nat) : Int) (64 - (k : Int) - 1) 3 2 (n : Int) ⟨#[]⟩ (.slice none 0 0)) := hN
            obtain ⟨_, ⟨_, d0, d1, d2, d3, _, _, _⟩, u0, u1, u2, u3, _, r0, r1, r2, r3, rf, sz⟩ := hN
            have rf0 := rf 0
            have rf1 := rf 1
            have rf2 := rf 2
            have rf3 := rf 3
            have szr : w.heap.size < wr.heap.size := by omega
            clear rf HN7
            go_wp2_with fail
            refine bodyPost_ret (v := .agg #[.int .i64 2, .int .i64 (n : Int), .string ⟨#[]⟩, .slice none 0 0]) (by simp [results, Tryz.results84, go_sem, r0, r1, r2, r3]) rfl ?_
            have hfin := HN9.out.done h0
            exact rf_err (er := 3) HT.out (hfin _ _ _ _).1 (hfin _ _ _ _).2
        · have HT : Hid (tk (f + 1) k (bs.drop at') = .ok (⟨2, (n : Int), ⟨#[]⟩⟩, .nil, k + 1, zs.drop 4)) := by show _ = _; rw [HT0.out, if_neg hq]
          go_wp2_with fail
          clear c0 c1 c2 c3 g1 g2 g3 t0 t1 t2 t3 tf1
          go_loopw [8] (fun iv wr => iv = .int .i64 0 ∧ NdSt w wr rb A cap bs ((at' + 1 + 4 : Nat) : Int) (64 - (k : Int) - 1) 0 2 (n : Int) ⟨#[]⟩ (.slice none 0 0)) (fun _ _ => 0)
          case atStart => exact ⟨rfl, HN5.out⟩
          case round =>
            obtain ⟨rfl, hN⟩ := hrel
            have HN9 : Hid (NdSt w wr rb A cap bs ((at' + 1 + 4 : Nat) : Int) (64 - (k : Int) - 1) 0 2 (n : Int) ⟨#[]⟩ (.slice none 0 0)) := hN
            obtain ⟨_, ⟨_, d0, d1, d2, d3, _, _, _⟩, u0, u1, u2, u3, _, r0, r1, r2, r3, rf, sz⟩ := hN
            have rf0 := rf 0
            have rf1 := rf 1
            have rf2 := rf 2
            have rf3 := rf 3
            have szr : w.heap.size < wr.heap.size := by omega
            clear rf HN5
            go_wp2_with fail
            refine bodyPost_ret (v := .agg #[.int .i64 2, .int .i64 (n : Int), .string ⟨#[]⟩, .slice none 0 0]) (by simp [results, Tryz.results84, go_sem, r0, r1, r2, r3]) rfl ?_
            have hfin := HN9.out.done h0
            exact rf_ok (at' := at' + 1 + 4) HT.out (hfin _ _ _ _).1 (by have := (hfin (.int .i64 2) (.int .i64 (n : Int)) (.string ⟨#[]⟩) (.slice none 0 0)).2; rwa [show (64 : Int) - (k : Int) - 1 = 64 - ((k + 1 : Nat) : Int) from by omega] at this) (by omega) (by rw [← Hzs.out, List.drop_drop]) (rep_leaf (a := ⟨2, (n : Int), ⟨#[]⟩⟩) (fit_leaf 2 n _ (by omega) (by omega) (by decide)))
    have HT : Hid (tk (f + 1) k (bs.drop at') = .error 2) := by show _ = _; rw [HK0.out, tkH, if_neg q1, if_neg q2, if_neg (by omega), if_neg (by omega)]
    have k1 : ((h : Int) == 1) = false := by simp; omega
    have k2 : ((h : Int) == 2) = false := by simp; omega
    have k3 : ((h : Int) == 3) = false := by simp; omega
    have k4 : ((h : Int) == 4) = false := by simp; omega
    have k5 : ((h : Int) == 5) = false := by simp; omega
    have k6 : ((h : Int) == 6) = false := by simp; omega
    have k7 : ((h : Int) == 7) = false := by simp; omega
    have HN4 : Hid (NdSt w ((w2.setCell ⟨w.heap.size + 1, 0, none⟩ (.int .i64 (h : Int))).setCell ⟨rb, 3, none⟩ (.int .i64 2)) rb A cap bs ((at' + 1 : Nat) : Int) (64 - (k : Int) - 1) 2 (h : Int) 0 ⟨#[]⟩ (.slice none 0 0)) := HN3.out.err h0 2
    go_wp2_with fail
    clear c0 c1 c2 c3 g1 g2 g3 t0 t1 t2 t3 tf0 HN3 k1 k2 k3 k4 k5 k6 k7
    go_loopw [8] (fun iv wr => iv = .int .i64 0 ∧ NdSt w wr rb A cap bs ((at' + 1 : Nat) : Int) (64 - (k : Int) - 1) 2 (h : Int) 0 ⟨#[]⟩ (.slice none 0 0)) (fun _ _ => 0)
    case atStart => exact ⟨rfl, HN4.out⟩
    case round =>
      obtain ⟨rfl, hN⟩ := hrel
      have HN9 : Hid (NdSt w wr rb A cap bs ((at' + 1 : Nat) : Int) (64 - (k : Int) - 1) 2 (h : Int) 0 ⟨#[]⟩ (.slice none 0 0)) := hN
      obtain ⟨_, ⟨_, d0, d1, d2, d3, _, _, _⟩, u0, u1, u2, u3, _, r0, r1, r2, r3, rf, sz⟩ := hN
      have rf0 := rf 0
      have rf1 := rf 1
      have rf2 := rf 2
      have rf3 := rf 3
      have szr : w.heap.size < wr.heap.size := by omega
      clear rf HN4
      go_wp2_with fail
      refine bodyPost_ret (v := .agg #[.int .i64 (h : Int), .int .i64 0, .string ⟨#[]⟩, .slice none 0 0]) (by simp [results, Tryz.results84, go_sem, r0, r1, r2, r3]) rfl ?_
      have hfin := HN9.out.done h0
      exact rf_err (er := 2) HT.out (hfin _ _ _ _).1 (hfin _ _ _ _).2

end Go.Proofs.YtgmmbfnmojjbkaaGreatDoor

namespace Go.Proofs.YtgmmbfnmojjbkaaGreatDoor
open Go.RowKit
set_option linter.unusedVariables false
set_option linter.unusedSimpArgs false

/-- Behind so many kids, none of them wrong; or behind one that is. -/
def RkRel (w : World) (f rb : Nat) (A : Option Addr) (cap : Nat) (bs : List UInt8) (h c k : Nat) (zs : List UInt8) (iv : Value) (wr : World) : Prop :=
  (∃ (ks : List Kd) (k' at2 : Nat) (kv : Value), iv = .int .i64 (ks.length : Int) ∧ ks.length ≤ c ∧ k' ≤ 64 ∧ at2 ≤ bs.length ∧ kidsG (tk f) c (k + 1) zs = addK ks (kidsG (tk f) (c - ks.length) k' (bs.drop at2)) ∧
    NdSt w wr rb A cap bs (at2 : Int) (64 - (k' : Int)) 0 (h : Int) 0 ⟨#[]⟩ kv ∧ wr.ownsRow (w.heap.size + 2) 24 4 kv ks.length (rowOf ks) ∧ (∀ q ∈ ks, q.Ok wr (fun b => w.heap.size + 2 ≤ b ∧ b < wr.heap.size ∧ kv.ownBlock ≠ some b))) ∨
  (∃ (i : Nat) (er : Nat) (at2 left : Int) (K : Option Addr) (len cc : Nat), iv = .int .i64 (i : Int) ∧ i ≤ c ∧ 1 ≤ er ∧ er ≤ 4 ∧ kidsG (tk f) c (k + 1) zs = .error er ∧ NdSt w wr rb A cap bs at2 left (er : Int) (h : Int) 0 ⟨#[]⟩ (.slice K len cc))

theorem owns_slice {w : World} {base n : Nat} {v : Value} {xs : List Value} (h : w.ownsRow base 24 4 v n xs) : ∃ K cc, v = .slice K n cc := by
  rcases h.2 with ⟨h1, h2⟩ | ⟨g, cap, cur, h1, _⟩
  · exact ⟨none, 0, by rw [h1, h2]⟩
  · exact ⟨_, cap, h1⟩

theorem NdSt.kids {w wr : World} {rb : Nat} {A : Option Addr} {cap : Nat} {bs : List UInt8} {at' left er kd nn : Int} {ss : ByteArray} {kv : Value} (h : NdSt w wr rb A cap bs at' left er kd nn ss kv) (hrb : rb < w.heap.size) (x : Value) : NdSt w (wr.setCell ⟨w.heap.size + 1, 3, none⟩ x) rb A cap bs at' left er kd nn ss x := by
  obtain ⟨a, b, c, d, e, f⟩ := h.setT hrb 3 x
  exact ⟨a, b, by rw [c 0 (by omega)]; exact h.t0, by rw [c 1 (by omega)]; exact h.t1, by rw [c 2 (by omega)]; exact h.t2, World.cell?_setCell_same _ _ _ h.t3, fun j => by rw [e]; exact h.tf j, by rw [d]; exact h.r0, by rw [d]; exact h.r1, by rw [d]; exact h.r2, by rw [d]; exact h.r3, fun j => by rw [e]; exact h.rf j, f⟩

/-- A row of its own, from behind t on, has grown: the rest is as it was. -/
theorem NdSt.grown {w wr wn : World} {rb : Nat} {A : Option Addr} {cap : Nat} {bs : List UInt8} {at' left er kd nn : Int} {ss : ByteArray} {kv : Value} {row : Option Nat} (h : NdSt w wr rb A cap bs at' left er kd nn ss kv) (hrb : rb < w.heap.size) (hg : wr.grownBy wn row) (hrow : ∀ q, row = some q → w.heap.size + 2 ≤ q) : NdSt w wn rb A cap bs at' left er kd nn ss kv := by
  have hz := h.sz
  have hb : Below (w.heap.size + 2) wr wn := ⟨hg.os, hg.tape, hg.output, hg.size, fun i hi => hg.block i (by omega) (fun e => by have := hrow i e.symm; omega)⟩
  have s := h.st
  have hst : RfSt wn rb A cap bs at' left er := ⟨by have := hg.size; omega, by rw [hb.cell (by simp; omega)]; exact s.c0, by rw [hb.cell (by simp; omega)]; exact s.c1, by rw [hb.cell (by simp; omega)]; exact s.c2, by rw [hb.cell (by simp; omega)]; exact s.c3, by rw [hb.frozen (by simp; omega)]; exact s.f1, by rw [hb.frozen (by simp; omega)]; exact s.f2, by rw [hb.frozen (by simp; omega)]; exact s.f3⟩
  have o := h.only
  exact ⟨⟨hb.os.trans o.os, hb.tape.trans o.tape, hb.output.trans o.output, Nat.le_trans o.size hb.size, fun i hi hn => (hb.block i (by omega)).trans (o.block i hi hn)⟩, hst, by rw [hb.cell (by simp)]; exact h.t0, by rw [hb.cell (by simp)]; exact h.t1, by rw [hb.cell (by simp)]; exact h.t2, by rw [hb.cell (by simp)]; exact h.t3, fun j => by rw [hb.frozen (by simp)]; exact h.tf j, by rw [hb.cell (by simp)]; exact h.r0, by rw [hb.cell (by simp)]; exact h.r1, by rw [hb.cell (by simp)]; exact h.r2, by rw [hb.cell (by simp)]; exact h.r3, fun j => by rw [hb.frozen (by simp)]; exact h.rf j, by have := hg.size; omega⟩

end Go.Proofs.YtgmmbfnmojjbkaaGreatDoor

namespace Go.Proofs.YtgmmbfnmojjbkaaGreatDoor
open Go.RowKit
set_option linter.unusedVariables false
set_option linter.unusedSimpArgs false

theorem sizeOf_terms (w : World) : (Go.sizeOf 22).run Tryz.prog w = .ok 1 w := by kernel_rfl

theorem rf_end_any {w w' : World} {rb : Nat} {A : Option Addr} {cap : Nat} {bs : List UInt8} {r : Except Nat (Nd × Fo × Nat × List UInt8)} {e : Ending} (h : RfEnd w rb A cap bs r e w') :
    ∃ (k0 n0 : Int) (s0 : ByteArray) (K0 : Option Addr) (len0 c9 : Nat), e = .returned (.agg #[.int .i64 k0, .int .i64 n0, .string s0, .slice K0 len0 c9]) ∧ Only rb w w' ∧
      ((∃ (er : Nat) (at' left : Int), r = .error er ∧ RfSt w' rb A cap bs at' left (er : Int)) ∨
       (∃ (a : Nd) (l : Fo) (k : Nat) (ys : List UInt8) (at' : Nat), r = .ok (a, l, k, ys) ∧ RfSt w' rb A cap bs (at' : Int) (64 - (k : Int)) 0 ∧ at' ≤ bs.length ∧ bs.drop at' = ys ∧ RepVG w' (fun b => w.heap.size ≤ b ∧ b < w'.heap.size) a l (.agg #[.int .i64 k0, .int .i64 n0, .string s0, .slice K0 len0 c9]))) := by
  rcases r with er | ⟨a, l, k, ys⟩
  · obtain ⟨k0, n0, s0, K0, len0, c9, at', left, h1, h2, h3⟩ := h.1 er rfl
    exact ⟨k0, n0, s0, K0, len0, c9, h1, h2, .inl ⟨er, at', left, rfl, h3⟩⟩
  · obtain ⟨v, at', h1, h2, h3, h4, h5, h6⟩ := h.2 a l k ys rfl
    obtain ⟨hf, A', cap', b, o, rfl, hn, hA, hl⟩ := h6
    exact ⟨_, _, _, _, _, _, h1, h2, .inr ⟨a, l, k, ys, at', rfl, h3, h4, h5, hf, A', cap', b, o, rfl, hn, hA, hl⟩⟩

theorem kidsG_next {g : Nat → List UInt8 → Except Nat (Nd × Fo × Nat × List UInt8)} {ks : List Kd} {c k' k3 : Nat} {xs ys : List UInt8} {q : Kd} (hlt : ks.length < c) (hq : q.x = 0 ∧ q.y = 0) (ht : g k' xs = .ok (q.a, q.l, k3, ys)) :
    addK ks (kidsG g (c - ks.length) k' xs) = addK (ks ++ [q]) (kidsG g (c - (ks ++ [q]).length) k3 ys) := by
  rw [show c - ks.length = (c - (ks ++ [q]).length) + 1 from by simp; omega, kidsG, ht]
  dsimp only
  generalize kidsG g (c - (ks ++ [q]).length) k3 ys = r
  cases r with
  | error e => rfl
  | ok r => obtain ⟨r1, k2, zs⟩ := r; simp only [addK, foOf_append, foOf, hq.1, hq.2]

theorem rk_next {w wr w5 w7 : World} {f rb : Nat} {A : Option Addr} {cap : Nat} {bs : List UInt8} {h c k : Nat} {zs : List UInt8} {ks : List Kd} {k' at2 : Nat} {K : Option Addr} {cc : Nat} {k0 n0 : Int} {s0 : ByteArray} {K0 : Option Addr} {len0 c9 : Nat} {K7 : Option Addr} {cc7 : Nat}
    (h0 : rb < w.heap.size) (hf : f ≤ 15) (hk' : k' ≤ 64) (hlt : ks.length < c)
    (hrun : kidsG (tk f) c (k + 1) zs = addK ks (kidsG (tk f) (c - ks.length) k' (bs.drop at2)))
    (hN : NdSt w wr rb A cap bs (at2 : Int) (64 - (k' : Int)) 0 (h : Int) 0 ⟨#[]⟩ (.slice K ks.length cc))
    (hks : ∀ q ∈ ks, q.Ok wr (fun b => w.heap.size + 2 ≤ b ∧ b < wr.heap.size ∧ (Value.slice K ks.length cc).ownBlock ≠ some b))
    (hbk : ∀ q, (Value.slice K ks.length cc).ownBlock = some q → w.heap.size + 2 ≤ q ∧ q < wr.heap.size) (ho5 : Only rb wr.drew w5)
    (hcase : (∃ (er : Nat) (at' left : Int), tk f k' (bs.drop at2) = .error er ∧ RfSt w5 rb A cap bs at' left (er : Int)) ∨
       (∃ (a : Nd) (l : Fo) (k : Nat) (ys : List UInt8) (at' : Nat), tk f k' (bs.drop at2) = .ok (a, l, k, ys) ∧ RfSt w5 rb A cap bs (at' : Int) (64 - (k : Int)) 0 ∧ at' ≤ bs.length ∧ bs.drop at' = ys ∧ RepVG w5 (fun b => wr.drew.heap.size ≤ b ∧ b < w5.heap.size) a l (.agg #[.int .i64 k0, .int .i64 n0, .string s0, .slice K0 len0 c9])))
    (hown7 : w7.ownsRow (w.heap.size + 2) 24 4 (.slice K7 (ks.length + 1) cc7) (ks.length + 1) (rowOf ks ++ [.int .i64 k0, .int .i64 n0, .string s0, .slice K0 len0 c9]))
    (hg57 : w5.grownBy w7 (Value.slice K ks.length cc).ownBlock)
    (hat : (Value.slice K7 (ks.length + 1) cc7).ownBlock = (Value.slice K ks.length cc).ownBlock ∨ ∃ q, (Value.slice K7 (ks.length + 1) cc7).ownBlock = some q ∧ w5.heap.size ≤ q) :
    RkRel w f rb A cap bs h c k zs (.int .i64 ((ks.length : Int) + 1)) (w7.setCell ⟨w.heap.size + 1, 3, none⟩ (.slice K7 (ks.length + 1) cc7)) := by
  have hs5 : wr.heap.size ≤ w5.heap.size := ho5.size
  have hs7 := hg57.size
  rcases hcase with ⟨er, at3, left3, ht, hst5⟩ | ⟨a3, l3, k3, ys3, at3, ht, hst5, hat3, hys, hrep⟩
  · have her := tk_er ht
    refine .inr ⟨ks.length + 1, er, at3, left3, K7, ks.length + 1, cc7, by rw [Int.natCast_add]; rfl, by omega, her.1, her.2, ?_, ((hN.move h0 ((Only.drew (Only.refl _ _)).trans ho5) hst5).grown h0 hg57 (fun q hq => (hbk q hq).1)).kids h0 _⟩
    rw [hrun, show c - ks.length = (c - ks.length - 1) + 1 from by omega, kidsG, ht]; rfl
  · have hk3 := tk_le (by omega) hk' ht
    obtain ⟨hfa, A3, cap3, b3, o3, hv3, hn3, hA3, hl3⟩ := hrep
    simp only [Value.agg.injEq, Array.mk.injEq, List.cons.injEq, Value.int.injEq, Value.string.injEq, Value.slice.injEq, true_and, and_true] at hv3
    obtain ⟨e1, e2, e3, e4, e5, e6⟩ := hv3
    subst e1 e2 e3 e4 e5 e6
    have hstep : ∀ q, q < w5.heap.size → (Value.slice K ks.length cc).ownBlock ≠ some q → q ≠ w.heap.size + 1 → (w7.setCell ⟨w.heap.size + 1, 3, none⟩ (.slice K7 (ks.length + 1) cc7)).heap[q]? = w5.heap[q]? := fun q hq hv hne => by
      rw [Below.heap_setCell _ _ _ _ (by simpa using hne)]; exact hg57.block q hq (fun e => hv e.symm)
    have hg2 : ∀ q, q < w5.heap.size → (Value.slice K ks.length cc).ownBlock ≠ some q → (Value.slice K7 (ks.length + 1) cc7).ownBlock ≠ some q := fun q hq hv e => by
      rcases hat with h | ⟨q', h, h'⟩
      · rw [h] at e; exact hv e
      · rw [h] at e; injection e with e; omega
    have hsz : (w7.setCell ⟨w.heap.size + 1, 3, none⟩ (.slice K7 (ks.length + 1) cc7)).heap.size = w7.heap.size := size_setCellR _ _ _
    refine .inl ⟨ks ++ [⟨0, 0, a3, l3, K0, c9, b3, o3⟩], k3, at3, .slice K7 (ks.length + 1) cc7, by rw [List.length_append]; rfl, by rw [List.length_append]; simp; omega, hk3, hat3, ?_, ((hN.move h0 ((Only.drew (Only.refl _ _)).trans ho5) hst5).grown h0 hg57 (fun q hq => (hbk q hq).1)).kids h0 _, ?_, ?_⟩
    · rw [hrun, hys]; exact kidsG_next (q := ⟨0, 0, a3, l3, K0, c9, b3, o3⟩) hlt ⟨rfl, rfl⟩ ht
    · rw [rowOf_append, List.length_append]
      exact owns_of hown7 (fun q hq => Below.heap_setCell _ _ _ _ (by have := (hown7.lt q hq).1; simp; omega))
    · intro q hq
      rcases List.mem_append.1 hq with hq | hq
      · have hrw : ∀ b, b < wr.heap.size → b ≠ rb → w5.heap[b]? = wr.heap[b]? := fun b hb hne => ho5.block b hb hne
        refine (hks q hq).keep (fun b hb => ⟨hb.1, by rw [hsz]; omega, hg2 b (by omega) hb.2.2⟩) (fun b o hb => ?_)
        exact World.cell?_of_block ((hstep b (by omega) hb.2.2 (by omega)).trans (hrw b hb.2.1 (by omega)))
      · simp at hq; subst hq
        refine ⟨hfa, hn3, hA3, ?_⟩
        have hwd : wr.drew.heap.size = wr.heap.size := rfl
        have hz := hN.sz
        have hnb : ∀ b, wr.heap.size ≤ b → (Value.slice K ks.length cc).ownBlock ≠ some b := fun b hb e => by have := hbk b e; omega
        refine RepG.keep (fun b hb => ⟨by omega, by rw [hsz]; omega, hg2 b hb.2 (hnb b (by omega))⟩) (fun b o hb => World.cell?_of_block (hstep b hb.2 (hnb b (by omega)) (by omega))) hl3

end Go.Proofs.YtgmmbfnmojjbkaaGreatDoor

namespace Go.Proofs.YtgmmbfnmojjbkaaGreatDoor
open Go.RowKit
set_option linter.unusedVariables false
set_option linter.unusedSimpArgs false

set_option maxRecDepth 100000 in
set_option maxHeartbeats 4000000 in
theorem rnode_kids3 (f : Nat) (hf : f ≤ 15) (ih : RNodeOk f) (w : World) (rb : Nat) (A : Option Addr) (cap : Nat) (bs : List UInt8) (at' k B : Nat) (dz : Int) (hdz : dz = 17 - ((f + 1 : Nat) : Int)) (hR : RfSt w rb A cap bs (at' : Int) (64 - (k : Int)) 0) (hy : ByAt w B A bs) (hB : B ≤ rb) (hk : k ≤ 64) (ha : at' ≤ bs.length) (hl : bs.length ≤ 100000) (hlc : bs.length ≤ cap) (hcm : cap ≤ maxLen)
    (x : UInt8) (zs : List UInt8) (hxz : bs.drop at' = x :: zs) (hx : x.toNat = 3) :
    Calls Tryz.prog 84 #[.pointer (some ⟨rb, 0, none⟩), .int .i64 dz] w fun e w' => RfEnd w rb A cap bs (tk (f + 1) k (bs.drop at')) e w' := by
  obtain ⟨i5, hi, hz0, hz1, hz2⟩ := info_has Tryz.infoTerm2
  by_cases hk1 : 64 ≤ k
  · exact rnode_big (f + 1) w rb A cap bs at' k dz hR (by omega) hk (.inl hk1) _ (by cases bs.drop at' <;> rw [tk, if_pos (by omega)])
  have HDZ : Hid (dz = 16 - (f : Int)) := by show dz = _; omega
  have hd0 : 0 ≤ dz := by omega
  have hd1 : dz ≤ 16 := by omega
  clear hdz
  have h0 := hR.lt
  have HN1 : Hid (NdSt w (((w.setCell ⟨rb, 2, none⟩ (.int .i64 (64 - (k : Int) - 1))).alloc (.cells #[.int .i64 0, .int .i64 0, .string ⟨#[]⟩, .slice none 0 0] 24)).alloc (.cells #[.int .i64 0, .int .i64 0, .string ⟨#[]⟩, .slice none 0 0] 24)) rb A cap bs (at' : Int) (64 - (k : Int) - 1) 0 0 0 ⟨#[]⟩ (.slice none 0 0)) := NdSt.first w hR _
  have HY : Hid (∀ w', Only rb w w' → ByAt w' B A bs) := fun w' ho => hy.keep (Nat.le_refl _) (fun b o hb => ho.cell (by simp; omega) (by simp; omega))
  obtain ⟨_, c0, c1, c2, c3, g1, g2, g3⟩ := hR
  have hk2 : decide (64 - (k : Int) < 1) = false := by simp; omega
  have hk3 : decide (16 < dz) = false := by simp; omega
  go_enter Tryz.func84, Tryz.ntmps84
  go_wp2_with fail
  refine (rfnum_any _ rb A cap bs at' 1 B (64 - (k : Int) - 1) 1 rfl HN1.out.st (HY.out _ HN1.out.only) hB (by omega) (by omega) hl (by omega)).mono ?_
  rintro e w2 ⟨v, er, rfl, ho2, hst2, hcase⟩
  have hN2 := HN1.out.move h0 ho2 hst2
  have HN2 : Hid (NdSt w w2 rb A cap bs ((at' + 1 : Nat) : Int) (64 - (k : Int) - 1) (er : Int) 0 0 ⟨#[]⟩ (.slice none 0 0)) := hN2
  clear HN1 hst2 ho2 c0 c1 c2 c3 g1 g2 g3 hy
  have hne : ¬ bs.length < at' + 1 := fun hq => by have := congrArg List.length hxz; simp at this; omega
  obtain ⟨hs, hv, rfl⟩ : at' + 1 ≤ bs.length ∧ v = unBe ((bs.drop at').take 1) ∧ er = 0 := by rcases hcase with ⟨h1, _⟩ | h; exact absurd h1 hne; exact h
  have hzs : bs.drop (at' + 1) = zs := by rw [← List.drop_drop, hxz]; rfl
  have hv2 : v = x.toNat := by rw [hv, hxz]; simp [unBe]
  have HK0 : Hid (tk (f + 1) k (bs.drop at') = tkH (tk f) x.toNat (k + 1) zs) := by show _ = _; rw [hxz, tk, if_neg (by omega)]
  have Hzs : Hid (bs.drop (at' + 1) = zs) := hzs
  subst hv2
  clear hv hzs hxz hcase hne
  generalize x.toNat = h at *
  have HN3 : Hid (NdSt w (w2.setCell ⟨w.heap.size + 1, 0, none⟩ (.int .i64 (h : Int))) rb A cap bs ((at' + 1 : Nat) : Int) (64 - (k : Int) - 1) 0 (h : Int) 0 ⟨#[]⟩ (.slice none 0 0)) := HN2.out.kind h0 _
  obtain ⟨_, ⟨_, c0, c1, c2, c3, g1, g2, g3⟩, t0, t1, t2, t3, tf, _, _, _, _, _, sz⟩ := hN2
  have tf0 := tf 0
  clear tf HN2
  subst hx
  · have HK : Hid (tk (f + 1) k (bs.drop at') = aboveR (tk f) 3 1 (k + 1) zs) := by show _ = _; rw [HK0.out, tkH, if_neg (by decide), if_neg (by decide), if_pos (by decide)]; rfl
    go_wp2_with fail
    clear c0 c1 c2 c3 g1 g2 g3 t0 t1 t2 t3 tf0
    go_loopw [8] (fun iv wr => RkRel w f rb A cap bs 3 1 k zs iv wr) (fun iv _ => 1 - (intOf iv).toNat)
    case atStart =>
      refine .inl ⟨[], k + 1, at' + 1, .slice none 0 0, rfl, by simp, by omega, by omega, ?_, ?_, World.ownsRow_nil _ _ _ _, by simp⟩
      · rw [Hzs.out]; show kidsG (tk f) 1 (k + 1) zs = addK [] (kidsG (tk f) (1 - 0) (k + 1) zs)
        rw [Nat.sub_zero]; cases kidsG (tk f) 1 (k + 1) zs <;> rfl
      · have := HN3.out; rwa [show (64 : Int) - (k : Int) - 1 = 64 - ((k + 1 : Nat) : Int) from by omega] at this
    case round =>
      clear HN3
      rcases hrel with ⟨ks, k', at2, kv, rfl, hks, hk', hat2, hrun, hN, hown, hoks⟩ | ⟨i, er, at2, left, K, len, cc, rfl, hic, her1, her4, hrun, hN⟩
      · have HRUN : Hid (kidsG (tk f) 1 (k + 1) zs = addK ks (kidsG (tk f) (1 - ks.length) k' (bs.drop at2))) := hrun
        have HN4 : Hid (NdSt w wr rb A cap bs (at2 : Int) (64 - (k' : Int)) 0 3 0 ⟨#[]⟩ kv) := hN
        have HOW : Hid (wr.ownsRow (w.heap.size + 2) 24 4 kv ks.length (rowOf ks)) := hown
        have HKS : Hid (∀ q ∈ ks, q.Ok wr (fun b => w.heap.size + 2 ≤ b ∧ b < wr.heap.size ∧ kv.ownBlock ≠ some b)) := hoks
        obtain ⟨K, cc, rfl⟩ := owns_slice hown
        have hbk := hown.lt
        clear hrun hown hoks
        obtain ⟨_, ⟨_, c0, c1, c2, c3, _, _, _⟩, t0, t1, t2, t3, tf, r0, r1, r2, r3, rf, sz⟩ := hN
        have szr : w.heap.size < wr.heap.size := by omega
        by_cases hlt : ks.length < 1
        · have hlt' : decide ((ks.length : Int) < 1) = true := by simp; omega
          have tf3 := tf 3
          clear tf rf
          have N1 : Hid (Calls Tryz.prog 84 #[.pointer (some ⟨rb, 0, none⟩), .int .i64 (dz + 1)] wr.drew fun e w' => RfEnd wr.drew rb A cap bs (tk f k' (bs.drop at2)) e w') :=
            ih wr.drew rb A cap bs at2 k' B (dz + 1) (by have := HDZ.out; omega) (HN4.out.st.keep (Below.drew (Below.refl _ _))) (HY.out _ HN4.out.only.drew) hB hk' hat2 hl hlc hcm
          go_wp2_with fail
          clear c0 c1 c2 c3 t0 t1 t2 r0 r1 r2 r3
          refine wp_region_until (S := fun w' => w'.cell? ⟨w.heap.size + 1, 3, none⟩ = some (.slice K ks.length cc)) (j := 7) (by kernel_rfl) ?_
          refine wpAnyU_pure (i := 0) (oi := { dst := some 161, op := Op.fieldAddr 24 (Operand.tmp 5) 3, type := 0, pos := "ref.go:101", after := #[], guard := none }) (v := ?v0) rfl (by kernel_rfl) (by kernel_rfl) (by kernel_rfl) (by decide) (fun _ _ _ h => h) (Or.inl ⟨by rfl, ?y0⟩) (fun _ => t3) ?r0
          case y0 => (intro w _; go_simp <;> with_reducible rfl)
          try simp only [Act.put, List.setIfInBounds_toArray, List.set_cons_zero, List.set_cons_succ]
          refine wpAnyU_pure (i := 2) (oi := { dst := some 163, op := Op.move (Operand.tmp 0), type := 104, pos := "ref.go:101", after := #[], guard := none }) (v := ?v2) rfl (by kernel_rfl) (by kernel_rfl) (by kernel_rfl) (by decide) (fun _ _ _ h => h) (Or.inl ⟨by rfl, ?y2⟩) (fun _ => t3) ?r2
          case y2 => (intro w _; go_simp <;> with_reducible rfl)
          try simp only [Act.put, List.setIfInBounds_toArray, List.set_cons_zero, List.set_cons_succ]
          refine wpAnyU_pure (i := 3) (oi := { dst := some 164, op := Op.move (Operand.tmp 1), type := 3, pos := "ref.go:101", after := #[], guard := none }) (v := ?v3) rfl (by kernel_rfl) (by kernel_rfl) (by kernel_rfl) (by decide) (fun _ _ _ h => h) (Or.inl ⟨by rfl, ?y3⟩) (fun _ => t3) ?r3
          case y3 => (intro w _; go_simp <;> with_reducible rfl)
          try simp only [Act.put, List.setIfInBounds_toArray, List.set_cons_zero, List.set_cons_succ]
          refine wpAnyU_pure (i := 4) (oi := { dst := some 165, op := Op.binOp BinOp.add 3 (Operand.tmp 164) (Operand.const (Value.int IntKind.i64 1)) 3, type := 3, pos := "ref.go:101", after := #[{ on := 3, ground := Ground.data }], guard := none }) (v := ?v4) rfl (by kernel_rfl) (by kernel_rfl) (by kernel_rfl) (by decide) (fun _ _ _ h => h) (Or.inl ⟨by rfl, ?y4⟩) (fun _ => t3) ?r4
          case y4 => (intro w _; go_simp <;> with_reducible rfl)
          try simp only [Act.put, List.setIfInBounds_toArray, List.set_cons_zero, List.set_cons_succ]
          refine wpAnyU_load (i := 1) (oi := { dst := some 162, op := Op.load 22 (Operand.tmp 161), type := 22, pos := "ref.go:101", after := #[{ on := 0, ground := Ground.data }], guard := none }) (oj := { dst := some 168, op := Op.call { callee := Callee.builtin Builtin.append, args := #[Operand.tmp 162, Operand.tmp 167], argTypes := #[22, 22] }, type := 22, pos := "ref.go:101", after := #[{ on := 1, ground := Ground.data }, { on := 6, ground := Ground.data }, { on := 5, ground := Ground.chain }], guard := none }) (v := ?v1) rfl rfl (by kernel_rfl) (by kernel_rfl) (by kernel_rfl) (by decide) (by kernel_rfl) (by kernel_rfl) (fun _ _ _ h => h) (Or.inl ⟨by rfl, ?y1⟩) t3 ?r1
          case y1 => (intro w hSw; (try dsimp only at hSw); go_simp <;> with_reducible rfl)
          try simp only [Act.put, List.setIfInBounds_toArray, List.set_cons_zero, List.set_cons_succ]
          refine wpAnyU_one (i := 5) (o := { dst := some 166, op := Op.call { callee := Callee.value (Operand.func 84), args := #[Operand.tmp 163, Operand.tmp 165], argTypes := #[104, 3] }, type := 24, pos := "ref.go:101", after := #[{ on := 2, ground := Ground.data }, { on := 4, ground := Ground.data }], guard := none }) (by kernel_rfl) rfl (fun K' hK => ?_)
          go_simp
          rw [wrap_in _ (by omega) (by omega)]
          refine (N1.out).mono ?_
          clear N1
          rintro e w5 hE
          obtain ⟨k0, n0, s0, K0, len0, c9, rfl, ho5, hcase⟩ := rf_end_any hE
          have HC : Hid _ := hcase
          clear hE hcase
          have t35 : w5.cell? ⟨w.heap.size + 1, 3, none⟩ = some (.slice K ks.length cc) := (ho5.cell (by show w.heap.size + 1 < wr.heap.size; omega) (by simp; omega)).trans t3
          have tf5 : w5.frozen? ⟨w.heap.size + 1, 3, none⟩ = false := (ho5.frozen (by show w.heap.size + 1 < wr.heap.size; omega) (by simp; omega)).trans tf3
          have sz5 : wr.heap.size ≤ w5.heap.size := ho5.size
          go_wp2_with fail
          refine hK.out _ _ (fun _ => t35) ?_
          clear hK K'
          try simp only [Act.put, List.setIfInBounds_toArray, List.set_cons_zero, List.set_cons_succ]
          refine wpAnyU_one (i := 6) (o := { dst := some 167, op := Op.buildSlice 22 1 #[(0, Operand.tmp 166)], type := 22, pos := "ref.go:101", after := #[{ on := 5, ground := Ground.data }], guard := none }) (by kernel_rfl) rfl (fun K' hK => ?_)
          go_wp2_with fail
          refine hK.out _ _ (fun _ => by rw [World.cell?_alloc_lt _ _ _ (by show w.heap.size + 1 < w5.heap.size; omega)]; exact t35) ?_
          clear hK K'
          try simp only [Act.put, List.setIfInBounds_toArray, List.set_cons_zero, List.set_cons_succ]
          refine wpAnyU_one (i := 7) (o := { dst := some 168, op := Op.call { callee := Callee.builtin Builtin.append, args := #[Operand.tmp 162, Operand.tmp 167], argTypes := #[22, 22] }, type := 22, pos := "ref.go:101", after := #[{ on := 1, ground := Ground.data }, { on := 6, ground := Ground.data }, { on := 5, ground := Ground.chain }], guard := none }) (by kernel_rfl) rfl (fun K' hK => ?_)
          refine step_append_any _ (by rfl) _ _ 22 (by rfl) (w.heap.size + 2) 24 i5 (.agg #[.int .i64 0, .int .i64 0, .string ⟨#[]⟩, .slice none 0 0]) 4 56 Tryz.underlying22 hi hz0 hz1 hz2 rfl (by decide) (.slice K ks.length cc) ks.length (rowOf ks) (by rfl) ?own (some ⟨w5.heap.size, 0, none⟩) 1 1 [.int .i64 k0, .int .i64 n0, .string s0, .slice K0 len0 c9] (by rfl) ?src ?c3 ?c4 ?c5 ?_
          case own => exact (owns_of HOW.out (fun q hq => ho5.block q (by have := hbk q hq; show q < wr.heap.size; omega) (by have := hbk q hq; omega))).alloc _
          case src => exact .inr ⟨_, rfl, rfl, World.news_of_block (t := 24) (fr := (0, 0)) (heap_alloc_new w5 _), by simp [Value.oneCell']⟩
          case c3 => unfold maxLen; omega
          case c4 => omega
          case c5 => simp; omega
          intro v7 w7 hown7 hgrow7 hat7
          have hs7 := hgrow7.size
          simp only [World.heap_size_alloc'] at hs7 hat7
          have hg57 : w5.grownBy w7 (Value.slice K ks.length cc).ownBlock := ⟨hgrow7.os, hgrow7.tape, hgrow7.output, by omega, fun q hq hne => by rw [hgrow7.block q (by simp; omega) hne, Below.heap_alloc _ _ _ hq]⟩
          have hT7 : w7.heap[w.heap.size + 1]? = w5.heap[w.heap.size + 1]? := hg57.block _ (by omega) (fun e => by have := hbk _ e.symm; omega)
          have t37 : w7.cell? ⟨w.heap.size + 1, 3, none⟩ = some (.slice K ks.length cc) := (World.cell?_of_block hT7).trans t35
          have tf7 : w7.frozen? ⟨w.heap.size + 1, 3, none⟩ = false := (World.frozen?_of_block hT7).trans tf5
          have sz7 : w.heap.size + 1 < w7.heap.size := by omega
          obtain ⟨K7, cc7, rfl⟩ := owns_slice hown7
          have O7 : Hid (w7.ownsRow (w.heap.size + 2) 24 4 (.slice K7 (ks.length + 1) cc7) (ks.length + 1) (rowOf ks ++ [.int .i64 k0, .int .i64 n0, .string s0, .slice K0 len0 c9])) := hown7
          have HAT : Hid ((Value.slice K7 (ks.length + 1) cc7).ownBlock = (Value.slice K ks.length cc).ownBlock ∨ ∃ q, (Value.slice K7 (ks.length + 1) cc7).ownBlock = some q ∧ w5.heap.size ≤ q) := by
            rcases hat7 with h | h
            · exact .inl h
            · exact .inr ⟨_, h, by omega⟩
          clear hown7 hat7 hgrow7 t3 t35 tf5 tf3
          refine hK.out _ _ (fun h => not_until (by kernel_rfl) h) ?_
          clear hK K'
          try simp only [Act.put, List.setIfInBounds_toArray, List.set_cons_zero, List.set_cons_succ]
          refine wpAnyU_pure (i := 8) (oi := { dst := some 169, op := Op.fieldAddr 24 (Operand.tmp 5) 3, type := 0, pos := "ref.go:101", after := #[{ on := 0, ground := Ground.phase }, { on := 1, ground := Ground.phase }, { on := 2, ground := Ground.phase }, { on := 3, ground := Ground.phase }, { on := 4, ground := Ground.phase }, { on := 5, ground := Ground.phase }, { on := 6, ground := Ground.phase }, { on := 7, ground := Ground.phase }], guard := none }) (v := ?v8) rfl (by kernel_rfl) (by kernel_rfl) (by kernel_rfl) (by decide) (fun _ _ _ h => h) (Or.inl ⟨by rfl, ?y8⟩) (fun h => not_until (by kernel_rfl) h) ?r8
          case y8 => (intro w _; go_simp <;> with_reducible rfl)
          try simp only [Act.put, List.setIfInBounds_toArray, List.set_cons_zero, List.set_cons_succ]
          refine wpAnyU_one (i := 9) (o := { dst := none, op := Op.store 22 (Operand.tmp 169) (Operand.tmp 168), type := 0, pos := "ref.go:101", after := #[{ on := 8, ground := Ground.data }, { on := 7, ground := Ground.data }, { on := 7, ground := Ground.chain }, { on := 0, ground := Ground.phase }, { on := 1, ground := Ground.phase }, { on := 2, ground := Ground.phase }, { on := 3, ground := Ground.phase }, { on := 4, ground := Ground.phase }, { on := 5, ground := Ground.phase }, { on := 6, ground := Ground.phase }, { on := 7, ground := Ground.phase }], guard := none }) (by kernel_rfl) rfl (fun K' hK => ?_)
          refine step_store (by rfl) 22 _ _ (by rfl) ⟨w.heap.size + 1, 3, none⟩ K7 (ks.length + 1) cc7 (by rfl) (by rfl) _ t37 tf7 sizeOf_terms ?_
          refine hK.out _ _ (fun h => not_until (by kernel_rfl) h) ?_
          clear hK K'
          try simp only [Act.put, List.setIfInBounds_toArray, List.set_cons_zero, List.set_cons_succ]
          refine wpAnyU_done (by kernel_rfl) ?_ _
          clear t37 tf7
          go_wp2_with fail
          go_roundw
          case rel => exact rk_next h0 hf hk' hlt HRUN.out HN4.out HKS.out hbk ho5 HC.out O7.out hg57 HAT.out
          case measure => simp [intOf]; omega
        · have hlt' : decide ((ks.length : Int) < 1) = false := by simp; omega
          have hkc : ks.length = 1 := by omega
          have rf0 := rf 0
          have rf1 := rf 1
          have rf2 := rf 2
          have rf3 := rf 3
          clear tf rf
          have HT2 : Hid (tk (f + 1) k (bs.drop at') = .ok (ndK 3, foOf ks .nil, k', bs.drop at2)) := by
            show _ = _
            rw [HK.out, aboveR, HRUN.out, hkc, Nat.sub_self, kidsG]; rfl
          have HKC : Hid (ks.length = 1) := hkc
          clear hkc
          go_wp2_with fail
          refine bodyPost_ret (v := .agg #[.int .i64 3, .int .i64 0, .string ⟨#[]⟩, .slice K ks.length cc]) (by simp [results, Tryz.results84, go_sem, r0, r1, r2, r3]) rfl ?_
          have hfin := HN4.out.done h0
          refine rf_ok (at' := at2) HT2.out (hfin _ _ _ _).1 (hfin _ _ _ _).2 hat2 rfl ?_
          have hown := HOW.out
          rcases hown.2 with ⟨_, hz0⟩ | ⟨g, gcap, cur, hgv, hg1, hg2, _⟩
          · have := HKC.out; omega
          · injection hgv with hgK _ hgc
            have hg3 := hown.lt g (by rw [hgK]; rfl)
            refine ⟨fit_leaf 3 0 _ (by omega) (by omega) (by decide), K, cc, g, 0, by rw [flen_foOf]; rfl, by rw [flen_foOf]; omega, .inr hgK, ?_⟩
            refine RepG.keep (S := fun b => w.heap.size + 2 ≤ b ∧ b < wr.heap.size) (fun b hb => ⟨by omega, by rw [size_set4']; exact hb.2⟩) (fun b o hb => cell_set4 _ _ _ _ _ _ _ _ (by omega)) ?_
            exact rep_of_row ⟨hg1, hg3.2⟩ ks 0 (fun q hq => (HKS.out q hq).keep (fun b hb => ⟨hb.1, hb.2.1⟩) (fun _ _ _ => rfl)) (fun j hj => by rw [Nat.zero_add]; have := World.ownsRow.cellAt (hgK ▸ hown) j (by omega); exact this)
      · have HT2 : Hid (tk (f + 1) k (bs.drop at') = .error er) := by show _ = _; rw [HK.out, aboveR, hrun]
        have HN4 : Hid (NdSt w wr rb A cap bs at2 left (er : Int) 3 0 ⟨#[]⟩ (.slice K len cc)) := hN
        obtain ⟨_, ⟨_, c0, c1, c2, c3, _, _, _⟩, t0, t1, t2, t3, tf, r0, r1, r2, r3, rf, sz⟩ := hN
        have rf0 := rf 0
        have rf1 := rf 1
        have rf2 := rf 2
        have rf3 := rf 3
        have szr : w.heap.size < wr.heap.size := by omega
        have hez : ((er : Int) == 0) = false := by simp; omega
        clear tf rf hrun
        by_cases hlt : i < 1
        · have hlt' : decide ((i : Int) < 1) = true := by simp; omega
          go_wp2_with fail
          refine bodyPost_ret (v := .agg #[.int .i64 3, .int .i64 0, .string ⟨#[]⟩, .slice K len cc]) (by simp [results, Tryz.results84, go_sem, r0, r1, r2, r3]) rfl ?_
          have hfin := HN4.out.done h0
          exact rf_err HT2.out (hfin _ _ _ _).1 (hfin _ _ _ _).2
        · have hlt' : decide ((i : Int) < 1) = false := by simp; omega
          go_wp2_with fail
          refine bodyPost_ret (v := .agg #[.int .i64 3, .int .i64 0, .string ⟨#[]⟩, .slice K len cc]) (by simp [results, Tryz.results84, go_sem, r0, r1, r2, r3]) rfl ?_
          have hfin := HN4.out.done h0
          exact rf_err HT2.out (hfin _ _ _ _).1 (hfin _ _ _ _).2

set_option maxRecDepth 100000 in
set_option maxHeartbeats 4000000 in
theorem rnode_kids4 (f : Nat) (hf : f ≤ 15) (ih : RNodeOk f) (w : World) (rb : Nat) (A : Option Addr) (cap : Nat) (bs : List UInt8) (at' k B : Nat) (dz : Int) (hdz : dz = 17 - ((f + 1 : Nat) : Int)) (hR : RfSt w rb A cap bs (at' : Int) (64 - (k : Int)) 0) (hy : ByAt w B A bs) (hB : B ≤ rb) (hk : k ≤ 64) (ha : at' ≤ bs.length) (hl : bs.length ≤ 100000) (hlc : bs.length ≤ cap) (hcm : cap ≤ maxLen)
    (x : UInt8) (zs : List UInt8) (hxz : bs.drop at' = x :: zs) (hx : x.toNat = 4) :
    Calls Tryz.prog 84 #[.pointer (some ⟨rb, 0, none⟩), .int .i64 dz] w fun e w' => RfEnd w rb A cap bs (tk (f + 1) k (bs.drop at')) e w' := by
  obtain ⟨i5, hi, hz0, hz1, hz2⟩ := info_has Tryz.infoTerm2
  by_cases hk1 : 64 ≤ k
  · exact rnode_big (f + 1) w rb A cap bs at' k dz hR (by omega) hk (.inl hk1) _ (by cases bs.drop at' <;> rw [tk, if_pos (by omega)])
  have HDZ : Hid (dz = 16 - (f : Int)) := by show dz = _; omega
  have hd0 : 0 ≤ dz := by omega
  have hd1 : dz ≤ 16 := by omega
  clear hdz
  have h0 := hR.lt
  have HN1 : Hid (NdSt w (((w.setCell ⟨rb, 2, none⟩ (.int .i64 (64 - (k : Int) - 1))).alloc (.cells #[.int .i64 0, .int .i64 0, .string ⟨#[]⟩, .slice none 0 0] 24)).alloc (.cells #[.int .i64 0, .int .i64 0, .string ⟨#[]⟩, .slice none 0 0] 24)) rb A cap bs (at' : Int) (64 - (k : Int) - 1) 0 0 0 ⟨#[]⟩ (.slice none 0 0)) := NdSt.first w hR _
  have HY : Hid (∀ w', Only rb w w' → ByAt w' B A bs) := fun w' ho => hy.keep (Nat.le_refl _) (fun b o hb => ho.cell (by simp; omega) (by simp; omega))
  obtain ⟨_, c0, c1, c2, c3, g1, g2, g3⟩ := hR
  have hk2 : decide (64 - (k : Int) < 1) = false := by simp; omega
  have hk3 : decide (16 < dz) = false := by simp; omega
  go_enter Tryz.func84, Tryz.ntmps84
  go_wp2_with fail
  refine (rfnum_any _ rb A cap bs at' 1 B (64 - (k : Int) - 1) 1 rfl HN1.out.st (HY.out _ HN1.out.only) hB (by omega) (by omega) hl (by omega)).mono ?_
  rintro e w2 ⟨v, er, rfl, ho2, hst2, hcase⟩
  have hN2 := HN1.out.move h0 ho2 hst2
  have HN2 : Hid (NdSt w w2 rb A cap bs ((at' + 1 : Nat) : Int) (64 - (k : Int) - 1) (er : Int) 0 0 ⟨#[]⟩ (.slice none 0 0)) := hN2
  clear HN1 hst2 ho2 c0 c1 c2 c3 g1 g2 g3 hy
  have hne : ¬ bs.length < at' + 1 := fun hq => by have := congrArg List.length hxz; simp at this; omega
  obtain ⟨hs, hv, rfl⟩ : at' + 1 ≤ bs.length ∧ v = unBe ((bs.drop at').take 1) ∧ er = 0 := by rcases hcase with ⟨h1, _⟩ | h; exact absurd h1 hne; exact h
  have hzs : bs.drop (at' + 1) = zs := by rw [← List.drop_drop, hxz]; rfl
  have hv2 : v = x.toNat := by rw [hv, hxz]; simp [unBe]
  have HK0 : Hid (tk (f + 1) k (bs.drop at') = tkH (tk f) x.toNat (k + 1) zs) := by show _ = _; rw [hxz, tk, if_neg (by omega)]
  have Hzs : Hid (bs.drop (at' + 1) = zs) := hzs
  subst hv2
  clear hv hzs hxz hcase hne
  generalize x.toNat = h at *
  have HN3 : Hid (NdSt w (w2.setCell ⟨w.heap.size + 1, 0, none⟩ (.int .i64 (h : Int))) rb A cap bs ((at' + 1 : Nat) : Int) (64 - (k : Int) - 1) 0 (h : Int) 0 ⟨#[]⟩ (.slice none 0 0)) := HN2.out.kind h0 _
  obtain ⟨_, ⟨_, c0, c1, c2, c3, g1, g2, g3⟩, t0, t1, t2, t3, tf, _, _, _, _, _, sz⟩ := hN2
  have tf0 := tf 0
  clear tf HN2
  subst hx
  · have HK : Hid (tk (f + 1) k (bs.drop at') = aboveR (tk f) 4 1 (k + 1) zs) := by show _ = _; rw [HK0.out, tkH, if_neg (by decide), if_neg (by decide), if_pos (by decide)]; rfl
    go_wp2_with fail
    clear c0 c1 c2 c3 g1 g2 g3 t0 t1 t2 t3 tf0
    go_loopw [8] (fun iv wr => RkRel w f rb A cap bs 4 1 k zs iv wr) (fun iv _ => 1 - (intOf iv).toNat)
    case atStart =>
      refine .inl ⟨[], k + 1, at' + 1, .slice none 0 0, rfl, by simp, by omega, by omega, ?_, ?_, World.ownsRow_nil _ _ _ _, by simp⟩
      · rw [Hzs.out]; show kidsG (tk f) 1 (k + 1) zs = addK [] (kidsG (tk f) (1 - 0) (k + 1) zs)
        rw [Nat.sub_zero]; cases kidsG (tk f) 1 (k + 1) zs <;> rfl
      · have := HN3.out; rwa [show (64 : Int) - (k : Int) - 1 = 64 - ((k + 1 : Nat) : Int) from by omega] at this
    case round =>
      clear HN3
      rcases hrel with ⟨ks, k', at2, kv, rfl, hks, hk', hat2, hrun, hN, hown, hoks⟩ | ⟨i, er, at2, left, K, len, cc, rfl, hic, her1, her4, hrun, hN⟩
      · have HRUN : Hid (kidsG (tk f) 1 (k + 1) zs = addK ks (kidsG (tk f) (1 - ks.length) k' (bs.drop at2))) := hrun
        have HN4 : Hid (NdSt w wr rb A cap bs (at2 : Int) (64 - (k' : Int)) 0 4 0 ⟨#[]⟩ kv) := hN
        have HOW : Hid (wr.ownsRow (w.heap.size + 2) 24 4 kv ks.length (rowOf ks)) := hown
        have HKS : Hid (∀ q ∈ ks, q.Ok wr (fun b => w.heap.size + 2 ≤ b ∧ b < wr.heap.size ∧ kv.ownBlock ≠ some b)) := hoks
        obtain ⟨K, cc, rfl⟩ := owns_slice hown
        have hbk := hown.lt
        clear hrun hown hoks
        obtain ⟨_, ⟨_, c0, c1, c2, c3, _, _, _⟩, t0, t1, t2, t3, tf, r0, r1, r2, r3, rf, sz⟩ := hN
        have szr : w.heap.size < wr.heap.size := by omega
        by_cases hlt : ks.length < 1
        · have hlt' : decide ((ks.length : Int) < 1) = true := by simp; omega
          have tf3 := tf 3
          clear tf rf
          have N1 : Hid (Calls Tryz.prog 84 #[.pointer (some ⟨rb, 0, none⟩), .int .i64 (dz + 1)] wr.drew fun e w' => RfEnd wr.drew rb A cap bs (tk f k' (bs.drop at2)) e w') :=
            ih wr.drew rb A cap bs at2 k' B (dz + 1) (by have := HDZ.out; omega) (HN4.out.st.keep (Below.drew (Below.refl _ _))) (HY.out _ HN4.out.only.drew) hB hk' hat2 hl hlc hcm
          go_wp2_with fail
          clear c0 c1 c2 c3 t0 t1 t2 r0 r1 r2 r3
          refine wp_region_until (S := fun w' => w'.cell? ⟨w.heap.size + 1, 3, none⟩ = some (.slice K ks.length cc)) (j := 7) (by kernel_rfl) ?_
          refine wpAnyU_pure (i := 0) (oi := { dst := some 161, op := Op.fieldAddr 24 (Operand.tmp 5) 3, type := 0, pos := "ref.go:101", after := #[], guard := none }) (v := ?v0) rfl (by kernel_rfl) (by kernel_rfl) (by kernel_rfl) (by decide) (fun _ _ _ h => h) (Or.inl ⟨by rfl, ?y0⟩) (fun _ => t3) ?r0
          case y0 => (intro w _; go_simp <;> with_reducible rfl)
          try simp only [Act.put, List.setIfInBounds_toArray, List.set_cons_zero, List.set_cons_succ]
          refine wpAnyU_pure (i := 2) (oi := { dst := some 163, op := Op.move (Operand.tmp 0), type := 104, pos := "ref.go:101", after := #[], guard := none }) (v := ?v2) rfl (by kernel_rfl) (by kernel_rfl) (by kernel_rfl) (by decide) (fun _ _ _ h => h) (Or.inl ⟨by rfl, ?y2⟩) (fun _ => t3) ?r2
          case y2 => (intro w _; go_simp <;> with_reducible rfl)
          try simp only [Act.put, List.setIfInBounds_toArray, List.set_cons_zero, List.set_cons_succ]
          refine wpAnyU_pure (i := 3) (oi := { dst := some 164, op := Op.move (Operand.tmp 1), type := 3, pos := "ref.go:101", after := #[], guard := none }) (v := ?v3) rfl (by kernel_rfl) (by kernel_rfl) (by kernel_rfl) (by decide) (fun _ _ _ h => h) (Or.inl ⟨by rfl, ?y3⟩) (fun _ => t3) ?r3
          case y3 => (intro w _; go_simp <;> with_reducible rfl)
          try simp only [Act.put, List.setIfInBounds_toArray, List.set_cons_zero, List.set_cons_succ]
          refine wpAnyU_pure (i := 4) (oi := { dst := some 165, op := Op.binOp BinOp.add 3 (Operand.tmp 164) (Operand.const (Value.int IntKind.i64 1)) 3, type := 3, pos := "ref.go:101", after := #[{ on := 3, ground := Ground.data }], guard := none }) (v := ?v4) rfl (by kernel_rfl) (by kernel_rfl) (by kernel_rfl) (by decide) (fun _ _ _ h => h) (Or.inl ⟨by rfl, ?y4⟩) (fun _ => t3) ?r4
          case y4 => (intro w _; go_simp <;> with_reducible rfl)
          try simp only [Act.put, List.setIfInBounds_toArray, List.set_cons_zero, List.set_cons_succ]
          refine wpAnyU_load (i := 1) (oi := { dst := some 162, op := Op.load 22 (Operand.tmp 161), type := 22, pos := "ref.go:101", after := #[{ on := 0, ground := Ground.data }], guard := none }) (oj := { dst := some 168, op := Op.call { callee := Callee.builtin Builtin.append, args := #[Operand.tmp 162, Operand.tmp 167], argTypes := #[22, 22] }, type := 22, pos := "ref.go:101", after := #[{ on := 1, ground := Ground.data }, { on := 6, ground := Ground.data }, { on := 5, ground := Ground.chain }], guard := none }) (v := ?v1) rfl rfl (by kernel_rfl) (by kernel_rfl) (by kernel_rfl) (by decide) (by kernel_rfl) (by kernel_rfl) (fun _ _ _ h => h) (Or.inl ⟨by rfl, ?y1⟩) t3 ?r1
          case y1 => (intro w hSw; (try dsimp only at hSw); go_simp <;> with_reducible rfl)
          try simp only [Act.put, List.setIfInBounds_toArray, List.set_cons_zero, List.set_cons_succ]
          refine wpAnyU_one (i := 5) (o := { dst := some 166, op := Op.call { callee := Callee.value (Operand.func 84), args := #[Operand.tmp 163, Operand.tmp 165], argTypes := #[104, 3] }, type := 24, pos := "ref.go:101", after := #[{ on := 2, ground := Ground.data }, { on := 4, ground := Ground.data }], guard := none }) (by kernel_rfl) rfl (fun K' hK => ?_)
          go_simp
          rw [wrap_in _ (by omega) (by omega)]
          refine (N1.out).mono ?_
          clear N1
          rintro e w5 hE
          obtain ⟨k0, n0, s0, K0, len0, c9, rfl, ho5, hcase⟩ := rf_end_any hE
          have HC : Hid _ := hcase
          clear hE hcase
          have t35 : w5.cell? ⟨w.heap.size + 1, 3, none⟩ = some (.slice K ks.length cc) := (ho5.cell (by show w.heap.size + 1 < wr.heap.size; omega) (by simp; omega)).trans t3
          have tf5 : w5.frozen? ⟨w.heap.size + 1, 3, none⟩ = false := (ho5.frozen (by show w.heap.size + 1 < wr.heap.size; omega) (by simp; omega)).trans tf3
          have sz5 : wr.heap.size ≤ w5.heap.size := ho5.size
          go_wp2_with fail
          refine hK.out _ _ (fun _ => t35) ?_
          clear hK K'
          try simp only [Act.put, List.setIfInBounds_toArray, List.set_cons_zero, List.set_cons_succ]
          refine wpAnyU_one (i := 6) (o := { dst := some 167, op := Op.buildSlice 22 1 #[(0, Operand.tmp 166)], type := 22, pos := "ref.go:101", after := #[{ on := 5, ground := Ground.data }], guard := none }) (by kernel_rfl) rfl (fun K' hK => ?_)
          go_wp2_with fail
          refine hK.out _ _ (fun _ => by rw [World.cell?_alloc_lt _ _ _ (by show w.heap.size + 1 < w5.heap.size; omega)]; exact t35) ?_
          clear hK K'
          try simp only [Act.put, List.setIfInBounds_toArray, List.set_cons_zero, List.set_cons_succ]
          refine wpAnyU_one (i := 7) (o := { dst := some 168, op := Op.call { callee := Callee.builtin Builtin.append, args := #[Operand.tmp 162, Operand.tmp 167], argTypes := #[22, 22] }, type := 22, pos := "ref.go:101", after := #[{ on := 1, ground := Ground.data }, { on := 6, ground := Ground.data }, { on := 5, ground := Ground.chain }], guard := none }) (by kernel_rfl) rfl (fun K' hK => ?_)
          refine step_append_any _ (by rfl) _ _ 22 (by rfl) (w.heap.size + 2) 24 i5 (.agg #[.int .i64 0, .int .i64 0, .string ⟨#[]⟩, .slice none 0 0]) 4 56 Tryz.underlying22 hi hz0 hz1 hz2 rfl (by decide) (.slice K ks.length cc) ks.length (rowOf ks) (by rfl) ?own (some ⟨w5.heap.size, 0, none⟩) 1 1 [.int .i64 k0, .int .i64 n0, .string s0, .slice K0 len0 c9] (by rfl) ?src ?c3 ?c4 ?c5 ?_
          case own => exact (owns_of HOW.out (fun q hq => ho5.block q (by have := hbk q hq; show q < wr.heap.size; omega) (by have := hbk q hq; omega))).alloc _
          case src => exact .inr ⟨_, rfl, rfl, World.news_of_block (t := 24) (fr := (0, 0)) (heap_alloc_new w5 _), by simp [Value.oneCell']⟩
          case c3 => unfold maxLen; omega
          case c4 => omega
          case c5 => simp; omega
          intro v7 w7 hown7 hgrow7 hat7
          have hs7 := hgrow7.size
          simp only [World.heap_size_alloc'] at hs7 hat7
          have hg57 : w5.grownBy w7 (Value.slice K ks.length cc).ownBlock := ⟨hgrow7.os, hgrow7.tape, hgrow7.output, by omega, fun q hq hne => by rw [hgrow7.block q (by simp; omega) hne, Below.heap_alloc _ _ _ hq]⟩
          have hT7 : w7.heap[w.heap.size + 1]? = w5.heap[w.heap.size + 1]? := hg57.block _ (by omega) (fun e => by have := hbk _ e.symm; omega)
          have t37 : w7.cell? ⟨w.heap.size + 1, 3, none⟩ = some (.slice K ks.length cc) := (World.cell?_of_block hT7).trans t35
          have tf7 : w7.frozen? ⟨w.heap.size + 1, 3, none⟩ = false := (World.frozen?_of_block hT7).trans tf5
          have sz7 : w.heap.size + 1 < w7.heap.size := by omega
          obtain ⟨K7, cc7, rfl⟩ := owns_slice hown7
          have O7 : Hid (w7.ownsRow (w.heap.size + 2) 24 4 (.slice K7 (ks.length + 1) cc7) (ks.length + 1) (rowOf ks ++ [.int .i64 k0, .int .i64 n0, .string s0, .slice K0 len0 c9])) := hown7
          have HAT : Hid ((Value.slice K7 (ks.length + 1) cc7).ownBlock = (Value.slice K ks.length cc).ownBlock ∨ ∃ q, (Value.slice K7 (ks.length + 1) cc7).ownBlock = some q ∧ w5.heap.size ≤ q) := by
            rcases hat7 with h | h
            · exact .inl h
            · exact .inr ⟨_, h, by omega⟩
          clear hown7 hat7 hgrow7 t3 t35 tf5 tf3
          refine hK.out _ _ (fun h => not_until (by kernel_rfl) h) ?_
          clear hK K'
          try simp only [Act.put, List.setIfInBounds_toArray, List.set_cons_zero, List.set_cons_succ]
          refine wpAnyU_pure (i := 8) (oi := { dst := some 169, op := Op.fieldAddr 24 (Operand.tmp 5) 3, type := 0, pos := "ref.go:101", after := #[{ on := 0, ground := Ground.phase }, { on := 1, ground := Ground.phase }, { on := 2, ground := Ground.phase }, { on := 3, ground := Ground.phase }, { on := 4, ground := Ground.phase }, { on := 5, ground := Ground.phase }, { on := 6, ground := Ground.phase }, { on := 7, ground := Ground.phase }], guard := none }) (v := ?v8) rfl (by kernel_rfl) (by kernel_rfl) (by kernel_rfl) (by decide) (fun _ _ _ h => h) (Or.inl ⟨by rfl, ?y8⟩) (fun h => not_until (by kernel_rfl) h) ?r8
          case y8 => (intro w _; go_simp <;> with_reducible rfl)
          try simp only [Act.put, List.setIfInBounds_toArray, List.set_cons_zero, List.set_cons_succ]
          refine wpAnyU_one (i := 9) (o := { dst := none, op := Op.store 22 (Operand.tmp 169) (Operand.tmp 168), type := 0, pos := "ref.go:101", after := #[{ on := 8, ground := Ground.data }, { on := 7, ground := Ground.data }, { on := 7, ground := Ground.chain }, { on := 0, ground := Ground.phase }, { on := 1, ground := Ground.phase }, { on := 2, ground := Ground.phase }, { on := 3, ground := Ground.phase }, { on := 4, ground := Ground.phase }, { on := 5, ground := Ground.phase }, { on := 6, ground := Ground.phase }, { on := 7, ground := Ground.phase }], guard := none }) (by kernel_rfl) rfl (fun K' hK => ?_)
          refine step_store (by rfl) 22 _ _ (by rfl) ⟨w.heap.size + 1, 3, none⟩ K7 (ks.length + 1) cc7 (by rfl) (by rfl) _ t37 tf7 sizeOf_terms ?_
          refine hK.out _ _ (fun h => not_until (by kernel_rfl) h) ?_
          clear hK K'
          try simp only [Act.put, List.setIfInBounds_toArray, List.set_cons_zero, List.set_cons_succ]
          refine wpAnyU_done (by kernel_rfl) ?_ _
          clear t37 tf7
          go_wp2_with fail
          go_roundw
          case rel => exact rk_next h0 hf hk' hlt HRUN.out HN4.out HKS.out hbk ho5 HC.out O7.out hg57 HAT.out
          case measure => simp [intOf]; omega
        · have hlt' : decide ((ks.length : Int) < 1) = false := by simp; omega
          have hkc : ks.length = 1 := by omega
          have rf0 := rf 0
          have rf1 := rf 1
          have rf2 := rf 2
          have rf3 := rf 3
          clear tf rf
          have HT2 : Hid (tk (f + 1) k (bs.drop at') = .ok (ndK 4, foOf ks .nil, k', bs.drop at2)) := by
            show _ = _
            rw [HK.out, aboveR, HRUN.out, hkc, Nat.sub_self, kidsG]; rfl
          have HKC : Hid (ks.length = 1) := hkc
          clear hkc
          go_wp2_with fail
          refine bodyPost_ret (v := .agg #[.int .i64 4, .int .i64 0, .string ⟨#[]⟩, .slice K ks.length cc]) (by simp [results, Tryz.results84, go_sem, r0, r1, r2, r3]) rfl ?_
          have hfin := HN4.out.done h0
          refine rf_ok (at' := at2) HT2.out (hfin _ _ _ _).1 (hfin _ _ _ _).2 hat2 rfl ?_
          have hown := HOW.out
          rcases hown.2 with ⟨_, hz0⟩ | ⟨g, gcap, cur, hgv, hg1, hg2, _⟩
          · have := HKC.out; omega
          · injection hgv with hgK _ hgc
            have hg3 := hown.lt g (by rw [hgK]; rfl)
            refine ⟨fit_leaf 4 0 _ (by omega) (by omega) (by decide), K, cc, g, 0, by rw [flen_foOf]; rfl, by rw [flen_foOf]; omega, .inr hgK, ?_⟩
            refine RepG.keep (S := fun b => w.heap.size + 2 ≤ b ∧ b < wr.heap.size) (fun b hb => ⟨by omega, by rw [size_set4']; exact hb.2⟩) (fun b o hb => cell_set4 _ _ _ _ _ _ _ _ (by omega)) ?_
            exact rep_of_row ⟨hg1, hg3.2⟩ ks 0 (fun q hq => (HKS.out q hq).keep (fun b hb => ⟨hb.1, hb.2.1⟩) (fun _ _ _ => rfl)) (fun j hj => by rw [Nat.zero_add]; have := World.ownsRow.cellAt (hgK ▸ hown) j (by omega); exact this)
      · have HT2 : Hid (tk (f + 1) k (bs.drop at') = .error er) := by show _ = _; rw [HK.out, aboveR, hrun]
        have HN4 : Hid (NdSt w wr rb A cap bs at2 left (er : Int) 4 0 ⟨#[]⟩ (.slice K len cc)) := hN
        obtain ⟨_, ⟨_, c0, c1, c2, c3, _, _, _⟩, t0, t1, t2, t3, tf, r0, r1, r2, r3, rf, sz⟩ := hN
        have rf0 := rf 0
        have rf1 := rf 1
        have rf2 := rf 2
        have rf3 := rf 3
        have szr : w.heap.size < wr.heap.size := by omega
        have hez : ((er : Int) == 0) = false := by simp; omega
        clear tf rf hrun
        by_cases hlt : i < 1
        · have hlt' : decide ((i : Int) < 1) = true := by simp; omega
          go_wp2_with fail
          refine bodyPost_ret (v := .agg #[.int .i64 4, .int .i64 0, .string ⟨#[]⟩, .slice K len cc]) (by simp [results, Tryz.results84, go_sem, r0, r1, r2, r3]) rfl ?_
          have hfin := HN4.out.done h0
          exact rf_err HT2.out (hfin _ _ _ _).1 (hfin _ _ _ _).2
        · have hlt' : decide ((i : Int) < 1) = false := by simp; omega
          go_wp2_with fail
          refine bodyPost_ret (v := .agg #[.int .i64 4, .int .i64 0, .string ⟨#[]⟩, .slice K len cc]) (by simp [results, Tryz.results84, go_sem, r0, r1, r2, r3]) rfl ?_
          have hfin := HN4.out.done h0
          exact rf_err HT2.out (hfin _ _ _ _).1 (hfin _ _ _ _).2

set_option maxRecDepth 100000 in
set_option maxHeartbeats 4000000 in
theorem rnode_kids5 (f : Nat) (hf : f ≤ 15) (ih : RNodeOk f) (w : World) (rb : Nat) (A : Option Addr) (cap : Nat) (bs : List UInt8) (at' k B : Nat) (dz : Int) (hdz : dz = 17 - ((f + 1 : Nat) : Int)) (hR : RfSt w rb A cap bs (at' : Int) (64 - (k : Int)) 0) (hy : ByAt w B A bs) (hB : B ≤ rb) (hk : k ≤ 64) (ha : at' ≤ bs.length) (hl : bs.length ≤ 100000) (hlc : bs.length ≤ cap) (hcm : cap ≤ maxLen)
    (x : UInt8) (zs : List UInt8) (hxz : bs.drop at' = x :: zs) (hx : x.toNat = 5) :
    Calls Tryz.prog 84 #[.pointer (some ⟨rb, 0, none⟩), .int .i64 dz] w fun e w' => RfEnd w rb A cap bs (tk (f + 1) k (bs.drop at')) e w' := by
  obtain ⟨i5, hi, hz0, hz1, hz2⟩ := info_has Tryz.infoTerm2
  by_cases hk1 : 64 ≤ k
  · exact rnode_big (f + 1) w rb A cap bs at' k dz hR (by omega) hk (.inl hk1) _ (by cases bs.drop at' <;> rw [tk, if_pos (by omega)])
  have HDZ : Hid (dz = 16 - (f : Int)) := by show dz = _; omega
  have hd0 : 0 ≤ dz := by omega
  have hd1 : dz ≤ 16 := by omega
  clear hdz
  have h0 := hR.lt
  have HN1 : Hid (NdSt w (((w.setCell ⟨rb, 2, none⟩ (.int .i64 (64 - (k : Int) - 1))).alloc (.cells #[.int .i64 0, .int .i64 0, .string ⟨#[]⟩, .slice none 0 0] 24)).alloc (.cells #[.int .i64 0, .int .i64 0, .string ⟨#[]⟩, .slice none 0 0] 24)) rb A cap bs (at' : Int) (64 - (k : Int) - 1) 0 0 0 ⟨#[]⟩ (.slice none 0 0)) := NdSt.first w hR _
  have HY : Hid (∀ w', Only rb w w' → ByAt w' B A bs) := fun w' ho => hy.keep (Nat.le_refl _) (fun b o hb => ho.cell (by simp; omega) (by simp; omega))
  obtain ⟨_, c0, c1, c2, c3, g1, g2, g3⟩ := hR
  have hk2 : decide (64 - (k : Int) < 1) = false := by simp; omega
  have hk3 : decide (16 < dz) = false := by simp; omega
  go_enter Tryz.func84, Tryz.ntmps84
  go_wp2_with fail
  refine (rfnum_any _ rb A cap bs at' 1 B (64 - (k : Int) - 1) 1 rfl HN1.out.st (HY.out _ HN1.out.only) hB (by omega) (by omega) hl (by omega)).mono ?_
  rintro e w2 ⟨v, er, rfl, ho2, hst2, hcase⟩
  have hN2 := HN1.out.move h0 ho2 hst2
  have HN2 : Hid (NdSt w w2 rb A cap bs ((at' + 1 : Nat) : Int) (64 - (k : Int) - 1) (er : Int) 0 0 ⟨#[]⟩ (.slice none 0 0)) := hN2
  clear HN1 hst2 ho2 c0 c1 c2 c3 g1 g2 g3 hy
  have hne : ¬ bs.length < at' + 1 := fun hq => by have := congrArg List.length hxz; simp at this; omega
  obtain ⟨hs, hv, rfl⟩ : at' + 1 ≤ bs.length ∧ v = unBe ((bs.drop at').take 1) ∧ er = 0 := by rcases hcase with ⟨h1, _⟩ | h; exact absurd h1 hne; exact h
  have hzs : bs.drop (at' + 1) = zs := by rw [← List.drop_drop, hxz]; rfl
  have hv2 : v = x.toNat := by rw [hv, hxz]; simp [unBe]
  have HK0 : Hid (tk (f + 1) k (bs.drop at') = tkH (tk f) x.toNat (k + 1) zs) := by show _ = _; rw [hxz, tk, if_neg (by omega)]
  have Hzs : Hid (bs.drop (at' + 1) = zs) := hzs
  subst hv2
  clear hv hzs hxz hcase hne
  generalize x.toNat = h at *
  have HN3 : Hid (NdSt w (w2.setCell ⟨w.heap.size + 1, 0, none⟩ (.int .i64 (h : Int))) rb A cap bs ((at' + 1 : Nat) : Int) (64 - (k : Int) - 1) 0 (h : Int) 0 ⟨#[]⟩ (.slice none 0 0)) := HN2.out.kind h0 _
  obtain ⟨_, ⟨_, c0, c1, c2, c3, g1, g2, g3⟩, t0, t1, t2, t3, tf, _, _, _, _, _, sz⟩ := hN2
  have tf0 := tf 0
  clear tf HN2
  subst hx
  · have HK : Hid (tk (f + 1) k (bs.drop at') = aboveR (tk f) 5 2 (k + 1) zs) := by show _ = _; rw [HK0.out, tkH, if_neg (by decide), if_neg (by decide), if_neg (by decide), if_pos (by decide)]; rfl
    go_wp2_with fail
    clear c0 c1 c2 c3 g1 g2 g3 t0 t1 t2 t3 tf0
    go_loopw [8] (fun iv wr => RkRel w f rb A cap bs 5 2 k zs iv wr) (fun iv _ => 2 - (intOf iv).toNat)
    case atStart =>
      refine .inl ⟨[], k + 1, at' + 1, .slice none 0 0, rfl, by simp, by omega, by omega, ?_, ?_, World.ownsRow_nil _ _ _ _, by simp⟩
      · rw [Hzs.out]; show kidsG (tk f) 2 (k + 1) zs = addK [] (kidsG (tk f) (2 - 0) (k + 1) zs)
        rw [Nat.sub_zero]; cases kidsG (tk f) 2 (k + 1) zs <;> rfl
      · have := HN3.out; rwa [show (64 : Int) - (k : Int) - 1 = 64 - ((k + 1 : Nat) : Int) from by omega] at this
    case round =>
      clear HN3
      rcases hrel with ⟨ks, k', at2, kv, rfl, hks, hk', hat2, hrun, hN, hown, hoks⟩ | ⟨i, er, at2, left, K, len, cc, rfl, hic, her1, her4, hrun, hN⟩
      · have HRUN : Hid (kidsG (tk f) 2 (k + 1) zs = addK ks (kidsG (tk f) (2 - ks.length) k' (bs.drop at2))) := hrun
        have HN4 : Hid (NdSt w wr rb A cap bs (at2 : Int) (64 - (k' : Int)) 0 5 0 ⟨#[]⟩ kv) := hN
        have HOW : Hid (wr.ownsRow (w.heap.size + 2) 24 4 kv ks.length (rowOf ks)) := hown
        have HKS : Hid (∀ q ∈ ks, q.Ok wr (fun b => w.heap.size + 2 ≤ b ∧ b < wr.heap.size ∧ kv.ownBlock ≠ some b)) := hoks
        obtain ⟨K, cc, rfl⟩ := owns_slice hown
        have hbk := hown.lt
        clear hrun hown hoks
        obtain ⟨_, ⟨_, c0, c1, c2, c3, _, _, _⟩, t0, t1, t2, t3, tf, r0, r1, r2, r3, rf, sz⟩ := hN
        have szr : w.heap.size < wr.heap.size := by omega
        by_cases hlt : ks.length < 2
        · have hlt' : decide ((ks.length : Int) < 2) = true := by simp; omega
          have tf3 := tf 3
          clear tf rf
          have N1 : Hid (Calls Tryz.prog 84 #[.pointer (some ⟨rb, 0, none⟩), .int .i64 (dz + 1)] wr.drew fun e w' => RfEnd wr.drew rb A cap bs (tk f k' (bs.drop at2)) e w') :=
            ih wr.drew rb A cap bs at2 k' B (dz + 1) (by have := HDZ.out; omega) (HN4.out.st.keep (Below.drew (Below.refl _ _))) (HY.out _ HN4.out.only.drew) hB hk' hat2 hl hlc hcm
          go_wp2_with fail
          clear c0 c1 c2 c3 t0 t1 t2 r0 r1 r2 r3
          refine wp_region_until (S := fun w' => w'.cell? ⟨w.heap.size + 1, 3, none⟩ = some (.slice K ks.length cc)) (j := 7) (by kernel_rfl) ?_
          refine wpAnyU_pure (i := 0) (oi := { dst := some 161, op := Op.fieldAddr 24 (Operand.tmp 5) 3, type := 0, pos := "ref.go:101", after := #[], guard := none }) (v := ?v0) rfl (by kernel_rfl) (by kernel_rfl) (by kernel_rfl) (by decide) (fun _ _ _ h => h) (Or.inl ⟨by rfl, ?y0⟩) (fun _ => t3) ?r0
          case y0 => (intro w _; go_simp <;> with_reducible rfl)
          try simp only [Act.put, List.setIfInBounds_toArray, List.set_cons_zero, List.set_cons_succ]
          refine wpAnyU_pure (i := 2) (oi := { dst := some 163, op := Op.move (Operand.tmp 0), type := 104, pos := "ref.go:101", after := #[], guard := none }) (v := ?v2) rfl (by kernel_rfl) (by kernel_rfl) (by kernel_rfl) (by decide) (fun _ _ _ h => h) (Or.inl ⟨by rfl, ?y2⟩) (fun _ => t3) ?r2
          case y2 => (intro w _; go_simp <;> with_reducible rfl)
          try simp only [Act.put, List.setIfInBounds_toArray, List.set_cons_zero, List.set_cons_succ]
          refine wpAnyU_pure (i := 3) (oi := { dst := some 164, op := Op.move (Operand.tmp 1), type := 3, pos := "ref.go:101", after := #[], guard := none }) (v := ?v3) rfl (by kernel_rfl) (by kernel_rfl) (by kernel_rfl) (by decide) (fun _ _ _ h => h) (Or.inl ⟨by rfl, ?y3⟩) (fun _ => t3) ?r3
          case y3 => (intro w _; go_simp <;> with_reducible rfl)
          try simp only [Act.put, List.setIfInBounds_toArray, List.set_cons_zero, List.set_cons_succ]
          refine wpAnyU_pure (i := 4) (oi := { dst := some 165, op := Op.binOp BinOp.add 3 (Operand.tmp 164) (Operand.const (Value.int IntKind.i64 1)) 3, type := 3, pos := "ref.go:101", after := #[{ on := 3, ground := Ground.data }], guard := none }) (v := ?v4) rfl (by kernel_rfl) (by kernel_rfl) (by kernel_rfl) (by decide) (fun _ _ _ h => h) (Or.inl ⟨by rfl, ?y4⟩) (fun _ => t3) ?r4
          case y4 => (intro w _; go_simp <;> with_reducible rfl)
          try simp only [Act.put, List.setIfInBounds_toArray, List.set_cons_zero, List.set_cons_succ]
          refine wpAnyU_load (i := 1) (oi := { dst := some 162, op := Op.load 22 (Operand.tmp 161), type := 22, pos := "ref.go:101", after := #[{ on := 0, ground := Ground.data }], guard := none }) (oj := { dst := some 168, op := Op.call { callee := Callee.builtin Builtin.append, args := #[Operand.tmp 162, Operand.tmp 167], argTypes := #[22, 22] }, type := 22, pos := "ref.go:101", after := #[{ on := 1, ground := Ground.data }, { on := 6, ground := Ground.data }, { on := 5, ground := Ground.chain }], guard := none }) (v := ?v1) rfl rfl (by kernel_rfl) (by kernel_rfl) (by kernel_rfl) (by decide) (by kernel_rfl) (by kernel_rfl) (fun _ _ _ h => h) (Or.inl ⟨by rfl, ?y1⟩) t3 ?r1
          case y1 => (intro w hSw; (try dsimp only at hSw); go_simp <;> with_reducible rfl)
          try simp only [Act.put, List.setIfInBounds_toArray, List.set_cons_zero, List.set_cons_succ]
          refine wpAnyU_one (i := 5) (o := { dst := some 166, op := Op.call { callee := Callee.value (Operand.func 84), args := #[Operand.tmp 163, Operand.tmp 165], argTypes := #[104, 3] }, type := 24, pos := "ref.go:101", after := #[{ on := 2, ground := Ground.data }, { on := 4, ground := Ground.data }], guard := none }) (by kernel_rfl) rfl (fun K' hK => ?_)
          go_simp
          rw [wrap_in _ (by omega) (by omega)]
          refine (N1.out).mono ?_
          clear N1
          rintro e w5 hE
          obtain ⟨k0, n0, s0, K0, len0, c9, rfl, ho5, hcase⟩ := rf_end_any hE
          have HC : Hid _ := hcase
          clear hE hcase
          have t35 : w5.cell? ⟨w.heap.size + 1, 3, none⟩ = some (.slice K ks.length cc) := (ho5.cell (by show w.heap.size + 1 < wr.heap.size; omega) (by simp; omega)).trans t3
          have tf5 : w5.frozen? ⟨w.heap.size + 1, 3, none⟩ = false := (ho5.frozen (by show w.heap.size + 1 < wr.heap.size; omega) (by simp; omega)).trans tf3
          have sz5 : wr.heap.size ≤ w5.heap.size := ho5.size
          go_wp2_with fail
          refine hK.out _ _ (fun _ => t35) ?_
          clear hK K'
          try simp only [Act.put, List.setIfInBounds_toArray, List.set_cons_zero, List.set_cons_succ]
          refine wpAnyU_one (i := 6) (o := { dst := some 167, op := Op.buildSlice 22 1 #[(0, Operand.tmp 166)], type := 22, pos := "ref.go:101", after := #[{ on := 5, ground := Ground.data }], guard := none }) (by kernel_rfl) rfl (fun K' hK => ?_)
          go_wp2_with fail
          refine hK.out _ _ (fun _ => by rw [World.cell?_alloc_lt _ _ _ (by show w.heap.size + 1 < w5.heap.size; omega)]; exact t35) ?_
          clear hK K'
          try simp only [Act.put, List.setIfInBounds_toArray, List.set_cons_zero, List.set_cons_succ]
          refine wpAnyU_one (i := 7) (o := { dst := some 168, op := Op.call { callee := Callee.builtin Builtin.append, args := #[Operand.tmp 162, Operand.tmp 167], argTypes := #[22, 22] }, type := 22, pos := "ref.go:101", after := #[{ on := 1, ground := Ground.data }, { on := 6, ground := Ground.data }, { on := 5, ground := Ground.chain }], guard := none }) (by kernel_rfl) rfl (fun K' hK => ?_)
          refine step_append_any _ (by rfl) _ _ 22 (by rfl) (w.heap.size + 2) 24 i5 (.agg #[.int .i64 0, .int .i64 0, .string ⟨#[]⟩, .slice none 0 0]) 4 56 Tryz.underlying22 hi hz0 hz1 hz2 rfl (by decide) (.slice K ks.length cc) ks.length (rowOf ks) (by rfl) ?own (some ⟨w5.heap.size, 0, none⟩) 1 1 [.int .i64 k0, .int .i64 n0, .string s0, .slice K0 len0 c9] (by rfl) ?src ?c3 ?c4 ?c5 ?_
          case own => exact (owns_of HOW.out (fun q hq => ho5.block q (by have := hbk q hq; show q < wr.heap.size; omega) (by have := hbk q hq; omega))).alloc _
          case src => exact .inr ⟨_, rfl, rfl, World.news_of_block (t := 24) (fr := (0, 0)) (heap_alloc_new w5 _), by simp [Value.oneCell']⟩
          case c3 => unfold maxLen; omega
          case c4 => omega
          case c5 => simp; omega
          intro v7 w7 hown7 hgrow7 hat7
          have hs7 := hgrow7.size
          simp only [World.heap_size_alloc'] at hs7 hat7
          have hg57 : w5.grownBy w7 (Value.slice K ks.length cc).ownBlock := ⟨hgrow7.os, hgrow7.tape, hgrow7.output, by omega, fun q hq hne => by rw [hgrow7.block q (by simp; omega) hne, Below.heap_alloc _ _ _ hq]⟩
          have hT7 : w7.heap[w.heap.size + 1]? = w5.heap[w.heap.size + 1]? := hg57.block _ (by omega) (fun e => by have := hbk _ e.symm; omega)
          have t37 : w7.cell? ⟨w.heap.size + 1, 3, none⟩ = some (.slice K ks.length cc) := (World.cell?_of_block hT7).trans t35
          have tf7 : w7.frozen? ⟨w.heap.size + 1, 3, none⟩ = false := (World.frozen?_of_block hT7).trans tf5
          have sz7 : w.heap.size + 1 < w7.heap.size := by omega
          obtain ⟨K7, cc7, rfl⟩ := owns_slice hown7
          have O7 : Hid (w7.ownsRow (w.heap.size + 2) 24 4 (.slice K7 (ks.length + 1) cc7) (ks.length + 1) (rowOf ks ++ [.int .i64 k0, .int .i64 n0, .string s0, .slice K0 len0 c9])) := hown7
          have HAT : Hid ((Value.slice K7 (ks.length + 1) cc7).ownBlock = (Value.slice K ks.length cc).ownBlock ∨ ∃ q, (Value.slice K7 (ks.length + 1) cc7).ownBlock = some q ∧ w5.heap.size ≤ q) := by
            rcases hat7 with h | h
            · exact .inl h
            · exact .inr ⟨_, h, by omega⟩
          clear hown7 hat7 hgrow7 t3 t35 tf5 tf3
          refine hK.out _ _ (fun h => not_until (by kernel_rfl) h) ?_
          clear hK K'
          try simp only [Act.put, List.setIfInBounds_toArray, List.set_cons_zero, List.set_cons_succ]
          refine wpAnyU_pure (i := 8) (oi := { dst := some 169, op := Op.fieldAddr 24 (Operand.tmp 5) 3, type := 0, pos := "ref.go:101", after := #[{ on := 0, ground := Ground.phase }, { on := 1, ground := Ground.phase }, { on := 2, ground := Ground.phase }, { on := 3, ground := Ground.phase }, { on := 4, ground := Ground.phase }, { on := 5, ground := Ground.phase }, { on := 6, ground := Ground.phase }, { on := 7, ground := Ground.phase }], guard := none }) (v := ?v8) rfl (by kernel_rfl) (by kernel_rfl) (by kernel_rfl) (by decide) (fun _ _ _ h => h) (Or.inl ⟨by rfl, ?y8⟩) (fun h => not_until (by kernel_rfl) h) ?r8
          case y8 => (intro w _; go_simp <;> with_reducible rfl)
          try simp only [Act.put, List.setIfInBounds_toArray, List.set_cons_zero, List.set_cons_succ]
          refine wpAnyU_one (i := 9) (o := { dst := none, op := Op.store 22 (Operand.tmp 169) (Operand.tmp 168), type := 0, pos := "ref.go:101", after := #[{ on := 8, ground := Ground.data }, { on := 7, ground := Ground.data }, { on := 7, ground := Ground.chain }, { on := 0, ground := Ground.phase }, { on := 1, ground := Ground.phase }, { on := 2, ground := Ground.phase }, { on := 3, ground := Ground.phase }, { on := 4, ground := Ground.phase }, { on := 5, ground := Ground.phase }, { on := 6, ground := Ground.phase }, { on := 7, ground := Ground.phase }], guard := none }) (by kernel_rfl) rfl (fun K' hK => ?_)
          refine step_store (by rfl) 22 _ _ (by rfl) ⟨w.heap.size + 1, 3, none⟩ K7 (ks.length + 1) cc7 (by rfl) (by rfl) _ t37 tf7 sizeOf_terms ?_
          refine hK.out _ _ (fun h => not_until (by kernel_rfl) h) ?_
          clear hK K'
          try simp only [Act.put, List.setIfInBounds_toArray, List.set_cons_zero, List.set_cons_succ]
          refine wpAnyU_done (by kernel_rfl) ?_ _
          clear t37 tf7
          go_wp2_with fail
          go_roundw
          case rel => exact rk_next h0 hf hk' hlt HRUN.out HN4.out HKS.out hbk ho5 HC.out O7.out hg57 HAT.out
          case measure => simp [intOf]; omega
        · have hlt' : decide ((ks.length : Int) < 2) = false := by simp; omega
          have hkc : ks.length = 2 := by omega
          have rf0 := rf 0
          have rf1 := rf 1
          have rf2 := rf 2
          have rf3 := rf 3
          clear tf rf
          have HT2 : Hid (tk (f + 1) k (bs.drop at') = .ok (ndK 5, foOf ks .nil, k', bs.drop at2)) := by
            show _ = _
            rw [HK.out, aboveR, HRUN.out, hkc, Nat.sub_self, kidsG]; rfl
          have HKC : Hid (ks.length = 2) := hkc
          clear hkc
          go_wp2_with fail
          refine bodyPost_ret (v := .agg #[.int .i64 5, .int .i64 0, .string ⟨#[]⟩, .slice K ks.length cc]) (by simp [results, Tryz.results84, go_sem, r0, r1, r2, r3]) rfl ?_
          have hfin := HN4.out.done h0
          refine rf_ok (at' := at2) HT2.out (hfin _ _ _ _).1 (hfin _ _ _ _).2 hat2 rfl ?_
          have hown := HOW.out
          rcases hown.2 with ⟨_, hz0⟩ | ⟨g, gcap, cur, hgv, hg1, hg2, _⟩
          · have := HKC.out; omega
          · injection hgv with hgK _ hgc
            have hg3 := hown.lt g (by rw [hgK]; rfl)
            refine ⟨fit_leaf 5 0 _ (by omega) (by omega) (by decide), K, cc, g, 0, by rw [flen_foOf]; rfl, by rw [flen_foOf]; omega, .inr hgK, ?_⟩
            refine RepG.keep (S := fun b => w.heap.size + 2 ≤ b ∧ b < wr.heap.size) (fun b hb => ⟨by omega, by rw [size_set4']; exact hb.2⟩) (fun b o hb => cell_set4 _ _ _ _ _ _ _ _ (by omega)) ?_
            exact rep_of_row ⟨hg1, hg3.2⟩ ks 0 (fun q hq => (HKS.out q hq).keep (fun b hb => ⟨hb.1, hb.2.1⟩) (fun _ _ _ => rfl)) (fun j hj => by rw [Nat.zero_add]; have := World.ownsRow.cellAt (hgK ▸ hown) j (by omega); exact this)
      · have HT2 : Hid (tk (f + 1) k (bs.drop at') = .error er) := by show _ = _; rw [HK.out, aboveR, hrun]
        have HN4 : Hid (NdSt w wr rb A cap bs at2 left (er : Int) 5 0 ⟨#[]⟩ (.slice K len cc)) := hN
        obtain ⟨_, ⟨_, c0, c1, c2, c3, _, _, _⟩, t0, t1, t2, t3, tf, r0, r1, r2, r3, rf, sz⟩ := hN
        have rf0 := rf 0
        have rf1 := rf 1
        have rf2 := rf 2
        have rf3 := rf 3
        have szr : w.heap.size < wr.heap.size := by omega
        have hez : ((er : Int) == 0) = false := by simp; omega
        clear tf rf hrun
        by_cases hlt : i < 2
        · have hlt' : decide ((i : Int) < 2) = true := by simp; omega
          go_wp2_with fail
          refine bodyPost_ret (v := .agg #[.int .i64 5, .int .i64 0, .string ⟨#[]⟩, .slice K len cc]) (by simp [results, Tryz.results84, go_sem, r0, r1, r2, r3]) rfl ?_
          have hfin := HN4.out.done h0
          exact rf_err HT2.out (hfin _ _ _ _).1 (hfin _ _ _ _).2
        · have hlt' : decide ((i : Int) < 2) = false := by simp; omega
          go_wp2_with fail
          refine bodyPost_ret (v := .agg #[.int .i64 5, .int .i64 0, .string ⟨#[]⟩, .slice K len cc]) (by simp [results, Tryz.results84, go_sem, r0, r1, r2, r3]) rfl ?_
          have hfin := HN4.out.done h0
          exact rf_err HT2.out (hfin _ _ _ _).1 (hfin _ _ _ _).2

set_option maxRecDepth 100000 in
set_option maxHeartbeats 4000000 in
theorem rnode_kids6 (f : Nat) (hf : f ≤ 15) (ih : RNodeOk f) (w : World) (rb : Nat) (A : Option Addr) (cap : Nat) (bs : List UInt8) (at' k B : Nat) (dz : Int) (hdz : dz = 17 - ((f + 1 : Nat) : Int)) (hR : RfSt w rb A cap bs (at' : Int) (64 - (k : Int)) 0) (hy : ByAt w B A bs) (hB : B ≤ rb) (hk : k ≤ 64) (ha : at' ≤ bs.length) (hl : bs.length ≤ 100000) (hlc : bs.length ≤ cap) (hcm : cap ≤ maxLen)
    (x : UInt8) (zs : List UInt8) (hxz : bs.drop at' = x :: zs) (hx : x.toNat = 6) :
    Calls Tryz.prog 84 #[.pointer (some ⟨rb, 0, none⟩), .int .i64 dz] w fun e w' => RfEnd w rb A cap bs (tk (f + 1) k (bs.drop at')) e w' := by
  obtain ⟨i5, hi, hz0, hz1, hz2⟩ := info_has Tryz.infoTerm2
  by_cases hk1 : 64 ≤ k
  · exact rnode_big (f + 1) w rb A cap bs at' k dz hR (by omega) hk (.inl hk1) _ (by cases bs.drop at' <;> rw [tk, if_pos (by omega)])
  have HDZ : Hid (dz = 16 - (f : Int)) := by show dz = _; omega
  have hd0 : 0 ≤ dz := by omega
  have hd1 : dz ≤ 16 := by omega
  clear hdz
  have h0 := hR.lt
  have HN1 : Hid (NdSt w (((w.setCell ⟨rb, 2, none⟩ (.int .i64 (64 - (k : Int) - 1))).alloc (.cells #[.int .i64 0, .int .i64 0, .string ⟨#[]⟩, .slice none 0 0] 24)).alloc (.cells #[.int .i64 0, .int .i64 0, .string ⟨#[]⟩, .slice none 0 0] 24)) rb A cap bs (at' : Int) (64 - (k : Int) - 1) 0 0 0 ⟨#[]⟩ (.slice none 0 0)) := NdSt.first w hR _
  have HY : Hid (∀ w', Only rb w w' → ByAt w' B A bs) := fun w' ho => hy.keep (Nat.le_refl _) (fun b o hb => ho.cell (by simp; omega) (by simp; omega))
  obtain ⟨_, c0, c1, c2, c3, g1, g2, g3⟩ := hR
  have hk2 : decide (64 - (k : Int) < 1) = false := by simp; omega
  have hk3 : decide (16 < dz) = false := by simp; omega
  go_enter Tryz.func84, Tryz.ntmps84
  go_wp2_with fail
  refine (rfnum_any _ rb A cap bs at' 1 B (64 - (k : Int) - 1) 1 rfl HN1.out.st (HY.out _ HN1.out.only) hB (by omega) (by omega) hl (by omega)).mono ?_
  rintro e w2 ⟨v, er, rfl, ho2, hst2, hcase⟩
  have hN2 := HN1.out.move h0 ho2 hst2
  have HN2 : Hid (NdSt w w2 rb A cap bs ((at' + 1 : Nat) : Int) (64 - (k : Int) - 1) (er : Int) 0 0 ⟨#[]⟩ (.slice none 0 0)) := hN2
  clear HN1 hst2 ho2 c0 c1 c2 c3 g1 g2 g3 hy
  have hne : ¬ bs.length < at' + 1 := fun hq => by have := congrArg List.length hxz; simp at this; omega
  obtain ⟨hs, hv, rfl⟩ : at' + 1 ≤ bs.length ∧ v = unBe ((bs.drop at').take 1) ∧ er = 0 := by rcases hcase with ⟨h1, _⟩ | h; exact absurd h1 hne; exact h
  have hzs : bs.drop (at' + 1) = zs := by rw [← List.drop_drop, hxz]; rfl
  have hv2 : v = x.toNat := by rw [hv, hxz]; simp [unBe]
  have HK0 : Hid (tk (f + 1) k (bs.drop at') = tkH (tk f) x.toNat (k + 1) zs) := by show _ = _; rw [hxz, tk, if_neg (by omega)]
  have Hzs : Hid (bs.drop (at' + 1) = zs) := hzs
  subst hv2
  clear hv hzs hxz hcase hne
  generalize x.toNat = h at *
  have HN3 : Hid (NdSt w (w2.setCell ⟨w.heap.size + 1, 0, none⟩ (.int .i64 (h : Int))) rb A cap bs ((at' + 1 : Nat) : Int) (64 - (k : Int) - 1) 0 (h : Int) 0 ⟨#[]⟩ (.slice none 0 0)) := HN2.out.kind h0 _
  obtain ⟨_, ⟨_, c0, c1, c2, c3, g1, g2, g3⟩, t0, t1, t2, t3, tf, _, _, _, _, _, sz⟩ := hN2
  have tf0 := tf 0
  clear tf HN2
  subst hx
  · have HK : Hid (tk (f + 1) k (bs.drop at') = aboveR (tk f) 6 2 (k + 1) zs) := by show _ = _; rw [HK0.out, tkH, if_neg (by decide), if_neg (by decide), if_neg (by decide), if_pos (by decide)]; rfl
    go_wp2_with fail
    clear c0 c1 c2 c3 g1 g2 g3 t0 t1 t2 t3 tf0
    go_loopw [8] (fun iv wr => RkRel w f rb A cap bs 6 2 k zs iv wr) (fun iv _ => 2 - (intOf iv).toNat)
    case atStart =>
      refine .inl ⟨[], k + 1, at' + 1, .slice none 0 0, rfl, by simp, by omega, by omega, ?_, ?_, World.ownsRow_nil _ _ _ _, by simp⟩
      · rw [Hzs.out]; show kidsG (tk f) 2 (k + 1) zs = addK [] (kidsG (tk f) (2 - 0) (k + 1) zs)
        rw [Nat.sub_zero]; cases kidsG (tk f) 2 (k + 1) zs <;> rfl
      · have := HN3.out; rwa [show (64 : Int) - (k : Int) - 1 = 64 - ((k + 1 : Nat) : Int) from by omega] at this
    case round =>
      clear HN3
      rcases hrel with ⟨ks, k', at2, kv, rfl, hks, hk', hat2, hrun, hN, hown, hoks⟩ | ⟨i, er, at2, left, K, len, cc, rfl, hic, her1, her4, hrun, hN⟩
      · have HRUN : Hid (kidsG (tk f) 2 (k + 1) zs = addK ks (kidsG (tk f) (2 - ks.length) k' (bs.drop at2))) := hrun
        have HN4 : Hid (NdSt w wr rb A cap bs (at2 : Int) (64 - (k' : Int)) 0 6 0 ⟨#[]⟩ kv) := hN
        have HOW : Hid (wr.ownsRow (w.heap.size + 2) 24 4 kv ks.length (rowOf ks)) := hown
        have HKS : Hid (∀ q ∈ ks, q.Ok wr (fun b => w.heap.size + 2 ≤ b ∧ b < wr.heap.size ∧ kv.ownBlock ≠ some b)) := hoks
        obtain ⟨K, cc, rfl⟩ := owns_slice hown
        have hbk := hown.lt
        clear hrun hown hoks
        obtain ⟨_, ⟨_, c0, c1, c2, c3, _, _, _⟩, t0, t1, t2, t3, tf, r0, r1, r2, r3, rf, sz⟩ := hN
        have szr : w.heap.size < wr.heap.size := by omega
        by_cases hlt : ks.length < 2
        · have hlt' : decide ((ks.length : Int) < 2) = true := by simp; omega
          have tf3 := tf 3
          clear tf rf
          have N1 : Hid (Calls Tryz.prog 84 #[.pointer (some ⟨rb, 0, none⟩), .int .i64 (dz + 1)] wr.drew fun e w' => RfEnd wr.drew rb A cap bs (tk f k' (bs.drop at2)) e w') :=
            ih wr.drew rb A cap bs at2 k' B (dz + 1) (by have := HDZ.out; omega) (HN4.out.st.keep (Below.drew (Below.refl _ _))) (HY.out _ HN4.out.only.drew) hB hk' hat2 hl hlc hcm
          go_wp2_with fail
          clear c0 c1 c2 c3 t0 t1 t2 r0 r1 r2 r3
          refine wp_region_until (S := fun w' => w'.cell? ⟨w.heap.size + 1, 3, none⟩ = some (.slice K ks.length cc)) (j := 7) (by kernel_rfl) ?_
          refine wpAnyU_pure (i := 0) (oi := { dst := some 161, op := Op.fieldAddr 24 (Operand.tmp 5) 3, type := 0, pos := "ref.go:101", after := #[], guard := none }) (v := ?v0) rfl (by kernel_rfl) (by kernel_rfl) (by kernel_rfl) (by decide) (fun _ _ _ h => h) (Or.inl ⟨by rfl, ?y0⟩) (fun _ => t3) ?r0
          case y0 => (intro w _; go_simp <;> with_reducible rfl)
          try simp only [Act.put, List.setIfInBounds_toArray, List.set_cons_zero, List.set_cons_succ]
          refine wpAnyU_pure (i := 2) (oi := { dst := some 163, op := Op.move (Operand.tmp 0), type := 104, pos := "ref.go:101", after := #[], guard := none }) (v := ?v2) rfl (by kernel_rfl) (by kernel_rfl) (by kernel_rfl) (by decide) (fun _ _ _ h => h) (Or.inl ⟨by rfl, ?y2⟩) (fun _ => t3) ?r2
          case y2 => (intro w _; go_simp <;> with_reducible rfl)
          try simp only [Act.put, List.setIfInBounds_toArray, List.set_cons_zero, List.set_cons_succ]
          refine wpAnyU_pure (i := 3) (oi := { dst := some 164, op := Op.move (Operand.tmp 1), type := 3, pos := "ref.go:101", after := #[], guard := none }) (v := ?v3) rfl (by kernel_rfl) (by kernel_rfl) (by kernel_rfl) (by decide) (fun _ _ _ h => h) (Or.inl ⟨by rfl, ?y3⟩) (fun _ => t3) ?r3
          case y3 => (intro w _; go_simp <;> with_reducible rfl)
          try simp only [Act.put, List.setIfInBounds_toArray, List.set_cons_zero, List.set_cons_succ]
          refine wpAnyU_pure (i := 4) (oi := { dst := some 165, op := Op.binOp BinOp.add 3 (Operand.tmp 164) (Operand.const (Value.int IntKind.i64 1)) 3, type := 3, pos := "ref.go:101", after := #[{ on := 3, ground := Ground.data }], guard := none }) (v := ?v4) rfl (by kernel_rfl) (by kernel_rfl) (by kernel_rfl) (by decide) (fun _ _ _ h => h) (Or.inl ⟨by rfl, ?y4⟩) (fun _ => t3) ?r4
          case y4 => (intro w _; go_simp <;> with_reducible rfl)
          try simp only [Act.put, List.setIfInBounds_toArray, List.set_cons_zero, List.set_cons_succ]
          refine wpAnyU_load (i := 1) (oi := { dst := some 162, op := Op.load 22 (Operand.tmp 161), type := 22, pos := "ref.go:101", after := #[{ on := 0, ground := Ground.data }], guard := none }) (oj := { dst := some 168, op := Op.call { callee := Callee.builtin Builtin.append, args := #[Operand.tmp 162, Operand.tmp 167], argTypes := #[22, 22] }, type := 22, pos := "ref.go:101", after := #[{ on := 1, ground := Ground.data }, { on := 6, ground := Ground.data }, { on := 5, ground := Ground.chain }], guard := none }) (v := ?v1) rfl rfl (by kernel_rfl) (by kernel_rfl) (by kernel_rfl) (by decide) (by kernel_rfl) (by kernel_rfl) (fun _ _ _ h => h) (Or.inl ⟨by rfl, ?y1⟩) t3 ?r1
          case y1 => (intro w hSw; (try dsimp only at hSw); go_simp <;> with_reducible rfl)
          try simp only [Act.put, List.setIfInBounds_toArray, List.set_cons_zero, List.set_cons_succ]
          refine wpAnyU_one (i := 5) (o := { dst := some 166, op := Op.call { callee := Callee.value (Operand.func 84), args := #[Operand.tmp 163, Operand.tmp 165], argTypes := #[104, 3] }, type := 24, pos := "ref.go:101", after := #[{ on := 2, ground := Ground.data }, { on := 4, ground := Ground.data }], guard := none }) (by kernel_rfl) rfl (fun K' hK => ?_)
          go_simp
          rw [wrap_in _ (by omega) (by omega)]
          refine (N1.out).mono ?_
          clear N1
          rintro e w5 hE
          obtain ⟨k0, n0, s0, K0, len0, c9, rfl, ho5, hcase⟩ := rf_end_any hE
          have HC : Hid _ := hcase
          clear hE hcase
          have t35 : w5.cell? ⟨w.heap.size + 1, 3, none⟩ = some (.slice K ks.length cc) := (ho5.cell (by show w.heap.size + 1 < wr.heap.size; omega) (by simp; omega)).trans t3
          have tf5 : w5.frozen? ⟨w.heap.size + 1, 3, none⟩ = false := (ho5.frozen (by show w.heap.size + 1 < wr.heap.size; omega) (by simp; omega)).trans tf3
          have sz5 : wr.heap.size ≤ w5.heap.size := ho5.size
          go_wp2_with fail
          refine hK.out _ _ (fun _ => t35) ?_
          clear hK K'
          try simp only [Act.put, List.setIfInBounds_toArray, List.set_cons_zero, List.set_cons_succ]
          refine wpAnyU_one (i := 6) (o := { dst := some 167, op := Op.buildSlice 22 1 #[(0, Operand.tmp 166)], type := 22, pos := "ref.go:101", after := #[{ on := 5, ground := Ground.data }], guard := none }) (by kernel_rfl) rfl (fun K' hK => ?_)
          go_wp2_with fail
          refine hK.out _ _ (fun _ => by rw [World.cell?_alloc_lt _ _ _ (by show w.heap.size + 1 < w5.heap.size; omega)]; exact t35) ?_
          clear hK K'
          try simp only [Act.put, List.setIfInBounds_toArray, List.set_cons_zero, List.set_cons_succ]
          refine wpAnyU_one (i := 7) (o := { dst := some 168, op := Op.call { callee := Callee.builtin Builtin.append, args := #[Operand.tmp 162, Operand.tmp 167], argTypes := #[22, 22] }, type := 22, pos := "ref.go:101", after := #[{ on := 1, ground := Ground.data }, { on := 6, ground := Ground.data }, { on := 5, ground := Ground.chain }], guard := none }) (by kernel_rfl) rfl (fun K' hK => ?_)
          refine step_append_any _ (by rfl) _ _ 22 (by rfl) (w.heap.size + 2) 24 i5 (.agg #[.int .i64 0, .int .i64 0, .string ⟨#[]⟩, .slice none 0 0]) 4 56 Tryz.underlying22 hi hz0 hz1 hz2 rfl (by decide) (.slice K ks.length cc) ks.length (rowOf ks) (by rfl) ?own (some ⟨w5.heap.size, 0, none⟩) 1 1 [.int .i64 k0, .int .i64 n0, .string s0, .slice K0 len0 c9] (by rfl) ?src ?c3 ?c4 ?c5 ?_
          case own => exact (owns_of HOW.out (fun q hq => ho5.block q (by have := hbk q hq; show q < wr.heap.size; omega) (by have := hbk q hq; omega))).alloc _
          case src => exact .inr ⟨_, rfl, rfl, World.news_of_block (t := 24) (fr := (0, 0)) (heap_alloc_new w5 _), by simp [Value.oneCell']⟩
          case c3 => unfold maxLen; omega
          case c4 => omega
          case c5 => simp; omega
          intro v7 w7 hown7 hgrow7 hat7
          have hs7 := hgrow7.size
          simp only [World.heap_size_alloc'] at hs7 hat7
          have hg57 : w5.grownBy w7 (Value.slice K ks.length cc).ownBlock := ⟨hgrow7.os, hgrow7.tape, hgrow7.output, by omega, fun q hq hne => by rw [hgrow7.block q (by simp; omega) hne, Below.heap_alloc _ _ _ hq]⟩
          have hT7 : w7.heap[w.heap.size + 1]? = w5.heap[w.heap.size + 1]? := hg57.block _ (by omega) (fun e => by have := hbk _ e.symm; omega)
          have t37 : w7.cell? ⟨w.heap.size + 1, 3, none⟩ = some (.slice K ks.length cc) := (World.cell?_of_block hT7).trans t35
          have tf7 : w7.frozen? ⟨w.heap.size + 1, 3, none⟩ = false := (World.frozen?_of_block hT7).trans tf5
          have sz7 : w.heap.size + 1 < w7.heap.size := by omega
          obtain ⟨K7, cc7, rfl⟩ := owns_slice hown7
          have O7 : Hid (w7.ownsRow (w.heap.size + 2) 24 4 (.slice K7 (ks.length + 1) cc7) (ks.length + 1) (rowOf ks ++ [.int .i64 k0, .int .i64 n0, .string s0, .slice K0 len0 c9])) := hown7
          have HAT : Hid ((Value.slice K7 (ks.length + 1) cc7).ownBlock = (Value.slice K ks.length cc).ownBlock ∨ ∃ q, (Value.slice K7 (ks.length + 1) cc7).ownBlock = some q ∧ w5.heap.size ≤ q) := by
            rcases hat7 with h | h
            · exact .inl h
            · exact .inr ⟨_, h, by omega⟩
          clear hown7 hat7 hgrow7 t3 t35 tf5 tf3
          refine hK.out _ _ (fun h => not_until (by kernel_rfl) h) ?_
          clear hK K'
          try simp only [Act.put, List.setIfInBounds_toArray, List.set_cons_zero, List.set_cons_succ]
          refine wpAnyU_pure (i := 8) (oi := { dst := some 169, op := Op.fieldAddr 24 (Operand.tmp 5) 3, type := 0, pos := "ref.go:101", after := #[{ on := 0, ground := Ground.phase }, { on := 1, ground := Ground.phase }, { on := 2, ground := Ground.phase }, { on := 3, ground := Ground.phase }, { on := 4, ground := Ground.phase }, { on := 5, ground := Ground.phase }, { on := 6, ground := Ground.phase }, { on := 7, ground := Ground.phase }], guard := none }) (v := ?v8) rfl (by kernel_rfl) (by kernel_rfl) (by kernel_rfl) (by decide) (fun _ _ _ h => h) (Or.inl ⟨by rfl, ?y8⟩) (fun h => not_until (by kernel_rfl) h) ?r8
          case y8 => (intro w _; go_simp <;> with_reducible rfl)
          try simp only [Act.put, List.setIfInBounds_toArray, List.set_cons_zero, List.set_cons_succ]
          refine wpAnyU_one (i := 9) (o := { dst := none, op := Op.store 22 (Operand.tmp 169) (Operand.tmp 168), type := 0, pos := "ref.go:101", after := #[{ on := 8, ground := Ground.data }, { on := 7, ground := Ground.data }, { on := 7, ground := Ground.chain }, { on := 0, ground := Ground.phase }, { on := 1, ground := Ground.phase }, { on := 2, ground := Ground.phase }, { on := 3, ground := Ground.phase }, { on := 4, ground := Ground.phase }, { on := 5, ground := Ground.phase }, { on := 6, ground := Ground.phase }, { on := 7, ground := Ground.phase }], guard := none }) (by kernel_rfl) rfl (fun K' hK => ?_)
          refine step_store (by rfl) 22 _ _ (by rfl) ⟨w.heap.size + 1, 3, none⟩ K7 (ks.length + 1) cc7 (by rfl) (by rfl) _ t37 tf7 sizeOf_terms ?_
          refine hK.out _ _ (fun h => not_until (by kernel_rfl) h) ?_
          clear hK K'
          try simp only [Act.put, List.setIfInBounds_toArray, List.set_cons_zero, List.set_cons_succ]
          refine wpAnyU_done (by kernel_rfl) ?_ _
          clear t37 tf7
          go_wp2_with fail
          go_roundw
          case rel => exact rk_next h0 hf hk' hlt HRUN.out HN4.out HKS.out hbk ho5 HC.out O7.out hg57 HAT.out
          case measure => simp [intOf]; omega
        · have hlt' : decide ((ks.length : Int) < 2) = false := by simp; omega
          have hkc : ks.length = 2 := by omega
          have rf0 := rf 0
          have rf1 := rf 1
          have rf2 := rf 2
          have rf3 := rf 3
          clear tf rf
          have HT2 : Hid (tk (f + 1) k (bs.drop at') = .ok (ndK 6, foOf ks .nil, k', bs.drop at2)) := by
            show _ = _
            rw [HK.out, aboveR, HRUN.out, hkc, Nat.sub_self, kidsG]; rfl
          have HKC : Hid (ks.length = 2) := hkc
          clear hkc
          go_wp2_with fail
          refine bodyPost_ret (v := .agg #[.int .i64 6, .int .i64 0, .string ⟨#[]⟩, .slice K ks.length cc]) (by simp [results, Tryz.results84, go_sem, r0, r1, r2, r3]) rfl ?_
          have hfin := HN4.out.done h0
          refine rf_ok (at' := at2) HT2.out (hfin _ _ _ _).1 (hfin _ _ _ _).2 hat2 rfl ?_
          have hown := HOW.out
          rcases hown.2 with ⟨_, hz0⟩ | ⟨g, gcap, cur, hgv, hg1, hg2, _⟩
          · have := HKC.out; omega
          · injection hgv with hgK _ hgc
            have hg3 := hown.lt g (by rw [hgK]; rfl)
            refine ⟨fit_leaf 6 0 _ (by omega) (by omega) (by decide), K, cc, g, 0, by rw [flen_foOf]; rfl, by rw [flen_foOf]; omega, .inr hgK, ?_⟩
            refine RepG.keep (S := fun b => w.heap.size + 2 ≤ b ∧ b < wr.heap.size) (fun b hb => ⟨by omega, by rw [size_set4']; exact hb.2⟩) (fun b o hb => cell_set4 _ _ _ _ _ _ _ _ (by omega)) ?_
            exact rep_of_row ⟨hg1, hg3.2⟩ ks 0 (fun q hq => (HKS.out q hq).keep (fun b hb => ⟨hb.1, hb.2.1⟩) (fun _ _ _ => rfl)) (fun j hj => by rw [Nat.zero_add]; have := World.ownsRow.cellAt (hgK ▸ hown) j (by omega); exact this)
      · have HT2 : Hid (tk (f + 1) k (bs.drop at') = .error er) := by show _ = _; rw [HK.out, aboveR, hrun]
        have HN4 : Hid (NdSt w wr rb A cap bs at2 left (er : Int) 6 0 ⟨#[]⟩ (.slice K len cc)) := hN
        obtain ⟨_, ⟨_, c0, c1, c2, c3, _, _, _⟩, t0, t1, t2, t3, tf, r0, r1, r2, r3, rf, sz⟩ := hN
        have rf0 := rf 0
        have rf1 := rf 1
        have rf2 := rf 2
        have rf3 := rf 3
        have szr : w.heap.size < wr.heap.size := by omega
        have hez : ((er : Int) == 0) = false := by simp; omega
        clear tf rf hrun
        by_cases hlt : i < 2
        · have hlt' : decide ((i : Int) < 2) = true := by simp; omega
          go_wp2_with fail
          refine bodyPost_ret (v := .agg #[.int .i64 6, .int .i64 0, .string ⟨#[]⟩, .slice K len cc]) (by simp [results, Tryz.results84, go_sem, r0, r1, r2, r3]) rfl ?_
          have hfin := HN4.out.done h0
          exact rf_err HT2.out (hfin _ _ _ _).1 (hfin _ _ _ _).2
        · have hlt' : decide ((i : Int) < 2) = false := by simp; omega
          go_wp2_with fail
          refine bodyPost_ret (v := .agg #[.int .i64 6, .int .i64 0, .string ⟨#[]⟩, .slice K len cc]) (by simp [results, Tryz.results84, go_sem, r0, r1, r2, r3]) rfl ?_
          have hfin := HN4.out.done h0
          exact rf_err HT2.out (hfin _ _ _ _).1 (hfin _ _ _ _).2

set_option maxRecDepth 100000 in
set_option maxHeartbeats 4000000 in
theorem rnode_kids7 (f : Nat) (hf : f ≤ 15) (ih : RNodeOk f) (w : World) (rb : Nat) (A : Option Addr) (cap : Nat) (bs : List UInt8) (at' k B : Nat) (dz : Int) (hdz : dz = 17 - ((f + 1 : Nat) : Int)) (hR : RfSt w rb A cap bs (at' : Int) (64 - (k : Int)) 0) (hy : ByAt w B A bs) (hB : B ≤ rb) (hk : k ≤ 64) (ha : at' ≤ bs.length) (hl : bs.length ≤ 100000) (hlc : bs.length ≤ cap) (hcm : cap ≤ maxLen)
    (x : UInt8) (zs : List UInt8) (hxz : bs.drop at' = x :: zs) (hx : x.toNat = 7) :
    Calls Tryz.prog 84 #[.pointer (some ⟨rb, 0, none⟩), .int .i64 dz] w fun e w' => RfEnd w rb A cap bs (tk (f + 1) k (bs.drop at')) e w' := by
  obtain ⟨i5, hi, hz0, hz1, hz2⟩ := info_has Tryz.infoTerm2
  by_cases hk1 : 64 ≤ k
  · exact rnode_big (f + 1) w rb A cap bs at' k dz hR (by omega) hk (.inl hk1) _ (by cases bs.drop at' <;> rw [tk, if_pos (by omega)])
  have HDZ : Hid (dz = 16 - (f : Int)) := by show dz = _; omega
  have hd0 : 0 ≤ dz := by omega
  have hd1 : dz ≤ 16 := by omega
  clear hdz
  have h0 := hR.lt
  have HN1 : Hid (NdSt w (((w.setCell ⟨rb, 2, none⟩ (.int .i64 (64 - (k : Int) - 1))).alloc (.cells #[.int .i64 0, .int .i64 0, .string ⟨#[]⟩, .slice none 0 0] 24)).alloc (.cells #[.int .i64 0, .int .i64 0, .string ⟨#[]⟩, .slice none 0 0] 24)) rb A cap bs (at' : Int) (64 - (k : Int) - 1) 0 0 0 ⟨#[]⟩ (.slice none 0 0)) := NdSt.first w hR _
  have HY : Hid (∀ w', Only rb w w' → ByAt w' B A bs) := fun w' ho => hy.keep (Nat.le_refl _) (fun b o hb => ho.cell (by simp; omega) (by simp; omega))
  obtain ⟨_, c0, c1, c2, c3, g1, g2, g3⟩ := hR
  have hk2 : decide (64 - (k : Int) < 1) = false := by simp; omega
  have hk3 : decide (16 < dz) = false := by simp; omega
  go_enter Tryz.func84, Tryz.ntmps84
  go_wp2_with fail
  refine (rfnum_any _ rb A cap bs at' 1 B (64 - (k : Int) - 1) 1 rfl HN1.out.st (HY.out _ HN1.out.only) hB (by omega) (by omega) hl (by omega)).mono ?_
  rintro e w2 ⟨v, er, rfl, ho2, hst2, hcase⟩
  have hN2 := HN1.out.move h0 ho2 hst2
  have HN2 : Hid (NdSt w w2 rb A cap bs ((at' + 1 : Nat) : Int) (64 - (k : Int) - 1) (er : Int) 0 0 ⟨#[]⟩ (.slice none 0 0)) := hN2
  clear HN1 hst2 ho2 c0 c1 c2 c3 g1 g2 g3 hy
  have hne : ¬ bs.length < at' + 1 := fun hq => by have := congrArg List.length hxz; simp at this; omega
  obtain ⟨hs, hv, rfl⟩ : at' + 1 ≤ bs.length ∧ v = unBe ((bs.drop at').take 1) ∧ er = 0 := by rcases hcase with ⟨h1, _⟩ | h; exact absurd h1 hne; exact h
  have hzs : bs.drop (at' + 1) = zs := by rw [← List.drop_drop, hxz]; rfl
  have hv2 : v = x.toNat := by rw [hv, hxz]; simp [unBe]
  have HK0 : Hid (tk (f + 1) k (bs.drop at') = tkH (tk f) x.toNat (k + 1) zs) := by show _ = _; rw [hxz, tk, if_neg (by omega)]
  have Hzs : Hid (bs.drop (at' + 1) = zs) := hzs
  subst hv2
  clear hv hzs hxz hcase hne
  generalize x.toNat = h at *
  have HN3 : Hid (NdSt w (w2.setCell ⟨w.heap.size + 1, 0, none⟩ (.int .i64 (h : Int))) rb A cap bs ((at' + 1 : Nat) : Int) (64 - (k : Int) - 1) 0 (h : Int) 0 ⟨#[]⟩ (.slice none 0 0)) := HN2.out.kind h0 _
  obtain ⟨_, ⟨_, c0, c1, c2, c3, g1, g2, g3⟩, t0, t1, t2, t3, tf, _, _, _, _, _, sz⟩ := hN2
  have tf0 := tf 0
  clear tf HN2
  subst hx
  · have HK : Hid (tk (f + 1) k (bs.drop at') = aboveR (tk f) 7 2 (k + 1) zs) := by show _ = _; rw [HK0.out, tkH, if_neg (by decide), if_neg (by decide), if_neg (by decide), if_pos (by decide)]; rfl
    go_wp2_with fail
    clear c0 c1 c2 c3 g1 g2 g3 t0 t1 t2 t3 tf0
    go_loopw [8] (fun iv wr => RkRel w f rb A cap bs 7 2 k zs iv wr) (fun iv _ => 2 - (intOf iv).toNat)
    case atStart =>
      refine .inl ⟨[], k + 1, at' + 1, .slice none 0 0, rfl, by simp, by omega, by omega, ?_, ?_, World.ownsRow_nil _ _ _ _, by simp⟩
      · rw [Hzs.out]; show kidsG (tk f) 2 (k + 1) zs = addK [] (kidsG (tk f) (2 - 0) (k + 1) zs)
        rw [Nat.sub_zero]; cases kidsG (tk f) 2 (k + 1) zs <;> rfl
      · have := HN3.out; rwa [show (64 : Int) - (k : Int) - 1 = 64 - ((k + 1 : Nat) : Int) from by omega] at this
    case round =>
      clear HN3
      rcases hrel with ⟨ks, k', at2, kv, rfl, hks, hk', hat2, hrun, hN, hown, hoks⟩ | ⟨i, er, at2, left, K, len, cc, rfl, hic, her1, her4, hrun, hN⟩
      · have HRUN : Hid (kidsG (tk f) 2 (k + 1) zs = addK ks (kidsG (tk f) (2 - ks.length) k' (bs.drop at2))) := hrun
        have HN4 : Hid (NdSt w wr rb A cap bs (at2 : Int) (64 - (k' : Int)) 0 7 0 ⟨#[]⟩ kv) := hN
        have HOW : Hid (wr.ownsRow (w.heap.size + 2) 24 4 kv ks.length (rowOf ks)) := hown
        have HKS : Hid (∀ q ∈ ks, q.Ok wr (fun b => w.heap.size + 2 ≤ b ∧ b < wr.heap.size ∧ kv.ownBlock ≠ some b)) := hoks
        obtain ⟨K, cc, rfl⟩ := owns_slice hown
        have hbk := hown.lt
        clear hrun hown hoks
        obtain ⟨_, ⟨_, c0, c1, c2, c3, _, _, _⟩, t0, t1, t2, t3, tf, r0, r1, r2, r3, rf, sz⟩ := hN
        have szr : w.heap.size < wr.heap.size := by omega
        by_cases hlt : ks.length < 2
        · have hlt' : decide ((ks.length : Int) < 2) = true := by simp; omega
          have tf3 := tf 3
          clear tf rf
          have N1 : Hid (Calls Tryz.prog 84 #[.pointer (some ⟨rb, 0, none⟩), .int .i64 (dz + 1)] wr.drew fun e w' => RfEnd wr.drew rb A cap bs (tk f k' (bs.drop at2)) e w') :=
            ih wr.drew rb A cap bs at2 k' B (dz + 1) (by have := HDZ.out; omega) (HN4.out.st.keep (Below.drew (Below.refl _ _))) (HY.out _ HN4.out.only.drew) hB hk' hat2 hl hlc hcm
          go_wp2_with fail
          clear c0 c1 c2 c3 t0 t1 t2 r0 r1 r2 r3
          refine wp_region_until (S := fun w' => w'.cell? ⟨w.heap.size + 1, 3, none⟩ = some (.slice K ks.length cc)) (j := 7) (by kernel_rfl) ?_
          refine wpAnyU_pure (i := 0) (oi := { dst := some 161, op := Op.fieldAddr 24 (Operand.tmp 5) 3, type := 0, pos := "ref.go:101", after := #[], guard := none }) (v := ?v0) rfl (by kernel_rfl) (by kernel_rfl) (by kernel_rfl) (by decide) (fun _ _ _ h => h) (Or.inl ⟨by rfl, ?y0⟩) (fun _ => t3) ?r0
          case y0 => (intro w _; go_simp <;> with_reducible rfl)
          try simp only [Act.put, List.setIfInBounds_toArray, List.set_cons_zero, List.set_cons_succ]
          refine wpAnyU_pure (i := 2) (oi := { dst := some 163, op := Op.move (Operand.tmp 0), type := 104, pos := "ref.go:101", after := #[], guard := none }) (v := ?v2) rfl (by kernel_rfl) (by kernel_rfl) (by kernel_rfl) (by decide) (fun _ _ _ h => h) (Or.inl ⟨by rfl, ?y2⟩) (fun _ => t3) ?r2
          case y2 => (intro w _; go_simp <;> with_reducible rfl)
          try simp only [Act.put, List.setIfInBounds_toArray, List.set_cons_zero, List.set_cons_succ]
          refine wpAnyU_pure (i := 3) (oi := { dst := some 164, op := Op.move (Operand.tmp 1), type := 3, pos := "ref.go:101", after := #[], guard := none }) (v := ?v3) rfl (by kernel_rfl) (by kernel_rfl) (by kernel_rfl) (by decide) (fun _ _ _ h => h) (Or.inl ⟨by rfl, ?y3⟩) (fun _ => t3) ?r3
          case y3 => (intro w _; go_simp <;> with_reducible rfl)
          try simp only [Act.put, List.setIfInBounds_toArray, List.set_cons_zero, List.set_cons_succ]
          refine wpAnyU_pure (i := 4) (oi := { dst := some 165, op := Op.binOp BinOp.add 3 (Operand.tmp 164) (Operand.const (Value.int IntKind.i64 1)) 3, type := 3, pos := "ref.go:101", after := #[{ on := 3, ground := Ground.data }], guard := none }) (v := ?v4) rfl (by kernel_rfl) (by kernel_rfl) (by kernel_rfl) (by decide) (fun _ _ _ h => h) (Or.inl ⟨by rfl, ?y4⟩) (fun _ => t3) ?r4
          case y4 => (intro w _; go_simp <;> with_reducible rfl)
          try simp only [Act.put, List.setIfInBounds_toArray, List.set_cons_zero, List.set_cons_succ]
          refine wpAnyU_load (i := 1) (oi := { dst := some 162, op := Op.load 22 (Operand.tmp 161), type := 22, pos := "ref.go:101", after := #[{ on := 0, ground := Ground.data }], guard := none }) (oj := { dst := some 168, op := Op.call { callee := Callee.builtin Builtin.append, args := #[Operand.tmp 162, Operand.tmp 167], argTypes := #[22, 22] }, type := 22, pos := "ref.go:101", after := #[{ on := 1, ground := Ground.data }, { on := 6, ground := Ground.data }, { on := 5, ground := Ground.chain }], guard := none }) (v := ?v1) rfl rfl (by kernel_rfl) (by kernel_rfl) (by kernel_rfl) (by decide) (by kernel_rfl) (by kernel_rfl) (fun _ _ _ h => h) (Or.inl ⟨by rfl, ?y1⟩) t3 ?r1
          case y1 => (intro w hSw; (try dsimp only at hSw); go_simp <;> with_reducible rfl)
          try simp only [Act.put, List.setIfInBounds_toArray, List.set_cons_zero, List.set_cons_succ]
          refine wpAnyU_one (i := 5) (o := { dst := some 166, op := Op.call { callee := Callee.value (Operand.func 84), args := #[Operand.tmp 163, Operand.tmp 165], argTypes := #[104, 3] }, type := 24, pos := "ref.go:101", after := #[{ on := 2, ground := Ground.data }, { on := 4, ground := Ground.data }], guard := none }) (by kernel_rfl) rfl (fun K' hK => ?_)
          go_simp
          rw [wrap_in _ (by omega) (by omega)]
          refine (N1.out).mono ?_
          clear N1
          rintro e w5 hE
          obtain ⟨k0, n0, s0, K0, len0, c9, rfl, ho5, hcase⟩ := rf_end_any hE
          have HC : Hid _ := hcase
          clear hE hcase
          have t35 : w5.cell? ⟨w.heap.size + 1, 3, none⟩ = some (.slice K ks.length cc) := (ho5.cell (by show w.heap.size + 1 < wr.heap.size; omega) (by simp; omega)).trans t3
          have tf5 : w5.frozen? ⟨w.heap.size + 1, 3, none⟩ = false := (ho5.frozen (by show w.heap.size + 1 < wr.heap.size; omega) (by simp; omega)).trans tf3
          have sz5 : wr.heap.size ≤ w5.heap.size := ho5.size
          go_wp2_with fail
          refine hK.out _ _ (fun _ => t35) ?_
          clear hK K'
          try simp only [Act.put, List.setIfInBounds_toArray, List.set_cons_zero, List.set_cons_succ]
          refine wpAnyU_one (i := 6) (o := { dst := some 167, op := Op.buildSlice 22 1 #[(0, Operand.tmp 166)], type := 22, pos := "ref.go:101", after := #[{ on := 5, ground := Ground.data }], guard := none }) (by kernel_rfl) rfl (fun K' hK => ?_)
          go_wp2_with fail
          refine hK.out _ _ (fun _ => by rw [World.cell?_alloc_lt _ _ _ (by show w.heap.size + 1 < w5.heap.size; omega)]; exact t35) ?_
          clear hK K'
          try simp only [Act.put, List.setIfInBounds_toArray, List.set_cons_zero, List.set_cons_succ]
          refine wpAnyU_one (i := 7) (o := { dst := some 168, op := Op.call { callee := Callee.builtin Builtin.append, args := #[Operand.tmp 162, Operand.tmp 167], argTypes := #[22, 22] }, type := 22, pos := "ref.go:101", after := #[{ on := 1, ground := Ground.data }, { on := 6, ground := Ground.data }, { on := 5, ground := Ground.chain }], guard := none }) (by kernel_rfl) rfl (fun K' hK => ?_)
          refine step_append_any _ (by rfl) _ _ 22 (by rfl) (w.heap.size + 2) 24 i5 (.agg #[.int .i64 0, .int .i64 0, .string ⟨#[]⟩, .slice none 0 0]) 4 56 Tryz.underlying22 hi hz0 hz1 hz2 rfl (by decide) (.slice K ks.length cc) ks.length (rowOf ks) (by rfl) ?own (some ⟨w5.heap.size, 0, none⟩) 1 1 [.int .i64 k0, .int .i64 n0, .string s0, .slice K0 len0 c9] (by rfl) ?src ?c3 ?c4 ?c5 ?_
          case own => exact (owns_of HOW.out (fun q hq => ho5.block q (by have := hbk q hq; show q < wr.heap.size; omega) (by have := hbk q hq; omega))).alloc _
          case src => exact .inr ⟨_, rfl, rfl, World.news_of_block (t := 24) (fr := (0, 0)) (heap_alloc_new w5 _), by simp [Value.oneCell']⟩
          case c3 => unfold maxLen; omega
          case c4 => omega
          case c5 => simp; omega
          intro v7 w7 hown7 hgrow7 hat7
          have hs7 := hgrow7.size
          simp only [World.heap_size_alloc'] at hs7 hat7
          have hg57 : w5.grownBy w7 (Value.slice K ks.length cc).ownBlock := ⟨hgrow7.os, hgrow7.tape, hgrow7.output, by omega, fun q hq hne => by rw [hgrow7.block q (by simp; omega) hne, Below.heap_alloc _ _ _ hq]⟩
          have hT7 : w7.heap[w.heap.size + 1]? = w5.heap[w.heap.size + 1]? := hg57.block _ (by omega) (fun e => by have := hbk _ e.symm; omega)
          have t37 : w7.cell? ⟨w.heap.size + 1, 3, none⟩ = some (.slice K ks.length cc) := (World.cell?_of_block hT7).trans t35
          have tf7 : w7.frozen? ⟨w.heap.size + 1, 3, none⟩ = false := (World.frozen?_of_block hT7).trans tf5
          have sz7 : w.heap.size + 1 < w7.heap.size := by omega
          obtain ⟨K7, cc7, rfl⟩ := owns_slice hown7
          have O7 : Hid (w7.ownsRow (w.heap.size + 2) 24 4 (.slice K7 (ks.length + 1) cc7) (ks.length + 1) (rowOf ks ++ [.int .i64 k0, .int .i64 n0, .string s0, .slice K0 len0 c9])) := hown7
          have HAT : Hid ((Value.slice K7 (ks.length + 1) cc7).ownBlock = (Value.slice K ks.length cc).ownBlock ∨ ∃ q, (Value.slice K7 (ks.length + 1) cc7).ownBlock = some q ∧ w5.heap.size ≤ q) := by
            rcases hat7 with h | h
            · exact .inl h
            · exact .inr ⟨_, h, by omega⟩
          clear hown7 hat7 hgrow7 t3 t35 tf5 tf3
          refine hK.out _ _ (fun h => not_until (by kernel_rfl) h) ?_
          clear hK K'
          try simp only [Act.put, List.setIfInBounds_toArray, List.set_cons_zero, List.set_cons_succ]
          refine wpAnyU_pure (i := 8) (oi := { dst := some 169, op := Op.fieldAddr 24 (Operand.tmp 5) 3, type := 0, pos := "ref.go:101", after := #[{ on := 0, ground := Ground.phase }, { on := 1, ground := Ground.phase }, { on := 2, ground := Ground.phase }, { on := 3, ground := Ground.phase }, { on := 4, ground := Ground.phase }, { on := 5, ground := Ground.phase }, { on := 6, ground := Ground.phase }, { on := 7, ground := Ground.phase }], guard := none }) (v := ?v8) rfl (by kernel_rfl) (by kernel_rfl) (by kernel_rfl) (by decide) (fun _ _ _ h => h) (Or.inl ⟨by rfl, ?y8⟩) (fun h => not_until (by kernel_rfl) h) ?r8
          case y8 => (intro w _; go_simp <;> with_reducible rfl)
          try simp only [Act.put, List.setIfInBounds_toArray, List.set_cons_zero, List.set_cons_succ]
          refine wpAnyU_one (i := 9) (o := { dst := none, op := Op.store 22 (Operand.tmp 169) (Operand.tmp 168), type := 0, pos := "ref.go:101", after := #[{ on := 8, ground := Ground.data }, { on := 7, ground := Ground.data }, { on := 7, ground := Ground.chain }, { on := 0, ground := Ground.phase }, { on := 1, ground := Ground.phase }, { on := 2, ground := Ground.phase }, { on := 3, ground := Ground.phase }, { on := 4, ground := Ground.phase }, { on := 5, ground := Ground.phase }, { on := 6, ground := Ground.phase }, { on := 7, ground := Ground.phase }], guard := none }) (by kernel_rfl) rfl (fun K' hK => ?_)
          refine step_store (by rfl) 22 _ _ (by rfl) ⟨w.heap.size + 1, 3, none⟩ K7 (ks.length + 1) cc7 (by rfl) (by rfl) _ t37 tf7 sizeOf_terms ?_
          refine hK.out _ _ (fun h => not_until (by kernel_rfl) h) ?_
          clear hK K'
          try simp only [Act.put, List.setIfInBounds_toArray, List.set_cons_zero, List.set_cons_succ]
          refine wpAnyU_done (by kernel_rfl) ?_ _
          clear t37 tf7
          go_wp2_with fail
          go_roundw
          case rel => exact rk_next h0 hf hk' hlt HRUN.out HN4.out HKS.out hbk ho5 HC.out O7.out hg57 HAT.out
          case measure => simp [intOf]; omega
        · have hlt' : decide ((ks.length : Int) < 2) = false := by simp; omega
          have hkc : ks.length = 2 := by omega
          have rf0 := rf 0
          have rf1 := rf 1
          have rf2 := rf 2
          have rf3 := rf 3
          clear tf rf
          have HT2 : Hid (tk (f + 1) k (bs.drop at') = .ok (ndK 7, foOf ks .nil, k', bs.drop at2)) := by
            show _ = _
            rw [HK.out, aboveR, HRUN.out, hkc, Nat.sub_self, kidsG]; rfl
          have HKC : Hid (ks.length = 2) := hkc
          clear hkc
          go_wp2_with fail
          refine bodyPost_ret (v := .agg #[.int .i64 7, .int .i64 0, .string ⟨#[]⟩, .slice K ks.length cc]) (by simp [results, Tryz.results84, go_sem, r0, r1, r2, r3]) rfl ?_
          have hfin := HN4.out.done h0
          refine rf_ok (at' := at2) HT2.out (hfin _ _ _ _).1 (hfin _ _ _ _).2 hat2 rfl ?_
          have hown := HOW.out
          rcases hown.2 with ⟨_, hz0⟩ | ⟨g, gcap, cur, hgv, hg1, hg2, _⟩
          · have := HKC.out; omega
          · injection hgv with hgK _ hgc
            have hg3 := hown.lt g (by rw [hgK]; rfl)
            refine ⟨fit_leaf 7 0 _ (by omega) (by omega) (by decide), K, cc, g, 0, by rw [flen_foOf]; rfl, by rw [flen_foOf]; omega, .inr hgK, ?_⟩
            refine RepG.keep (S := fun b => w.heap.size + 2 ≤ b ∧ b < wr.heap.size) (fun b hb => ⟨by omega, by rw [size_set4']; exact hb.2⟩) (fun b o hb => cell_set4 _ _ _ _ _ _ _ _ (by omega)) ?_
            exact rep_of_row ⟨hg1, hg3.2⟩ ks 0 (fun q hq => (HKS.out q hq).keep (fun b hb => ⟨hb.1, hb.2.1⟩) (fun _ _ _ => rfl)) (fun j hj => by rw [Nat.zero_add]; have := World.ownsRow.cellAt (hgK ▸ hown) j (by omega); exact this)
      · have HT2 : Hid (tk (f + 1) k (bs.drop at') = .error er) := by show _ = _; rw [HK.out, aboveR, hrun]
        have HN4 : Hid (NdSt w wr rb A cap bs at2 left (er : Int) 7 0 ⟨#[]⟩ (.slice K len cc)) := hN
        obtain ⟨_, ⟨_, c0, c1, c2, c3, _, _, _⟩, t0, t1, t2, t3, tf, r0, r1, r2, r3, rf, sz⟩ := hN
        have rf0 := rf 0
        have rf1 := rf 1
        have rf2 := rf 2
        have rf3 := rf 3
        have szr : w.heap.size < wr.heap.size := by omega
        have hez : ((er : Int) == 0) = false := by simp; omega
        clear tf rf hrun
        by_cases hlt : i < 2
        · have hlt' : decide ((i : Int) < 2) = true := by simp; omega
          go_wp2_with fail
          refine bodyPost_ret (v := .agg #[.int .i64 7, .int .i64 0, .string ⟨#[]⟩, .slice K len cc]) (by simp [results, Tryz.results84, go_sem, r0, r1, r2, r3]) rfl ?_
          have hfin := HN4.out.done h0
          exact rf_err HT2.out (hfin _ _ _ _).1 (hfin _ _ _ _).2
        · have hlt' : decide ((i : Int) < 2) = false := by simp; omega
          go_wp2_with fail
          refine bodyPost_ret (v := .agg #[.int .i64 7, .int .i64 0, .string ⟨#[]⟩, .slice K len cc]) (by simp [results, Tryz.results84, go_sem, r0, r1, r2, r3]) rfl ?_
          have hfin := HN4.out.done h0
          exact rf_err HT2.out (hfin _ _ _ _).1 (hfin _ _ _ _).2

/-- A node with kids. -/
theorem rnode_kids (f : Nat) (hf : f ≤ 15) (ih : RNodeOk f) (w : World) (rb : Nat) (A : Option Addr) (cap : Nat) (bs : List UInt8) (at' k B : Nat) (dz : Int) (hdz : dz = 17 - ((f + 1 : Nat) : Int)) (hR : RfSt w rb A cap bs (at' : Int) (64 - (k : Int)) 0) (hy : ByAt w B A bs) (hB : B ≤ rb) (hk : k ≤ 64) (ha : at' ≤ bs.length) (hl : bs.length ≤ 100000) (hlc : bs.length ≤ cap) (hcm : cap ≤ maxLen)
    (x : UInt8) (zs : List UInt8) (hxz : bs.drop at' = x :: zs) (h3 : 3 ≤ x.toNat) (h7 : x.toNat ≤ 7) :
    Calls Tryz.prog 84 #[.pointer (some ⟨rb, 0, none⟩), .int .i64 dz] w fun e w' => RfEnd w rb A cap bs (tk (f + 1) k (bs.drop at')) e w' := by
  have h : x.toNat = 3 ∨ x.toNat = 4 ∨ x.toNat = 5 ∨ x.toNat = 6 ∨ x.toNat = 7 := by omega
  rcases h with h | h | h | h | h
  · exact rnode_kids3 f hf ih w rb A cap bs at' k B dz hdz hR hy hB hk ha hl hlc hcm x zs hxz h
  · exact rnode_kids4 f hf ih w rb A cap bs at' k B dz hdz hR hy hB hk ha hl hlc hcm x zs hxz h
  · exact rnode_kids5 f hf ih w rb A cap bs at' k B dz hdz hR hy hB hk ha hl hlc hcm x zs hxz h
  · exact rnode_kids6 f hf ih w rb A cap bs at' k B dz hdz hR hy hB hk ha hl hlc hcm x zs hxz h
  · exact rnode_kids7 f hf ih w rb A cap bs at' k B dz hdz hR hy hB hk ha hl hlc hcm x zs hxz h

end Go.Proofs.YtgmmbfnmojjbkaaGreatDoor

namespace Go.Proofs.YtgmmbfnmojjbkaaGreatDoor
open Go.RowKit
set_option linter.unusedVariables false
set_option linter.unusedSimpArgs false

theorem rnode_any : ∀ f : Nat, f ≤ 16 → RNodeOk f
  | 0, _ => fun w rb A cap bs at' k B dz hdz hR hy hB hk ha hl hlc hcm => rnode_big 0 w rb A cap bs at' k dz hR (by omega) hk (.inr (by omega)) _ rfl
  | f + 1, hf => fun w rb A cap bs at' k B dz hdz hR hy hB hk ha hl hlc hcm => by
    by_cases h : ∃ x zs, bs.drop at' = x :: zs ∧ 3 ≤ x.toNat ∧ x.toNat ≤ 7
    · obtain ⟨x, zs, h1, h2, h3⟩ := h
      exact rnode_kids f (by omega) (rnode_any f (by omega)) w rb A cap bs at' k B dz hdz hR hy hB hk ha hl hlc hcm x zs h1 h2 h3
    · exact rnode_leaf f (by omega) w rb A cap bs at' k B dz hdz hR hy hB hk ha hl hlc hcm (fun x zs hx => by
        rcases Nat.lt_or_ge x.toNat 3 with h1 | h1
        · exact .inl h1
        · rcases Nat.lt_or_ge 7 x.toNat with h2 | h2
          · exact .inr h2
          · exact absurd ⟨x, zs, hx, h1, h2⟩ h)

set_option maxRecDepth 100000 in
set_option maxHeartbeats 1000000 in
theorem refTake_any (w : World) (A : Option Addr) (cap : Nat) (xs : List UInt8) (hy : ByAt w w.heap.size A xs) (hl : xs.length ≤ cap) (hc : cap ≤ maxLen) (h5 : xs.length ≤ 100000) :
    Calls Tryz.prog 69 #[.slice A xs.length cap] w fun e w' => TakeEnd w xs e w' := by
  have hm : xs.length ≤ 9223372036854775807 := by omega
  go_enter Tryz.func69, Tryz.ntmps69
  go_wp2_with fail
  refine (rnode_any 16 (by omega) _ (w.heap.size + 1) A cap xs 0 0 w.heap.size 1 rfl ⟨by simp, by simp [go_sem], by simp [go_sem], by simp [go_sem], by simp [go_sem], by simp [go_sem], by simp [go_sem], by simp [go_sem]⟩ (hy.keep (Nat.le_refl _) (fun b o hb => by rw [World.cell?_alloc_past _ _ _ (by simp; omega), World.cell?_alloc_past _ _ _ (by omega)])) (by omega) (by omega) (by omega) h5 hl hc).mono ?_
  rintro e w2 ⟨h1, h2⟩
  rw [List.drop_zero] at h1 h2
  have hsz0 : ∀ o : Obj, (w.alloc o).heap.size = w.heap.size + 1 := fun o => by simp
  cases ht : tk 16 0 xs with
  | error er =>
    obtain ⟨k0, n0, s0, K0, len0, c9, at3, left3, rfl, ho2, hst⟩ := h1 er ht
    have HT : Hid (tk 16 0 xs = .error er) := ht
    have her := tk_er ht
    clear h1 h2 ht
    have hq : ∀ o, w2.cell? ⟨w.heap.size, o, none⟩ = (#[Value.int .i64 0, .int .i64 0, .string ⟨#[]⟩, .slice none 0 0] : Array Value)[o]? := fun o => by
      rw [ho2.cell (by simp; omega) (by simp)]; rw [World.cell?_alloc_past _ _ _ (by simp)]; simp [go_sem]
    have hqf : ∀ o, w2.frozen? ⟨w.heap.size, o, none⟩ = false := fun o => by
      rw [ho2.frozen (by simp; omega) (by simp)]; rw [World.frozen?_alloc_past _ _ _ (by simp)]; simp [go_sem]
    have r0 : w2.cell? ⟨w.heap.size, 0, none⟩ = some (.int .i64 0) := by rw [hq]; rfl
    have r1 : w2.cell? ⟨w.heap.size, 1, none⟩ = some (.int .i64 0) := by rw [hq]; rfl
    have r2 : w2.cell? ⟨w.heap.size, 2, none⟩ = some (.string ⟨#[]⟩) := by rw [hq]; rfl
    have r3 : w2.cell? ⟨w.heap.size, 3, none⟩ = some (.slice none 0 0) := by rw [hq]; rfl
    have f0 := hqf 0
    have f1 := hqf 1
    have f2 := hqf 2
    have f3 := hqf 3
    have hsz := ho2.size
    simp only [World.heap_size_alloc'] at hsz
    have hlt : w.heap.size < w2.heap.size := by omega
    have hlt1 : w.heap.size + 1 < w2.heap.size := by omega
    clear hq hqf
    have e3 := hst.c3
    have hne : ((er : Int) != 0) = true := by simp; omega
    go_wp2_with fail
    go_region
    all_goals go_wp2_with fail
    all_goals (refine bodyPost_ret (v := .tuple #[.agg #[.int .i64 0, .int .i64 0, .string ⟨#[]⟩, .slice none 0 0], .int .i64 0, .int .i64 (er : Int)]) (by simp [results, Tryz.results69, go_sem, r0, r1, r2, r3, hlt]) rfl ⟨?_, ?_⟩)
    · intro er' he
      rw [HT.out] at he; injection he with he; subst he
      exact ⟨rfl, Only.toBelow (b := w.heap.size + 1) (by first | exact Only.drew (Only.alloc (Only.set4 ((Only.alloc (Only.alloc (Only.refl _ _) _) _).trans ho2) (Nat.le_refl _) _ _ _ _) _) | exact Only.alloc (Only.set4 (Only.drew ((Only.alloc (Only.alloc (Only.refl _ _) _) _).trans ho2)) (Nat.le_refl _) _ _ _ _) _ | exact Only.alloc (Only.drew (Only.set4 ((Only.alloc (Only.alloc (Only.refl _ _) _) _).trans ho2) (Nat.le_refl _) _ _ _ _)) _ | exact Only.drewN (Only.alloc (Only.set4 ((Only.alloc (Only.alloc (Only.refl _ _) _) _).trans ho2) (Nat.le_refl _) _ _ _ _) _) _) (by omega) (Nat.le_refl _)⟩
    · intro a l k ys he; rw [HT.out] at he; injection he
  | ok y =>
    obtain ⟨a, l, k, ys⟩ := y
    obtain ⟨v, at3, rfl, ho2, hst, hat3, hys, hf1, A3, cap3, b3, o3, rfl, hn3, hA3, hl3⟩ := h2 a l k ys ht
    have HT : Hid (tk 16 0 xs = .ok (a, l, k, ys)) := ht
    have hly : at3 = xs.length - ys.length := by rw [← hys]; simp; omega
    have HA3 : Hid (flen l = 0 ∨ A3 = some ⟨b3, o3, none⟩) := hA3
    clear h1 h2 ht hA3
    have hq : ∀ o, w2.cell? ⟨w.heap.size, o, none⟩ = (#[Value.int .i64 0, .int .i64 0, .string ⟨#[]⟩, .slice none 0 0] : Array Value)[o]? := fun o => by
      rw [ho2.cell (by simp; omega) (by simp)]; rw [World.cell?_alloc_past _ _ _ (by simp)]; simp [go_sem]
    have hqf : ∀ o, w2.frozen? ⟨w.heap.size, o, none⟩ = false := fun o => by
      rw [ho2.frozen (by simp; omega) (by simp)]; rw [World.frozen?_alloc_past _ _ _ (by simp)]; simp [go_sem]
    have r0 : w2.cell? ⟨w.heap.size, 0, none⟩ = some (.int .i64 0) := by rw [hq]; rfl
    have r1 : w2.cell? ⟨w.heap.size, 1, none⟩ = some (.int .i64 0) := by rw [hq]; rfl
    have r2 : w2.cell? ⟨w.heap.size, 2, none⟩ = some (.string ⟨#[]⟩) := by rw [hq]; rfl
    have r3 : w2.cell? ⟨w.heap.size, 3, none⟩ = some (.slice none 0 0) := by rw [hq]; rfl
    have f0 := hqf 0
    have f1 := hqf 1
    have f2 := hqf 2
    have f3 := hqf 3
    have hsz := ho2.size
    simp only [World.heap_size_alloc'] at hsz
    have hlt : w.heap.size < w2.heap.size := by omega
    have hlt1 : w.heap.size + 1 < w2.heap.size := by omega
    clear hq hqf
    have hl4 : RepG w2 (fun b => w.heap.size + 1 + 1 ≤ b ∧ b < w2.heap.size) l b3 o3 := by
      refine RepG.keep (fun b hb => ?_) (fun _ _ _ => rfl) hl3
      have h1 := hb.1
      simp only [World.heap_size_alloc'] at h1
      exact ⟨h1, hb.2⟩
    clear hl3
    have e1 := hst.c1
    have e3 := hst.c3
    go_wp2_with fail
    go_region
    all_goals go_wp2_with fail
    refine bodyPost_ret (v := .tuple #[.agg #[.int .i64 a.kind, .int .i64 a.n, .string a.s, .slice A3 (flen l) cap3], .int .i64 ((xs.length - ys.length : Nat) : Int), .int .i64 0]) (by simp [results, Tryz.results69, go_sem, r0, r1, r2, r3, hlt]) rfl ⟨?_, ?_⟩
    · intro er he; rw [HT.out] at he; injection he
    · intro a' l' k' ys' he
      rw [HT.out] at he; injection he with he; injection he with e1 he; injection he with e2 he; injection he with e3 e4; subst e1 e2 e3 e4
      refine ⟨_, rfl, Only.toBelow (b := w.heap.size + 1) (by first | exact Only.drew (Only.alloc (Only.set4 ((Only.alloc (Only.alloc (Only.refl _ _) _) _).trans ho2) (Nat.le_refl _) _ _ _ _) _) | exact Only.alloc (Only.set4 (Only.drew ((Only.alloc (Only.alloc (Only.refl _ _) _) _).trans ho2)) (Nat.le_refl _) _ _ _ _) _ | exact Only.alloc (Only.drew (Only.set4 ((Only.alloc (Only.alloc (Only.refl _ _) _) _).trans ho2) (Nat.le_refl _) _ _ _ _)) _ | exact Only.drewN (Only.alloc (Only.set4 ((Only.alloc (Only.alloc (Only.refl _ _) _) _).trans ho2) (Nat.le_refl _) _ _ _ _) _) _) (by omega) (Nat.le_refl _), hf1, A3, cap3, b3, o3, rfl, hn3, HA3.out, ?_⟩
      refine RepG.keep ?hS ?hC hl4
      case hS =>
        intro b hb
        have h1 := hb.1
        have h2 := hb.2
        exact ⟨by omega, by simp [World.setCell]; omega⟩
      case hC =>
        intro b o hb
        have h1 := hb.1
        have h2 := hb.2
        rw [World.cell?_drew, World.cell?_alloc_past _ _ _ (by simp [World.setCell]; omega), cell_set4 _ _ _ _ _ _ _ _ (by omega)]

set_option maxRecDepth 100000 in
set_option maxHeartbeats 1000000 in
theorem refOne_any (w : World) (A : Option Addr) (cap : Nat) (xs : List UInt8) (hy : ByAt w w.heap.size A xs) (hl : xs.length ≤ cap) (hc : cap ≤ maxLen) (h5 : xs.length ≤ 100000) :
    Calls Tryz.prog 51 #[.slice A xs.length cap] w fun e w' => OneEnd w xs e w' := by
  have hm : xs.length ≤ 9223372036854775807 := by unfold maxLen at hc; omega
  go_enter Tryz.func51, Tryz.ntmps51
  go_wp2_with fail
  have hb0 : ∀ T : Obj, Below w.heap.size w (w.alloc T) := fun T => Below.alloc (Below.refl _ _) (Nat.le_refl _) _
  refine (refTake_any _ A cap xs (hy.keep (by simp) (fun b o hb => World.cell?_alloc_past _ _ _ (by omega))) hl hc h5).mono ?_
  rintro e w2 ⟨h1, h2⟩
  cases ht : tk 16 0 xs with
  | error er =>
    obtain ⟨rfl, ho2⟩ := h1 er ht
    have HT : Hid (oneB xs = .error er) := by show oneB xs = _; rw [oneB, ht]
    have her := tk_er ht
    clear h1 h2 ht
    obtain ⟨r0, r1, r2, r3, f0, f1, f2, f3⟩ := res4w ho2
    have hsz := ho2.size
    simp only [World.heap_size_alloc'] at hsz
    have hlt : w.heap.size < w2.heap.size := by omega
    have hb2 : Below w.heap.size w w2 := (hb0 _).trans (ho2.mono (by simp))
    have hne : ((er : Int) == 0) = false := by simp; omega
    have hne' : ((er : Int) != 0) = true := by simp; omega
    go_wp2_with fail
    refine bodyPost_ret (v := .tuple #[.agg #[.int .i64 0, .int .i64 0, .string ⟨#[]⟩, .slice none 0 0], .int .i64 (er : Int)]) (by simp [results, Tryz.results51, go_sem, r0, r1, r2, r3, hlt]) rfl ⟨?_, ?_⟩
    · intro er' he
      rw [HT.out] at he; injection he with he; subst he
      exact ⟨rfl, (by repeat (first | exact Below.refl _ _ | assumption | refine below_drewN ?_ _ | refine Below.drew ?_ | refine Below.alloc ?_ (by simp <;> omega) _ | refine Below.setCell ?_ (by simp <;> omega) _))⟩
    · intro a l he; rw [HT.out] at he; injection he
  | ok y =>
    obtain ⟨a, l, k, ys⟩ := y
    obtain ⟨v, rfl, ho2, hf1, A3, cap3, b3, o3, rfl, hn3, hA3, hl3⟩ := h2 a l k ys ht
    have HT : Hid (oneB xs = if 0 < ys.length then .error 5 else .ok (a, l)) := by show oneB xs = _; rw [oneB, ht]
    have hly : ys.length ≤ xs.length := by rw [(tk_only ht).1]; simp
    have HA3 : Hid (flen l = 0 ∨ A3 = some ⟨b3, o3, none⟩) := hA3
    clear h1 h2 ht hA3
    obtain ⟨r0, r1, r2, r3, f0, f1, f2, f3⟩ := res4w ho2
    have hsz := ho2.size
    simp only [World.heap_size_alloc'] at hsz hl3
    have hlt : w.heap.size < w2.heap.size := by omega
    have hb2 : Below w.heap.size w w2 := (hb0 _).trans (ho2.mono (by simp))
    by_cases hl5 : 0 < ys.length
    · go_wp2_with fail
      refine bodyPost_ret (v := .tuple #[.agg #[.int .i64 0, .int .i64 0, .string ⟨#[]⟩, .slice none 0 0], .int .i64 5]) (by simp [results, Tryz.results51, go_sem, r0, r1, r2, r3, hlt]) rfl ⟨?_, ?_⟩
      · intro er' he
        rw [HT.out, if_pos hl5] at he; injection he with he; subst he
        exact ⟨rfl, (by repeat (first | exact Below.refl _ _ | assumption | refine below_drewN ?_ _ | refine Below.drew ?_ | refine Below.alloc ?_ (by simp <;> omega) _ | refine Below.setCell ?_ (by simp <;> omega) _))⟩
      · intro a l he; rw [HT.out, if_pos hl5] at he; injection he
    · have hy0 : ys.length = 0 := by omega
      rw [hy0, Nat.sub_zero]
      have hlt0 : decide ((xs.length : Int) < (xs.length : Int)) = false := by simp
      go_wp2_with fail
      refine bodyPost_ret (v := .tuple #[.agg #[.int .i64 a.kind, .int .i64 a.n, .string a.s, .slice A3 (flen l) cap3], .int .i64 0]) (by simp [results, Tryz.results51, go_sem, r0, r1, r2, r3, hlt]) rfl ⟨?_, ?_⟩
      · intro er he; rw [HT.out, if_neg hl5] at he; injection he
      · intro a' l' he
        rw [HT.out, if_neg hl5] at he; injection he with he; injection he with e1 e2; subst e1 e2
        refine ⟨_, rfl, (by repeat (first | exact Below.refl _ _ | assumption | refine below_drewN ?_ _ | refine Below.drew ?_ | refine Below.alloc ?_ (by simp <;> omega) _ | refine Below.setCell ?_ (by simp <;> omega) _)), hf1, A3, cap3, b3, o3, rfl, hn3, HA3.out, ?_⟩
        refine RepG.keep ?hS ?hC hl3
        case hS =>
          intro b hb
          have h1 := hb.1
          have h2 := hb.2
          exact ⟨by omega, by simp [World.setCell]; omega⟩
        case hC =>
          intro b o hb
          have h1 := hb.1
          have h2 := hb.2
          rw [World.cell?_alloc_past _ _ _ (by simp [World.setCell]; omega), cell_set4 _ _ _ _ _ _ _ _ (by omega)]

end Go.Proofs.YtgmmbfnmojjbkaaGreatDoor
