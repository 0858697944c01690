import Derived.Test.YtooffmmfacdjeaaC13
import Derived.Test.YtooffmmfacdjeaaA1
import Derived.Deep.RegionHeld3
namespace Go.Proofs.Ytooffmmfacdjeaa
open Go.RowKit
set_option linter.unusedVariables false
set_option linter.unusedSimpArgs false

theorem size_setCellR (w : World) (p : Addr) (u : Value) : (w.setCell p u).heap.size = w.heap.size := by simp [World.setCell]

def RfEnd (w : World) (rb : Nat) (A : Option Addr) (cap : Nat) (bs : List UInt8) (r : Except Nat (Nd × Fo × Nat × List UInt8)) (e : Ending) (w' : World) : Prop :=
  (∀ er, r = .error er → ∃ (k n : Int) (s : ByteArray) (K : Option Addr) (len c : Nat) (at' left : Int), e = .returned (.agg #[.int .i64 k, .int .i64 n, .string s, .slice K len c]) ∧ Only rb w w' ∧ RfSt w' rb A cap bs at' left (er : Int)) ∧
  (∀ a l k ys, r = .ok (a, l, k, ys) → ∃ (v : Value) (at' : Nat), e = .returned v ∧ Only rb w w' ∧ RfSt w' rb A cap bs (at' : Int) (64 - (k : Int)) 0 ∧ at' ≤ bs.length ∧ bs.drop at' = ys ∧ RepVG w' (fun b => w.heap.size ≤ b ∧ b < w'.heap.size) a l v)

theorem rf_err {w w' : World} {rb : Nat} {A : Option Addr} {cap : Nat} {bs : List UInt8} {r : Except Nat (Nd × Fo × Nat × List UInt8)} {er : Nat} (hr : r = .error er) {k n : Int} {s : ByteArray} {K : Option Addr} {len c : Nat} {at' left : Int} (ho : Only rb w w') (h : RfSt w' rb A cap bs at' left (er : Int)) :
    RfEnd w rb A cap bs r (.returned (.agg #[.int .i64 k, .int .i64 n, .string s, .slice K len c])) w' :=
  ⟨fun er' h' => by rw [hr] at h'; injection h' with h'; subst h'; exact ⟨k, n, s, K, len, c, at', left, rfl, ho, h⟩, fun a l k ys h' => by rw [hr] at h'; injection h'⟩

theorem rf_ok {w w' : World} {rb : Nat} {A : Option Addr} {cap : Nat} {bs : List UInt8} {r : Except Nat (Nd × Fo × Nat × List UInt8)} {a : Nd} {l : Fo} {k : Nat} {ys : List UInt8} {v : Value} {at' : Nat} (hr : r = .ok (a, l, k, ys)) (ho : Only rb w w') (h : RfSt w' rb A cap bs (at' : Int) (64 - (k : Int)) 0) (h1 : at' ≤ bs.length) (h2 : bs.drop at' = ys)
    (h3 : RepVG w' (fun b => w.heap.size ≤ b ∧ b < w'.heap.size) a l v) : RfEnd w rb A cap bs r (.returned v) w' :=
  ⟨fun er h' => by rw [hr] at h'; injection h', fun a' l' k' ys' h' => by rw [hr] at h'; injection h' with h'; injection h' with e1 h'; injection h' with e2 h'; injection h' with e3 e4; subst e1 e2 e3 e4; exact ⟨v, at', rfl, ho, h, h1, h2, h3⟩⟩

def RNodeOk (f : Nat) : Prop := ∀ (w : World) (rb : Nat) (A : Option Addr) (cap : Nat) (bs : List UInt8) (at' k B : Nat) (dz : Int), dz = 17 - (f : Int) → RfSt w rb A cap bs (at' : Int) (64 - (k : Int)) 0 → ByAt w B A bs → B ≤ rb → k ≤ 64 → at' ≤ bs.length → bs.length ≤ 100000 → bs.length ≤ cap → cap ≤ maxLen →
    Calls Try.prog 37 #[.pointer (some ⟨rb, 0, none⟩), .int .i64 dz] w fun e w' => RfEnd w rb A cap bs (tk f k (bs.drop at')) e w'

set_option maxRecDepth 100000 in
set_option maxHeartbeats 2000000 in
theorem rnode_big (f : Nat) (w : World) (rb : Nat) (A : Option Addr) (cap : Nat) (bs : List UInt8) (at' k : Nat) (dz : Int) (hR : RfSt w rb A cap bs (at' : Int) (64 - (k : Int)) 0) (hd : 0 ≤ dz ∧ dz ≤ 17) (hk : k ≤ 64) (hbig : 64 ≤ k ∨ 17 ≤ dz) (xs : List UInt8) (ht : tk f k xs = .error 4) :
    Calls Try.prog 37 #[.pointer (some ⟨rb, 0, none⟩), .int .i64 dz] w fun e w' => RfEnd w rb A cap bs (tk f k xs) e w' := by
  have HR : Hid (RfSt w rb A cap bs (at' : Int) (64 - (k : Int)) 0) := hR
  obtain ⟨h0, c0, c1, c2, c3, g1, g2, g3⟩ := hR
  have HT : Hid (tk f k xs = .error 4) := ht
  clear ht
  obtain ⟨hd0, hd1⟩ := hd
  by_cases hk1 : 64 ≤ k
  · have hk2 : decide (64 - (k : Int) < 1) = true := by simp; omega
    go_enter Try.func37, Try.ntmps37
    go_wp2_with fail
    exact bodyPost_ret (v := .agg #[.int .i64 0, .int .i64 0, .string ⟨#[]⟩, .slice none 0 0]) (by simp [results, Try.results37, go_sem, size_setCellR]) rfl
      (rf_err (er := 4) HT.out (Only.alloc (Only.alloc (Only.setCell (p := ⟨rb, 3, none⟩) (Only.refl _ _) (.inl rfl) _) _) _) ((HR.out.set3 4).keep (Below.alloc (Below.alloc (Below.refl _ _) (Nat.le_refl _) _) (by simp) _)))
  · have hk2 : decide (64 - (k : Int) < 1) = false := by simp; omega
    have hk3 : decide (16 < dz) = true := by simp; omega
    go_enter Try.func37, Try.ntmps37
    go_wp2_with fail
    exact bodyPost_ret (v := .agg #[.int .i64 0, .int .i64 0, .string ⟨#[]⟩, .slice none 0 0]) (by simp [results, Try.results37, go_sem, size_setCellR]) rfl
      (rf_err (er := 4) HT.out (Only.alloc (Only.alloc (Only.setCell (p := ⟨rb, 3, none⟩) (Only.refl _ _) (.inl rfl) _) _) _) ((HR.out.set3 4).keep (Below.alloc (Below.alloc (Below.refl _ _) (Nat.le_refl _) _) (by simp) _)))

/-- Where node stands: the reader, its term t in the block behind the result's. -/
structure NdSt (w wr : World) (rb : Nat) (A : Option Addr) (cap : Nat) (bs : List UInt8) (at' left er kd nn : Int) (ss : ByteArray) (kv : Value) : Prop where
  only : Only rb w wr
  st : RfSt wr rb A cap bs at' left er
  t0 : wr.cell? ⟨w.heap.size + 1, 0, none⟩ = some (.int .i64 kd)
  t1 : wr.cell? ⟨w.heap.size + 1, 1, none⟩ = some (.int .i64 nn)
  t2 : wr.cell? ⟨w.heap.size + 1, 2, none⟩ = some (.string ss)
  t3 : wr.cell? ⟨w.heap.size + 1, 3, none⟩ = some kv
  tf : ∀ j, wr.frozen? ⟨w.heap.size + 1, j, none⟩ = false
  r0 : wr.cell? ⟨w.heap.size, 0, none⟩ = some (.int .i64 0)
  r1 : wr.cell? ⟨w.heap.size, 1, none⟩ = some (.int .i64 0)
  r2 : wr.cell? ⟨w.heap.size, 2, none⟩ = some (.string ⟨#[]⟩)
  r3 : wr.cell? ⟨w.heap.size, 3, none⟩ = some (.slice none 0 0)
  rf : ∀ j, wr.frozen? ⟨w.heap.size, j, none⟩ = false
  sz : w.heap.size + 1 < wr.heap.size

/-- Another world in which the two blocks and the reader are so. -/
theorem NdSt.move {w wr wn : World} {rb : Nat} {A : Option Addr} {cap : Nat} {bs : List UInt8} {at' left er at2 left2 er2 kd nn : Int} {ss : ByteArray} {kv : Value} (h : NdSt w wr rb A cap bs at' left er kd nn ss kv) (hrb : rb < w.heap.size) (ho : Only rb wr wn) (hs : RfSt wn rb A cap bs at2 left2 er2) : NdSt w wn rb A cap bs at2 left2 er2 kd nn ss kv := by
  have hz := h.sz
  have c1 : ∀ j, wn.cell? ⟨w.heap.size + 1, j, none⟩ = wr.cell? ⟨w.heap.size + 1, j, none⟩ := fun j => ho.cell hz (by simp; omega)
  have c2 : ∀ j, wn.cell? ⟨w.heap.size, j, none⟩ = wr.cell? ⟨w.heap.size, j, none⟩ := fun j => ho.cell (by simp; omega) (by simp; omega)
  exact ⟨h.only.trans ho, hs, by rw [c1]; exact h.t0, by rw [c1]; exact h.t1, by rw [c1]; exact h.t2, by rw [c1]; exact h.t3, fun j => by rw [ho.frozen hz (by simp; omega)]; exact h.tf j, by rw [c2]; exact h.r0, by rw [c2]; exact h.r1, by rw [c2]; exact h.r2, by rw [c2]; exact h.r3, fun j => by rw [ho.frozen (by simp; omega) (by simp; omega)]; exact h.rf j, Nat.lt_of_lt_of_le hz ho.size⟩

theorem NdSt.first (w : World) {rb : Nat} {A : Option Addr} {cap : Nat} {bs : List UInt8} {at' left : Int} (h : RfSt w rb A cap bs at' left 0) (x : Int) :
    NdSt w (((w.setCell ⟨rb, 2, none⟩ (.int .i64 x)).alloc (.cells #[.int .i64 0, .int .i64 0, .string ⟨#[]⟩, .slice none 0 0] 30)).alloc (.cells #[.int .i64 0, .int .i64 0, .string ⟨#[]⟩, .slice none 0 0] 30)) rb A cap bs at' x 0 0 0 ⟨#[]⟩ (.slice none 0 0) := by
  have hs : (w.setCell ⟨rb, 2, none⟩ (.int .i64 x)).heap.size = w.heap.size := size_setCellR _ _ _
  refine ⟨Only.alloc (Only.alloc (Only.setCell (p := ⟨rb, 2, none⟩) (Only.refl _ _) (.inl rfl) _) _) _, (h.set2 x).keep (Below.alloc (Below.alloc (Below.refl _ _) (Nat.le_refl _) _) (by simp) _), ?_, ?_, ?_, ?_, fun j => ?_, ?_, ?_, ?_, ?_, fun j => ?_, by simp [hs]⟩
  all_goals simp [go_sem, hs]

end Go.Proofs.Ytooffmmfacdjeaa
