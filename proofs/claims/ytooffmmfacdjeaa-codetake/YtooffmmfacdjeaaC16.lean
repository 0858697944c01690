import Derived.Test.YtooffmmfacdjeaaC15
import Derived.Test.YtooffmmfacdjeaaC6
namespace Go.Proofs.Ytooffmmfacdjeaa
open Go.RowKit
set_option linter.unusedVariables false
set_option linter.unusedSimpArgs false

/-- Behind so many kids, none of them wrong; or behind one that is. -/
def RkRel (w : World) (f rb : Nat) (A : Option Addr) (cap : Nat) (bs : List UInt8) (h c k : Nat) (zs : List UInt8) (iv : Value) (wr : World) : Prop :=
  (∃ (ks : List Kd) (k' at2 : Nat) (kv : Value), iv = .int .i64 (ks.length : Int) ∧ ks.length ≤ c ∧ k' ≤ 64 ∧ at2 ≤ bs.length ∧ kidsG (tk f) c (k + 1) zs = addK ks (kidsG (tk f) (c - ks.length) k' (bs.drop at2)) ∧
    NdSt w wr rb A cap bs (at2 : Int) (64 - (k' : Int)) 0 (h : Int) 0 ⟨#[]⟩ kv ∧ wr.ownsRow (w.heap.size + 2) 30 4 kv ks.length (rowOf ks) ∧ (∀ q ∈ ks, q.Ok wr (fun b => w.heap.size + 2 ≤ b ∧ b < wr.heap.size ∧ kv.ownBlock ≠ some b))) ∨
  (∃ (i : Nat) (er : Nat) (at2 left : Int) (K : Option Addr) (len cc : Nat), iv = .int .i64 (i : Int) ∧ i ≤ c ∧ 1 ≤ er ∧ er ≤ 4 ∧ kidsG (tk f) c (k + 1) zs = .error er ∧ NdSt w wr rb A cap bs at2 left (er : Int) (h : Int) 0 ⟨#[]⟩ (.slice K len cc))

theorem owns_slice {w : World} {base n : Nat} {v : Value} {xs : List Value} (h : w.ownsRow base 30 4 v n xs) : ∃ K cc, v = .slice K n cc := by
  rcases h.2 with ⟨h1, h2⟩ | ⟨g, cap, cur, h1, _⟩
  · exact ⟨none, 0, by rw [h1, h2]⟩
  · exact ⟨_, cap, h1⟩

theorem NdSt.kids {w wr : World} {rb : Nat} {A : Option Addr} {cap : Nat} {bs : List UInt8} {at' left er kd nn : Int} {ss : ByteArray} {kv : Value} (h : NdSt w wr rb A cap bs at' left er kd nn ss kv) (hrb : rb < w.heap.size) (x : Value) : NdSt w (wr.setCell ⟨w.heap.size + 1, 3, none⟩ x) rb A cap bs at' left er kd nn ss x := by
  obtain ⟨a, b, c, d, e, f⟩ := h.setT hrb 3 x
  exact ⟨a, b, by rw [c 0 (by omega)]; exact h.t0, by rw [c 1 (by omega)]; exact h.t1, by rw [c 2 (by omega)]; exact h.t2, World.cell?_setCell_same _ _ _ h.t3, fun j => by rw [e]; exact h.tf j, by rw [d]; exact h.r0, by rw [d]; exact h.r1, by rw [d]; exact h.r2, by rw [d]; exact h.r3, fun j => by rw [e]; exact h.rf j, f⟩

/-- A row of its own, from behind t on, has grown: the rest is as it was. -/
theorem NdSt.grown {w wr wn : World} {rb : Nat} {A : Option Addr} {cap : Nat} {bs : List UInt8} {at' left er kd nn : Int} {ss : ByteArray} {kv : Value} {row : Option Nat} (h : NdSt w wr rb A cap bs at' left er kd nn ss kv) (hrb : rb < w.heap.size) (hg : wr.grownBy wn row) (hrow : ∀ q, row = some q → w.heap.size + 2 ≤ q) : NdSt w wn rb A cap bs at' left er kd nn ss kv := by
  have hz := h.sz
  have hb : Below (w.heap.size + 2) wr wn := ⟨hg.os, hg.tape, hg.output, hg.size, fun i hi => hg.block i (by omega) (fun e => by have := hrow i e.symm; omega)⟩
  have s := h.st
  have hst : RfSt wn rb A cap bs at' left er := ⟨by have := hg.size; omega, by rw [hb.cell (by simp; omega)]; exact s.c0, by rw [hb.cell (by simp; omega)]; exact s.c1, by rw [hb.cell (by simp; omega)]; exact s.c2, by rw [hb.cell (by simp; omega)]; exact s.c3, by rw [hb.frozen (by simp; omega)]; exact s.f1, by rw [hb.frozen (by simp; omega)]; exact s.f2, by rw [hb.frozen (by simp; omega)]; exact s.f3⟩
  have o := h.only
  exact ⟨⟨hb.os.trans o.os, hb.tape.trans o.tape, hb.output.trans o.output, Nat.le_trans o.size hb.size, fun i hi hn => (hb.block i (by omega)).trans (o.block i hi hn)⟩, hst, by rw [hb.cell (by simp)]; exact h.t0, by rw [hb.cell (by simp)]; exact h.t1, by rw [hb.cell (by simp)]; exact h.t2, by rw [hb.cell (by simp)]; exact h.t3, fun j => by rw [hb.frozen (by simp)]; exact h.tf j, by rw [hb.cell (by simp)]; exact h.r0, by rw [hb.cell (by simp)]; exact h.r1, by rw [hb.cell (by simp)]; exact h.r2, by rw [hb.cell (by simp)]; exact h.r3, fun j => by rw [hb.frozen (by simp)]; exact h.rf j, by have := hg.size; omega⟩

end Go.Proofs.Ytooffmmfacdjeaa
