import Derived.Test.YtihfhmlgfacoiaaW21
import Derived.Deep.OwnRows
import Derived.Laws.IdiomStrings
namespace Go.Proofs.Ytihfhmlgfacoiaa
open Go.RowKit
set_option linter.unusedVariables false
set_option linter.unusedSimpArgs false

/-- A term in a variable of its own. -/
def BoxT (w : World) (M : Nat) (S : Nat → Prop) (a : Nd) (l : Fo) : Prop :=
  a.Fit ∧ flen l ≤ 9223372036854775807 ∧ (∀ q, w.frozen? ⟨M, q, none⟩ = false) ∧ ∃ A cap b o, Box4 w M (.int .i64 a.kind) (.int .i64 a.n) (.string a.s) (.slice A (flen l) cap) ∧ (flen l = 0 ∨ A = some ⟨b, o, none⟩) ∧ RepG w S l b o

theorem BoxT.keep {w W : World} {M : Nat} {S S' : Nat → Prop} {a : Nd} {l : Fo} (h : BoxT w M S a l) (hS : ∀ q, S q → S' q) (hc : ∀ q o, S q ∨ q = M → W.cell? ⟨q, o, none⟩ = w.cell? ⟨q, o, none⟩) (hf : ∀ q, W.frozen? ⟨M, q, none⟩ = w.frozen? ⟨M, q, none⟩) (hs : w.heap.size ≤ W.heap.size) : BoxT W M S' a l := by
  obtain ⟨h1, h2, h3, A, cap, b, o, ⟨y0, y1, y2, y3, y4⟩, hA, hr⟩ := h
  exact ⟨h1, h2, fun q => by rw [hf, h3], A, cap, b, o, ⟨by omega, by rw [hc _ _ (.inr rfl), y1], by rw [hc _ _ (.inr rfl), y2], by rw [hc _ _ (.inr rfl), y3], by rw [hc _ _ (.inr rfl), y4]⟩, hA, RepG.keep hS (fun b o hb => hc b o (.inl hb)) hr⟩

theorem frozen_set4 (w : World) (q : Nat) (u0 u1 u2 u3 : Value) (p : Addr) :
    ((((w.setCell ⟨q, 0, none⟩ u0).setCell ⟨q, 1, none⟩ u1).setCell ⟨q, 2, none⟩ u2).setCell ⟨q, 3, none⟩ u3).frozen? p = w.frozen? p := by simp [go_sem]

/-- A node over what stands in the variable. -/
theorem boxT_wrap {w w2 : World} {M : Nat} {S S' : Nat → Prop} {a : Nd} {l : Fo} {A : Option Addr} {cap b o : Nat} {k : Int} {T : TypeId} {v0 v1 v2 v3 : Value} (hk : 0 ≤ k ∧ k ≤ 100)
    (hS : ∀ q, S q → q ≠ M ∧ q < w.heap.size ∧ S' q) (hS' : S' w.heap.size) (hM : M < w.heap.size) (hf : a.Fit) (hn : flen l ≤ 9223372036854775807) (hA : flen l = 0 ∨ A = some ⟨b, o, none⟩) (hr : RepG w S l b o) (hz : ∀ q, w.frozen? ⟨M, q, none⟩ = false)
    (hx : Box4 w2 M v0 v1 v2 v3) (ho : Below (w.alloc (.cells #[.int .i64 a.kind, .int .i64 a.n, .string a.s, .slice A (flen l) cap] T)).heap.size (w.alloc (.cells #[.int .i64 a.kind, .int .i64 a.n, .string a.s, .slice A (flen l) cap] T)) w2) :
    BoxT ((((w2.setCell ⟨M, 0, none⟩ (.int .i64 k)).setCell ⟨M, 1, none⟩ (.int .i64 0)).setCell ⟨M, 2, none⟩ (.string ByteArray.empty)).setCell ⟨M, 3, none⟩ (.slice (some ⟨w.heap.size, 0, none⟩) 1 1)) M S' ⟨k, 0, ByteArray.empty⟩ (.node 0 0 a l .nil) := by
  have hs := ho.size
  simp only [World.heap_size_alloc'] at hs
  refine ⟨fit_kind _ hk, by simp [flen], fun q => ?_, some ⟨w.heap.size, 0, none⟩, 1, w.heap.size, 0, ⟨by rw [size_set4]; exact hx.1, ?_, ?_, ?_, ?_⟩, .inr rfl, ?_⟩
  · rw [frozen_set4, ho.frozen (by simp; omega)]
    rw [Below.frozen (Below.alloc (Below.refl w.heap.size w) (Nat.le_refl _) _) (by simpa using hM), hz q]
  · simp [go_sem, hx.2.1]
  · simp [go_sem, hx.2.2.1]
  · simp [go_sem, hx.2.2.2.1]
  · simp [go_sem, hx.2.2.2.2, flen]
  · have hc : ∀ o, ((((w2.setCell ⟨M, 0, none⟩ (.int .i64 k)).setCell ⟨M, 1, none⟩ (.int .i64 0)).setCell ⟨M, 2, none⟩ (.string ByteArray.empty)).setCell ⟨M, 3, none⟩
          (.slice (some ⟨w.heap.size, 0, none⟩) 1 1)).cell? ⟨w.heap.size, o, none⟩ = (#[Value.int .i64 a.kind, .int .i64 a.n, .string a.s, .slice A (flen l) cap] : Array Value)[o]? := fun o => by
        rw [cell_set4 _ _ _ _ _ _ _ _ (by omega), ho.cell (by simp)]; simp [go_sem]
    refine ⟨hS', hf, by rw [hc]; rfl, by rw [hc]; rfl, by rw [hc]; rfl, ⟨A, cap, b, o, by rw [hc]; rfl, hn, hA, ?_⟩, trivial⟩
    refine RepG.keep (fun q hq => (hS q hq).2.2) (fun q o hq => ?_) hr
    obtain ⟨q1, q2, q3⟩ := hS q hq
    rw [cell_set4 _ _ _ _ _ _ _ _ (by omega), ho.cell (by simp; omega)]
    exact World.cell?_alloc_past _ _ _ (by omega)

theorem BoxT.rep {w : World} {M : Nat} {S : Nat → Prop} {a : Nd} {l : Fo} (h : BoxT w M S a l) (hS : ∀ q, S q → q < w.heap.size) :
    ∃ A cap, Box4 w M (.int .i64 a.kind) (.int .i64 a.n) (.string a.s) (.slice A (flen l) cap) ∧ RepV w w.heap.size a l (.agg #[.int .i64 a.kind, .int .i64 a.n, .string a.s, .slice A (flen l) cap]) := by
  obtain ⟨h1, h2, h3, A, cap, b, o, hb, hA, hr⟩ := h
  exact ⟨A, cap, hb, h1, A, cap, b, o, rfl, h2, hA, RepG.toF hS hr⟩

theorem leaf_may (a : Nd) (deep c : Int) : (mayT a .nil deep c).1 = (decide (c + 1 ≤ 64) && (decide (deep ≤ 16) && formedB a.kind a.n a.s 0)) := by
  rw [mayT]
  show (if mayB a (flen .nil) deep c then mayF .nil (deep + 1) (c + 1) else (false, c + 1)).1 = mayB a (flen .nil) deep c
  split
  · rename_i h; rw [h, mayF]
  · rename_i h; simp only [Bool.not_eq_true] at h; rw [h]

theorem bounds_deep (r : Nat) (hr : r < 8) : may (wrapT 3 (12 + r) (⟨1, 0, ⟨#[120]⟩⟩, .nil)).1 (wrapT 3 (12 + r) (⟨1, 0, ⟨#[120]⟩⟩, .nil)).2 = decide ((12 + (r : Int)) + 1 ≤ 16) := by
  rw [may, wrap_may 3 (.inl rfl), leaf_may]
  have hf : formedB 1 0 ⟨#[120]⟩ 0 = true := by simp [formedB, kidsOf]; decide
  simp only [hf, Bool.and_true]
  rw [← Bool.decide_and, ← Bool.decide_and]
  exact decide_eq_decide.2 (by omega)

theorem bounds_size (r : Nat) (hr : r < 8) : may (wrapT 4 r (fullT 5)).1 (wrapT 4 r (fullT 5)).2 = decide (63 + (12 + (r : Int)) - 12 ≤ 64) := by
  rw [may, wrap_may 4 (.inr rfl)]
  by_cases h : r ≤ 1
  · rw [full_may _ _ _ (by simp; omega) (by omega)]
    simp only [Bool.and_true]
    exact decide_eq_decide.2 (by omega)
  · rw [full_not _ _ _ (by simp; omega) (by omega), Bool.and_false]
    symm; exact decide_eq_false (by omega)

theorem bounds_atom (r : Nat) (s : ByteArray) (hs : s.size = 1020 + r) : may ⟨1, 0, s⟩ .nil = decide (1020 + (r : Int) ≤ 1024) := by
  rw [may, leaf_may]
  simp [formedB, kidsOf, hs]

theorem bounds_nonce (v : Int) (h : 0 ≤ v) : may ⟨2, v, ByteArray.empty⟩ .nil = decide (v ≤ 1073741824) := by
  rw [may, leaf_may]
  simp [formedB, kidsOf, emp_list', h]

theorem bounds_neg : may ⟨2, -1, ByteArray.empty⟩ .nil = false := by
  rw [may, leaf_may]
  simp [formedB, kidsOf, emp_list']

theorem Try.infoByte : (Try.prog.info? 5).map (fun i => (i.zero, i.size, i.bytes)) = some (some (.int .u8 0), 1, 1) := by kernel_rfl

end Go.Proofs.Ytihfhmlgfacoiaa
