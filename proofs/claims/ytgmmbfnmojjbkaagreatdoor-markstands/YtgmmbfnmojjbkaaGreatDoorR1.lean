import Derived.Test.YtgmmbfnmojjbkaaGreatDoorT0
import Derived.WalkKit
import Derived.WalkSpells
import Derived.WalkLawsBesides
import Derived.Deep.QuietTactic
import Derived.BigQuiet
import Derived.Deep.Trees
namespace Go.Proofs.YtgmmbfnmojjbkaaGreatDoor
open Go.RowKit
set_option linter.unusedVariables false
set_option linter.unusedSimpArgs false

/-- A node of a term, without its kids. -/
structure Nd where
  kind : Int
  n : Int
  s : ByteArray

/-- A row of terms: the first one's node, its kids, the terms behind it. -/
abbrev Fo := Go.Deep.BT Nd

def flen : Fo → Nat
  | .nil => 0
  | .node _ _ _ _ r => flen r + 1

/-- What a node's numbers and bytes keep to, as any that is read. -/
def Nd.Fit (a : Nd) : Prop := -9223372036854775808 ≤ a.kind ∧ a.kind ≤ 9223372036854775807 ∧ -9223372036854775808 ≤ a.n ∧ a.n ≤ 9223372036854775807 ∧ a.s.size ≤ maxLen

/-- The terms of f lie in w one behind the other from (b, o) on, in blocks below B. -/
def RepF (w : World) (B : Nat) : Fo → Nat → Nat → Prop
  | .nil, _, _ => True
  | .node _ _ a l r, b, o => b < B ∧ a.Fit ∧ w.cell? ⟨b, o, none⟩ = some (.int .i64 a.kind) ∧ w.cell? ⟨b, o + 1, none⟩ = some (.int .i64 a.n) ∧ w.cell? ⟨b, o + 2, none⟩ = some (.string a.s) ∧
      (∃ A cap b' o', w.cell? ⟨b, o + 3, none⟩ = some (.slice A (flen l) cap) ∧ (flen l ≤ 9223372036854775807 ∧ flen l ≤ cap) ∧ (flen l = 0 ∨ A = some ⟨b', o', none⟩) ∧ RepF w B l b' o') ∧ RepF w B r b (o + 4)

/-- v is the term of the node a and the kids l. -/
def RepV (w : World) (B : Nat) (a : Nd) (l : Fo) (v : Value) : Prop :=
  a.Fit ∧ ∃ A cap b o, v = .agg #[.int .i64 a.kind, .int .i64 a.n, .string a.s, .slice A (flen l) cap] ∧ (flen l ≤ 9223372036854775807 ∧ flen l ≤ cap) ∧ (flen l = 0 ∨ A = some ⟨b, o, none⟩) ∧ RepF w B l b o

theorem RepF.keep {w w' : World} {B B' : Nat} (hB : B ≤ B') (h : ∀ b o, b < B → w'.cell? ⟨b, o, none⟩ = w.cell? ⟨b, o, none⟩) : ∀ {f : Fo} {b o : Nat}, RepF w B f b o → RepF w' B' f b o
  | .nil, _, _, _ => trivial
  | .node _ _ a l r, b, o, ⟨hb, hf, h0, h1, h2, ⟨A, cap, b', o', h3, hn, hA, hl⟩, hr⟩ =>
    ⟨Nat.lt_of_lt_of_le hb hB, hf, by rw [h _ _ hb]; exact h0, by rw [h _ _ hb]; exact h1, by rw [h _ _ hb]; exact h2, ⟨A, cap, b', o', by rw [h _ _ hb]; exact h3, hn, hA, RepF.keep hB h hl⟩, RepF.keep hB h hr⟩

theorem RepV.keep {w w' : World} {B B' : Nat} (hB : B ≤ B') (h : ∀ b o, b < B → w'.cell? ⟨b, o, none⟩ = w.cell? ⟨b, o, none⟩) {a : Nd} {l : Fo} {v : Value} : RepV w B a l v → RepV w' B' a l v
  | ⟨hf, A, cap, b, o, hv, hn, hA, hl⟩ => ⟨hf, A, cap, b, o, hv, hn, hA, RepF.keep hB h hl⟩

theorem RepF.below {w w' : World} {B : Nat} (h : Below B w w') {f : Fo} {b o : Nat} (hr : RepF w B f b o) : RepF w' B f b o := RepF.keep (Nat.le_refl _) (fun _ _ hb => h.cell hb) hr
theorem RepV.below {w w' : World} {B : Nat} (h : Below B w w') {a : Nd} {l : Fo} {v : Value} (hr : RepV w B a l v) : RepV w' B a l v := RepV.keep (Nat.le_refl _) (fun _ _ hb => h.cell hb) hr

theorem RepF.drew {w : World} {B : Nat} {f : Fo} {b o : Nat} (hr : RepF w B f b o) : RepF w.drew B f b o := RepF.keep (w := w) (w' := w.drew) (Nat.le_refl _) (fun _ _ _ => rfl) hr

theorem Only.set4 {b : Nat} {a w : World} (h : Only b a w) {q : Nat} (hq : a.heap.size ≤ q) (u0 u1 u2 u3 : Value) :
    Only b a ((((w.setCell ⟨q, 0, none⟩ u0).setCell ⟨q, 1, none⟩ u1).setCell ⟨q, 2, none⟩ u2).setCell ⟨q, 3, none⟩ u3) :=
  Only.setCell (p := ⟨q, 3, none⟩) (Only.setCell (p := ⟨q, 2, none⟩) (Only.setCell (p := ⟨q, 1, none⟩) (Only.setCell (p := ⟨q, 0, none⟩) h (.inr hq) _) (.inr hq) _) (.inr hq) _) (.inr hq) _

theorem cell_set4 (w : World) (q : Nat) (u0 u1 u2 u3 : Value) (b o : Nat) (h : b ≠ q) :
    ((((w.setCell ⟨q, 0, none⟩ u0).setCell ⟨q, 1, none⟩ u1).setCell ⟨q, 2, none⟩ u2).setCell ⟨q, 3, none⟩ u3).cell? ⟨b, o, none⟩ = w.cell? ⟨b, o, none⟩ := by
  rw [World.cell?_setCell_other, World.cell?_setCell_other, World.cell?_setCell_other, World.cell?_setCell_other]
  all_goals (intro e; injection e with e1; exact h e1.symm)

theorem res4 {tb : Nat} {w W : World} {T : TypeId} (h : Only tb (w.alloc (.cells #[.int .i64 0, .int .i64 0, .string ⟨#[]⟩, .slice none 0 0] T)) W) (ht : tb < w.heap.size) :
    W.cell? ⟨w.heap.size, 0, none⟩ = some (.int .i64 0) ∧ W.cell? ⟨w.heap.size, 1, none⟩ = some (.int .i64 0) ∧ W.cell? ⟨w.heap.size, 2, none⟩ = some (.string ⟨#[]⟩) ∧ W.cell? ⟨w.heap.size, 3, none⟩ = some (.slice none 0 0) ∧
      W.frozen? ⟨w.heap.size, 0, none⟩ = false ∧ W.frozen? ⟨w.heap.size, 1, none⟩ = false ∧ W.frozen? ⟨w.heap.size, 2, none⟩ = false ∧ W.frozen? ⟨w.heap.size, 3, none⟩ = false := by
  refine ⟨?_, ?_, ?_, ?_, ?_, ?_, ?_, ?_⟩
  all_goals first | rw [h.cell (by simp) (by simp; omega)] | rw [h.frozen (by simp) (by simp; omega)]
  all_goals simp [go_sem]

/-- The box of a term in block b. -/
abbrev Box4 (w : World) (b : Nat) (v0 v1 v2 v3 : Value) : Prop :=
  b < w.heap.size ∧ w.cell? ⟨b, 0, none⟩ = some v0 ∧ w.cell? ⟨b, 1, none⟩ = some v1 ∧ w.cell? ⟨b, 2, none⟩ = some v2 ∧ w.cell? ⟨b, 3, none⟩ = some v3

theorem Box4.only {w w' : World} {b c : Nat} {v0 v1 v2 v3 : Value} (h : Box4 w b v0 v1 v2 v3) (ho : Only c w w') (hb : b ≠ c) : Box4 w' b v0 v1 v2 v3 := by
  obtain ⟨h0, h1, h2, h3, h4⟩ := h
  exact ⟨Nat.lt_of_lt_of_le h0 ho.size, by rw [ho.cell h0 hb]; exact h1, by rw [ho.cell h0 hb]; exact h2, by rw [ho.cell h0 hb]; exact h3, by rw [ho.cell h0 hb]; exact h4⟩
theorem Box4.below {w w' : World} {b : Nat} {v0 v1 v2 v3 : Value} (h : Box4 w b v0 v1 v2 v3) (ho : Below w.heap.size w w') : Box4 w' b v0 v1 v2 v3 :=
  h.only (c := b + 1) ((Only.refl _ _).below ho) (by omega)
theorem Box4.alloc {w : World} {b : Nat} {v0 v1 v2 v3 : Value} (h : Box4 w b v0 v1 v2 v3) (o : Obj) : Box4 (w.alloc o) b v0 v1 v2 v3 := h.below (Below.alloc (Below.refl _ _) (Nat.le_refl _) _)
theorem Box4.drew {w : World} {b : Nat} {v0 v1 v2 v3 : Value} (h : Box4 w b v0 v1 v2 v3) : Box4 w.drew b v0 v1 v2 v3 := h.below (Below.drew (Below.refl _ _))
theorem Box4.set {w : World} {b q : Nat} {v0 v1 v2 v3 : Value} (h : Box4 w b v0 v1 v2 v3) (hq : b ≠ q) (o : Nat) (u : Value) : Box4 (w.setCell ⟨q, o, none⟩ u) b v0 v1 v2 v3 :=
  h.only (c := q) (Only.setCell (p := ⟨q, o, none⟩) (Only.refl q w) (.inl rfl) u) hq
theorem Box4.new (w : World) (v0 v1 v2 v3 : Value) (T : TypeId) : Box4 (w.alloc (.cells #[v0, v1, v2, v3] T)) w.heap.size v0 v1 v2 v3 := by
  refine ⟨by simp, ?_, ?_, ?_, ?_⟩ <;> simp [go_sem]

theorem World.heap_size_drew' (w : World) : w.drew.heap.size = w.heap.size := rfl
theorem World.heap_size_alloc' (w : World) (o : Obj) : (w.alloc o).heap.size = w.heap.size + 1 := by simp
/-- As RepF, the blocks in a set S. -/
def RepG (w : World) (S : Nat → Prop) : Fo → Nat → Nat → Prop
  | .nil, _, _ => True
  | .node _ _ a l r, b, o => S b ∧ a.Fit ∧ w.cell? ⟨b, o, none⟩ = some (.int .i64 a.kind) ∧ w.cell? ⟨b, o + 1, none⟩ = some (.int .i64 a.n) ∧ w.cell? ⟨b, o + 2, none⟩ = some (.string a.s) ∧
      (∃ A cap b' o', w.cell? ⟨b, o + 3, none⟩ = some (.slice A (flen l) cap) ∧ (flen l ≤ 9223372036854775807 ∧ flen l ≤ cap) ∧ (flen l = 0 ∨ A = some ⟨b', o', none⟩) ∧ RepG w S l b' o') ∧ RepG w S r b (o + 4)

def RepVG (w : World) (S : Nat → Prop) (a : Nd) (l : Fo) (v : Value) : Prop :=
  a.Fit ∧ ∃ A cap b o, v = .agg #[.int .i64 a.kind, .int .i64 a.n, .string a.s, .slice A (flen l) cap] ∧ (flen l ≤ 9223372036854775807 ∧ flen l ≤ cap) ∧ (flen l = 0 ∨ A = some ⟨b, o, none⟩) ∧ RepG w S l b o

theorem RepG.keep {w w' : World} {S S' : Nat → Prop} (hS : ∀ b, S b → S' b) (h : ∀ b o, S b → w'.cell? ⟨b, o, none⟩ = w.cell? ⟨b, o, none⟩) : ∀ {f : Fo} {b o : Nat}, RepG w S f b o → RepG w' S' f b o
  | .nil, _, _, _ => trivial
  | .node _ _ a l r, b, o, ⟨hb, hf, h0, h1, h2, ⟨A, cap, b', o', h3, hn, hA, hl⟩, hr⟩ =>
    ⟨hS b hb, hf, by rw [h _ _ hb]; exact h0, by rw [h _ _ hb]; exact h1, by rw [h _ _ hb]; exact h2, ⟨A, cap, b', o', by rw [h _ _ hb]; exact h3, hn, hA, RepG.keep hS h hl⟩, RepG.keep hS h hr⟩

theorem RepVG.keep {w w' : World} {S S' : Nat → Prop} (hS : ∀ b, S b → S' b) (h : ∀ b o, S b → w'.cell? ⟨b, o, none⟩ = w.cell? ⟨b, o, none⟩) {a : Nd} {l : Fo} {v : Value} : RepVG w S a l v → RepVG w' S' a l v
  | ⟨hf, A, cap, b, o, hv, hn, hA, hl⟩ => ⟨hf, A, cap, b, o, hv, hn, hA, RepG.keep hS h hl⟩

theorem RepG.toF {w : World} {S : Nat → Prop} {B : Nat} (hS : ∀ b, S b → b < B) : ∀ {f : Fo} {b o : Nat}, RepG w S f b o → RepF w B f b o
  | .nil, _, _, _ => trivial
  | .node _ _ a l r, b, o, ⟨hb, hf, h0, h1, h2, ⟨A, cap, b', o', h3, hn, hA, hl⟩, hr⟩ => ⟨hS b hb, hf, h0, h1, h2, ⟨A, cap, b', o', h3, hn, hA, RepG.toF hS hl⟩, RepG.toF hS hr⟩

theorem RepVG.toV {w : World} {S : Nat → Prop} {B : Nat} (hS : ∀ b, S b → b < B) {a : Nd} {l : Fo} {v : Value} : RepVG w S a l v → RepV w B a l v
  | ⟨hf, A, cap, b, o, hv, hn, hA, hl⟩ => ⟨hf, A, cap, b, o, hv, hn, hA, RepG.toF hS hl⟩

theorem bcell {W w1 : World} (hb : Below W.heap.size W w1) : (∀ b o, b < W.heap.size → w1.cell? ⟨b, o, none⟩ = W.cell? ⟨b, o, none⟩) ∧ (∀ b o, b < W.heap.size → w1.frozen? ⟨b, o, none⟩ = W.frozen? ⟨b, o, none⟩) :=
  ⟨fun b o h => hb.cell (p := ⟨b, o, none⟩) h, fun b o h => hb.frozen (p := ⟨b, o, none⟩) h⟩

end Go.Proofs.YtgmmbfnmojjbkaaGreatDoor
