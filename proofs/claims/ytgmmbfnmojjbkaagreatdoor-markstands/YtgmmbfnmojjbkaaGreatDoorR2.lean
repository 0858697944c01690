import Derived.Test.YtgmmbfnmojjbkaaGreatDoorR1
import Derived.Deep.AppendLies
namespace Go.Proofs.YtgmmbfnmojjbkaaGreatDoor
open Go.RowKit
set_option linter.unusedVariables false
set_option linter.unusedSimpArgs false

/-- A term as it lies in a row: its node, its kids, and where they lie. -/
structure Kd where
  x : Nat
  y : Nat
  a : Nd
  l : Fo
  A : Option Addr
  cap : Nat
  b : Nat
  o : Nat

def Kd.cells (k : Kd) : List Value := [.int .i64 k.a.kind, .int .i64 k.a.n, .string k.a.s, .slice k.A (flen k.l) k.cap]
def Kd.Ok (w : World) (S : Nat → Prop) (k : Kd) : Prop := k.a.Fit ∧ (flen k.l ≤ 9223372036854775807 ∧ flen k.l ≤ k.cap) ∧ (flen k.l = 0 ∨ k.A = some ⟨k.b, k.o, none⟩) ∧ RepG w S k.l k.b k.o

def rowOf : List Kd → List Value
  | [] => []
  | k :: r => k.cells ++ rowOf r

/-- The terms of ks, ahead of those of g. -/
def foOf : List Kd → Fo → Fo
  | [], g => g
  | k :: r, g => .node k.x k.y k.a k.l (foOf r g)

theorem rowOf_append : ∀ (ks js : List Kd), rowOf (ks ++ js) = rowOf ks ++ rowOf js
  | [], _ => rfl
  | k :: r, js => by simp [rowOf, rowOf_append r js]

theorem foOf_append : ∀ (ks js : List Kd) (g : Fo), foOf (ks ++ js) g = foOf ks (foOf js g)
  | [], _, _ => rfl
  | k :: r, js, g => by simp [foOf, foOf_append r js g]

theorem rowOf_length : ∀ ks : List Kd, (rowOf ks).length = 4 * ks.length
  | [] => rfl
  | k :: r => by simp [rowOf, rowOf_length r, Kd.cells]; omega

theorem flen_foOf : ∀ (ks : List Kd), flen (foOf ks .nil) = ks.length
  | [] => rfl
  | k :: r => by simp [foOf, flen, flen_foOf r]

theorem Kd.Ok.keep {w w' : World} {S S' : Nat → Prop} (hS : ∀ b, S b → S' b) (h : ∀ b o, S b → w'.cell? ⟨b, o, none⟩ = w.cell? ⟨b, o, none⟩) {k : Kd} (hk : k.Ok w S) : k.Ok w' S' :=
  ⟨hk.1, hk.2.1, hk.2.2.1, RepG.keep hS h hk.2.2.2⟩

theorem rep_of_row {w : World} {S : Nat → Prop} {g : Nat} (hg : S g) : ∀ (ks : List Kd) (o : Nat), (∀ k ∈ ks, k.Ok w S) → (∀ j, j < 4 * ks.length → w.cell? ⟨g, o + j, none⟩ = (rowOf ks)[j]?) → RepG w S (foOf ks .nil) g o
  | [], _, _, _ => trivial
  | k :: r, o, hk, hc => by
    obtain ⟨k1, k2, k3, k4⟩ := hk k (by simp)
    have c : ∀ j, j < 4 → w.cell? ⟨g, o + j, none⟩ = k.cells[j]? := fun j hj => by
      rw [hc j (by simp; omega), rowOf, List.getElem?_append_left (by simp [Kd.cells]; omega)]
    refine ⟨hg, k1, c 0 (by omega), c 1 (by omega), c 2 (by omega), ⟨k.A, k.cap, k.b, k.o, c 3 (by omega), k2, k3, k4⟩, ?_⟩
    refine rep_of_row hg r (o + 4) (fun k' hk' => hk k' (by simp [hk'])) (fun j hj => ?_)
    rw [show o + 4 + j = o + (4 + j) from by omega, hc (4 + j) (by simp; omega), rowOf, List.getElem?_append_right (by simp [Kd.cells])]
    simp [Kd.cells]

/-- The rows of a forest that lies in memory. -/
theorem kds_of_rep {w : World} {S : Nat → Prop} {g : Nat} : ∀ (f : Fo) (o : Nat), RepG w S f g o → ∃ ks : List Kd, f = foOf ks .nil ∧ (∀ k ∈ ks, k.Ok w S) ∧ (∀ j, j < 4 * ks.length → w.cell? ⟨g, o + j, none⟩ = (rowOf ks)[j]?)
  | .nil, _, _ => ⟨[], rfl, by simp, by simp⟩
  | .node x y a l r, o, ⟨hb, hf, h0, h1, h2, ⟨A, cap, b', o', h3, hn, hA, hl⟩, hr⟩ => by
    obtain ⟨ks, e, hk, hc⟩ := kds_of_rep r (o + 4) hr
    refine ⟨⟨x, y, a, l, A, cap, b', o'⟩ :: ks, by rw [foOf, ← e], ?_, ?_⟩
    · intro k hk'
      rcases List.mem_cons.1 hk' with rfl | hk'
      · exact ⟨hf, hn, hA, hl⟩
      · exact hk k hk'
    · intro j hj
      rw [rowOf]
      by_cases h4 : j < 4
      · rw [List.getElem?_append_left (by simp [Kd.cells]; omega)]
        have : j = 0 ∨ j = 1 ∨ j = 2 ∨ j = 3 := by omega
        rcases this with rfl | rfl | rfl | rfl
        · exact h0
        · exact h1
        · exact h2
        · exact h3
      · rw [List.getElem?_append_right (by simp [Kd.cells]; omega)]
        have := hc (j - 4) (by simp at hj; omega)
        rw [show o + 4 + (j - 4) = o + j from by omega] at this
        rw [this]; simp [Kd.cells]

theorem owns_lt {w : World} {base : Nat} {e : TypeId} {size : Nat} {v : Value} {n : Nat} {xs : List Value} (h : w.ownsRow base e size v n xs) : ∀ k, v.ownBlock = some k → base ≤ k ∧ k < w.heap.size := h.lt

theorem owns_of {w w' : World} {base : Nat} {e : TypeId} {size : Nat} {v : Value} {n : Nat} {xs : List Value} (h : w.ownsRow base e size v n xs) (hb : ∀ k, v.ownBlock = some k → w'.heap[k]? = w.heap[k]?) : w'.ownsRow base e size v n xs := by
  refine ⟨h.1, ?_⟩
  rcases h.2 with k | ⟨g, cap, cur, k1, k2, k3, k4⟩
  · exact .inl k
  · refine .inr ⟨g, cap, cur, k1, k2, ?_, k4⟩
    rw [hb g (by rw [k1]; rfl)]; exact k3

theorem owns_below {w w' : World} {base : Nat} {e : TypeId} {size : Nat} {v : Value} {n : Nat} {xs : List Value} (h : w.ownsRow base e size v n xs) (hb : Below w.heap.size w w') : w'.ownsRow base e size v n xs :=
  owns_of h fun k hk => hb.block k (h.lt k hk).2

theorem Box4.of {w w' : World} {b : Nat} {v0 v1 v2 v3 : Value} (h : Box4 w b v0 v1 v2 v3) (hb : w'.heap[b]? = w.heap[b]?) (hs : b < w'.heap.size) : Box4 w' b v0 v1 v2 v3 := by
  obtain ⟨h0, h1, h2, h3, h4⟩ := h
  have c : ∀ q, w'.cell? ⟨b, q, none⟩ = w.cell? ⟨b, q, none⟩ := fun q => World.cell?_of_block hb
  exact ⟨hs, by rw [c]; exact h1, by rw [c]; exact h2, by rw [c]; exact h3, by rw [c]; exact h4⟩

theorem RepF.toG {w : World} {B : Nat} : ∀ {f : Fo} {b o : Nat}, RepF w B f b o → RepG w (fun b => b < B) f b o
  | .nil, _, _, _ => trivial
  | .node _ _ a l r, b, o, ⟨hb, hf, h0, h1, h2, ⟨A, cap, b', o', h3, hn, hA, hl⟩, hr⟩ => ⟨hb, hf, h0, h1, h2, ⟨A, cap, b', o', h3, hn, hA, RepF.toG hl⟩, RepF.toG hr⟩

end Go.Proofs.YtgmmbfnmojjbkaaGreatDoor
